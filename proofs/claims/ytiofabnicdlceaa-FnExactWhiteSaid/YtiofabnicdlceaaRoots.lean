/-
  Are roots right? The program's and the model's.
-/
import Derived.Test.YtiofabnicdlceaaRoomAt
import Derived.Test.YtiofabnicdlceaaOkAt
import Derived.Test.YtiofabnicdlceaaVals
import Derived.Test.YtiofabnicdlceaaRegion
namespace Go.Proofs.Ytiofabnicdlceaa
open Go.RowKit
set_option linter.unusedVariables false
set_option linter.unusedSimpArgs false

def vlOk (S : List Sl) (x : Vl) : Bool := valOk S x.k x.n x.g
def rootsA (S : List Sl) (l : List Vl) : Bool := decide ((l.length : Int) ≤ 500) && l.all (vlOk S)
theorem vls_at {α : Type} {p : α → Bool} {l : List α} (h : ∀ k (hk : k < l.length), p l[k] = true) : l.all p = true := by
  rw [List.all_eq_true]
  intro x hx
  obtain ⟨i, hi, rfl⟩ := List.mem_iff_getElem.1 hx
  exact h i hi
theorem vls_not {α : Type} {p : α → Bool} {l : List α} {k : Nat} (hk : k < l.length) (h : p l[k] = false) : l.all p = false := by
  cases hq : l.all p
  · rfl
  · rw [List.all_eq_true] at hq
    have := hq _ (List.getElem_mem hk)
    rw [h] at this
    cases this

set_option maxRecDepth 100000 in
set_option maxHeartbeats 4000000 in
theorem rootsOk_c (S : List Sl) (A0 LA A1 A2 : Option Addr) (c0 ln lc q1 c1 q2 c2 : Nat) (l : List Vl) (VA : Option Addr) (vc LV BV : Nat) (w : World) (hBV : BV ≤ w.heap.size) (hl : l.length ≤ 1048576) (h : SlL w 0 w.heap.size A0 S) (hv : VlL w LV BV VA l) :
    Calls Try.prog 41 #[.agg #[.slice A0 S.length c0, .slice LA ln lc, .slice A1 q1 c1, .slice A2 q2 c2], .slice VA l.length vc] w fun e w' => e = .returned (.bool (rootsA S l)) ∧ Below w.heap.size w w' := by
  have hb1 := blw1 w (.cells #[.slice A0 S.length c0, .slice LA ln lc, .slice A1 q1 c1, .slice A2 q2 c2] 66)
  have Hb1 := Lib.hid hb1
  by_cases h5 : 500 < l.length
  · have Hres := Lib.hid (show rootsA S l = false by unfold rootsA; rw [decide_eq_false (by omega)]; rfl)
    clear h hv hb1
    go_enter Try.func41, Try.ntmps41
    go_wp2
    go_ret
    exact ⟨by rw [Hres.out]; first | rfl | simp, Hb1.out⟩
  have HK := Lib.hid (Blk.new w 66 #[.slice A0 S.length c0, .slice LA ln lc, .slice A1 q1 c1, .slice A2 q2 c2])
  have HR := Lib.hid (fun (k n g : Int) (X : World) (hX : Below w.heap.size w X) => roomRight_c A0 c0 (.slice LA ln lc) (.slice A1 q1 c1) (.slice A2 q2 c2) rfl rfl rfl S 0 w.heap.size k n g X hX.size (h.below hX))
  have HV := Lib.hid hv
  have Hno : Hid (∀ k (hk : k < l.length), vlOk S l[k] = false → rootsA S l = false) := Lib.hid (fun k hk h => by unfold rootsA; rw [vls_not hk h]; simp)
  have Hyes : Hid ((∀ k (hk : k < l.length), vlOk S l[k] = true) → rootsA S l = true) := Lib.hid (fun h => by unfold rootsA; rw [vls_at h, decide_eq_true (by omega : (l.length : Int) ≤ 500)]; rfl)
  clear h hv hb1
  go_enter Try.func41, Try.ntmps41
  go_wp2_with fail
  generalize hW : w.alloc (.cells #[.slice A0 S.length c0, .slice LA ln lc, .slice A1 q1 c1, .slice A2 q2 c2] 66) = W
  rw [hW] at Hb1 HK
  clear hW
  go_loopw [12] (fun i wr => ∃ k : Nat, k ≤ l.length ∧ i = .int .i64 k ∧ Hid (∀ j (hj : j < l.length), j < k → vlOk S l[j] = true) ∧ Below W.heap.size W wr) (fun i _ => l.length - (intOf i).toNat)
  case atStart => exact ⟨0, Nat.zero_le _, rfl, Lib.hid (fun j hj h => by omega), Below.refl _ _⟩
  case round =>
    obtain ⟨k, hk, rfl, hall, hbl⟩ := hrel
    have hws := hbl.size
    have hbw := Hb1.out.trans (hbl.mono Hb1.out.size)
    by_cases hlt : k < l.length
    · obtain ⟨ad, rfl, _, hbk, hat⟩ := (HV.out.below (hbw.mono hBV)).2 (by omega)
      obtain ⟨d0, d1, d2⟩ := hat k hlt
      have Hk := Lib.hid (Hno.out k hlt)
      obtain ⟨x, hx⟩ : ∃ x, x = l[k] := ⟨_, rfl⟩
      have Hx := Lib.hid hx
      rw [← hx] at d0 d1 d2 Hk
      obtain ⟨vk, vn, vg⟩ := x
      dsimp only at *
      have hbo := blw1 wr (.cells #[.int .i64 vk, .int .i64 vn, .int .i64 vg] 60)
      have hbn := hbl.trans (hbo.mono hws)
      have K2 := HK.out.below hbn HK.out.lt
      have q0 := K2.cel 0 (v := .slice A0 S.length c0) rfl
      have q1' := K2.cel 1 (v := .slice LA ln lc) rfl
      have q2' := K2.cel 2 (v := .slice A1 q1 c1) rfl
      have q3' := K2.cel 3 (v := .slice A2 q2 c2) rfl
      have Hc := Lib.hid (HR.out vk vn vg (wr.alloc (.cells #[.int .i64 vk, .int .i64 vn, .int .i64 vg] 60)) (Hb1.out.trans (hbn.mono Hb1.out.size)))
      have Hbn := Lib.hid hbn
      clear hat hx hbo hbn K2 hbl hbw
      go_wp2_with fail
      refine Hc.out.mono ?_
      rintro e w2 ⟨rfl, hb2⟩
      have Hbr := Lib.hid (Hbn.out.trans (hb2.mono Hbn.out.size))
      clear hb2 Hc q0 q1' q2' q3' d0 d1 d2
      cases ho : valOk S vk vn vg
      · have Hres := Lib.hid (Hk.out ho)
        have Hbe := Lib.hid (Hb1.out.trans (Hbr.out.mono Hb1.out.size))
        clear ho
        go_wp2
        go_ret
        exact ⟨by rw [Hres.out]; first | rfl | simp, Hbe.out⟩
      · have Hnew : Hid (∀ j (hj : j < l.length), j < k + 1 → vlOk S l[j] = true) := Lib.hid (fun j hj h => by
          by_cases e : j = k
          · subst e; rw [← Hx.out]; exact ho
          · exact hall.out j hj (by omega))
        clear ho
        go_wp2
        go_roundw
        case rel => exact ⟨k + 1, by omega, by go_num, Hnew, Hbr.out⟩
        case measure => simp [intOf]; omega
    · obtain rfl : k = l.length := by omega
      have Hres := Lib.hid (Hyes.out (fun j hj => hall.out j hj hj))
      have Hbe := Lib.hid hbw
      clear hbl hbw
      go_wp2
      go_ret
      exact ⟨by rw [Hres.out]; first | rfl | simp, Hbe.out⟩

set_option maxRecDepth 100000 in
set_option maxHeartbeats 4000000 in
theorem l4vals_c (S : List Sl) (A0 A1 A2 : Option Addr) (c0 q1 c1 q2 c2 : Nat) (l : List Vl) (VA : Option Addr) (vc L B LV BV : Nat) (w : World) (hB : B ≤ w.heap.size) (hBV : BV ≤ w.heap.size) (hl : l.length ≤ 1048576) (h : SlL w L B A0 S) (hv : VlL w LV BV VA l) :
    Calls Try.prog 67 #[.agg #[.slice A0 S.length c0, .slice A1 q1 c1, .slice A2 q2 c2], .slice VA l.length vc] w fun e w' => e = .returned (.bool (rootsA S l)) ∧ Below w.heap.size w w' := by
  have hb1 := blw1 w (.cells #[.slice A0 S.length c0, .slice A1 q1 c1, .slice A2 q2 c2] 32)
  have Hb1 := Lib.hid hb1
  have HK := Lib.hid (Blk.new w 32 #[.slice A0 S.length c0, .slice A1 q1 c1, .slice A2 q2 c2])
  have HR := Lib.hid (fun (k n g : Int) (X : World) (hX : Below w.heap.size w X) => l4val_c S A0 c0 L B (.slice A1 q1 c1) (.slice A2 q2 c2) k n g rfl rfl X (Nat.le_trans hB hX.size) (h.below (hX.mono hB)))
  have HV := Lib.hid hv
  have Hno : Hid (∀ k (hk : k < l.length), vlOk S l[k] = false → rootsA S l = false) := Lib.hid (fun k hk h => by unfold rootsA; rw [vls_not hk h]; simp)
  have Hyes : Hid ((∀ k (hk : k < l.length), vlOk S l[k] = true) → rootsA S l = decide ((l.length : Int) ≤ 500)) := Lib.hid (fun h => by unfold rootsA; rw [vls_at h]; simp)
  clear h hv hb1
  go_enter Try.func67, Try.ntmps67
  go_wp2_with fail
  generalize hW : w.alloc (.cells #[.slice A0 S.length c0, .slice A1 q1 c1, .slice A2 q2 c2] 32) = W
  rw [hW] at Hb1 HK
  clear hW
  go_loopw [5] (fun i wr => ∃ k : Nat, k ≤ l.length ∧ i = .int .i64 k ∧ Hid (∀ j (hj : j < l.length), j < k → vlOk S l[j] = true) ∧ Below W.heap.size W wr) (fun i _ => l.length - (intOf i).toNat)
  case atStart => exact ⟨0, Nat.zero_le _, rfl, Lib.hid (fun j hj h => by omega), Below.refl _ _⟩
  case round =>
    obtain ⟨k, hk, rfl, hall, hbl⟩ := hrel
    have hws := hbl.size
    have hbw := Hb1.out.trans (hbl.mono Hb1.out.size)
    by_cases hlt : k < l.length
    · obtain ⟨ad, rfl, _, hbk, hat⟩ := (HV.out.below (hbw.mono hBV)).2 (by omega)
      obtain ⟨d0, d1, d2⟩ := hat k hlt
      have Hk := Lib.hid (Hno.out k hlt)
      obtain ⟨x, hx⟩ : ∃ x, x = l[k] := ⟨_, rfl⟩
      have Hx := Lib.hid hx
      rw [← hx] at d0 d1 d2 Hk
      obtain ⟨vk, vn, vg⟩ := x
      dsimp only at *
      have HK2 := Lib.hid (HK.out.below hbl HK.out.lt)
      have Hlow := Lib.hid (fun u : Wn wr => hbw.trans (u.prop.mono hbw.size))
      have Hbl := Lib.hid hbl
      have hdl : (ad.add (k * 3)).block < wr.heap.size := by rw [block_of_add]; have := hbw.size; omega
      have q0 : ∀ u : Wn wr, u.val.cell? ⟨w.heap.size, 0, none⟩ = some (.slice A0 S.length c0) := fun u => (HK2.out.below u.prop HK2.out.lt).cel 0 rfl
      have q1' : ∀ u : Wn wr, u.val.cell? ⟨w.heap.size, 1, none⟩ = some (.slice A1 q1 c1) := fun u => (HK2.out.below u.prop HK2.out.lt).cel 1 rfl
      have q2' : ∀ u : Wn wr, u.val.cell? ⟨w.heap.size, 2, none⟩ = some (.slice A2 q2 c2) := fun u => (HK2.out.below u.prop HK2.out.lt).cel 2 rfl
      have r0 : ∀ u : Wn wr, u.val.cell? (ad.add (k * 3)) = some (.int .i64 vk) := fun u => (u.prop.cell (p := ad.add (k * 3)) hdl).trans d0
      have r1 : ∀ u : Wn wr, u.val.cell? ⟨(ad.add (k * 3)).block, (ad.add (k * 3)).off + 1, none⟩ = some (.int .i64 vn) := fun u => (u.prop.cell (p := ⟨(ad.add (k * 3)).block, _, none⟩) hdl).trans d1
      have r2 : ∀ u : Wn wr, u.val.cell? ⟨(ad.add (k * 3)).block, (ad.add (k * 3)).off + 2, none⟩ = some (.int .i64 vg) := fun u => (u.prop.cell (p := ⟨(ad.add (k * 3)).block, _, none⟩) hdl).trans d2
      have hcl := fun u : Wn wr => HR.out vk vn vg u.val (Hlow.out u)
      clear hat hx hbl hbw d0 d1 d2 hdl
      cases ho : valOk S vk vn vg
      · have Hres := Lib.hid (Hk.out ho)
        rw [ho] at hcl
        have Hc := Lib.hid (fun u => Calls.there u (hcl u))
        clear ho hcl
        go_wp2_with fail
        refine region_below (by kernel_rfl) (by kernel_rfl) ?_
        repeat (go_big_quiet_step ((go_at_call 65; exact Hc.out _)))
        refine wpQuiet_nil ?_
        intro w2 hw2
        obtain ⟨⟨w2, hb2⟩, rfl⟩ := hw2
        clear q0 q1' q2' r0 r1 r2
        go_wp2
        go_ret
        exact ⟨by rw [Hres.out]; first | rfl | simp, Hlow.out ⟨w2, hb2⟩⟩
      · have Hnew : Hid (∀ j (hj : j < l.length), j < k + 1 → vlOk S l[j] = true) := Lib.hid (fun j hj h => by
          by_cases e : j = k
          · subst e; rw [← Hx.out]; exact ho
          · exact hall.out j hj (by omega))
        rw [ho] at hcl
        have Hc := Lib.hid (fun u => Calls.there u (hcl u))
        clear ho hcl
        go_wp2_with fail
        refine region_below (by kernel_rfl) (by kernel_rfl) ?_
        repeat (go_big_quiet_step ((go_at_call 65; exact Hc.out _)))
        refine wpQuiet_nil ?_
        intro w2 hw2
        obtain ⟨⟨w2, hb2⟩, rfl⟩ := hw2
        clear q0 q1' q2' r0 r1 r2
        go_wp2
        go_roundw
        case rel => exact ⟨k + 1, by omega, by go_num, Hnew, Hbl.out.trans (hb2.mono hws)⟩
        case measure => simp [intOf]; omega
    · obtain rfl : k = l.length := by omega
      have Hres := Lib.hid (Hyes.out (fun j hj => hall.out j hj hj))
      have Hbe := Lib.hid hbw
      clear hbl hbw
      go_wp2
      go_ret
      exact ⟨by rw [Hres.out]; first | rfl | simp, Hbe.out⟩
end Go.Proofs.Ytiofabnicdlceaa
