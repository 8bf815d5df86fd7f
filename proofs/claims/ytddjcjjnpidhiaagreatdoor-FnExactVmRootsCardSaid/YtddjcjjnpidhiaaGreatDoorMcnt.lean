/-
  Who refers to whom, as functions over lists; what a machine must be.
-/
import Derived.Test.YtddjcjjnpidhiaaGreatDoorMroomOf
import Derived.Test.YtddjcjjnpidhiaaGreatDoorOkAt
import Derived.Test.YtddjcjjnpidhiaaGreatDoorMrow
import Derived.Test.YtddjcjjnpidhiaaGreatDoorRegion
import Derived.Test.YtddjcjjnpidhiaaGreatDoorMfrm
import Derived.Test.YtddjcjjnpidhiaaGreatDoorCodeD
namespace Go.Proofs.YtddjcjjnpidhiaaGreatDoor
open Go.RowKit
set_option linter.unusedVariables false
set_option linter.unusedSimpArgs false

def vlOk (S : List Sl) (x : Vl) : Bool := valOk S x.k x.n x.g
def rootsA (S : List Sl) (l : List Vl) : Bool := decide ((l.length : Int) ≤ 500) && l.all (vlOk S)
theorem vls_at {α : Type} {p : α → Bool} {l : List α} (h : ∀ k (hk : k < l.length), p l[k] = true) : l.all p = true := by
  rw [List.all_eq_true]
  intro x hx
  obtain ⟨i, hi, rfl⟩ := List.mem_iff_getElem.1 hx
  exact h i hi
theorem vls_not {α : Type} {p : α → Bool} {l : List α} {k : Nat} (hk : k < l.length) (h : p l[k] = false) : l.all p = false := by
  cases hq : l.all p
  · rfl
  · rw [List.all_eq_true] at hq
    have := hq _ (List.getElem_mem hk)
    rw [h] at this
    cases this

set_option maxRecDepth 100000 in
set_option maxHeartbeats 4000000 in
theorem rootsOk_c (S : List Sl) (A0 LA A1 A2 : Option Addr) (c0 ln lc q1 c1 q2 c2 : Nat) (l : List Vl) (VA : Option Addr) (vc LV BV : Nat) (w : World) (hBV : BV ≤ w.heap.size) (hl : l.length ≤ 1048576) (h : SlL w 0 w.heap.size A0 S) (hv : VlL w LV BV VA l) :
    Calls Tryz.prog 70 #[.agg #[.slice A0 S.length c0, .slice LA ln lc, .slice A1 q1 c1, .slice A2 q2 c2], .slice VA l.length vc] w fun e w' => e = .returned (.bool (rootsA S l)) ∧ Below w.heap.size w w' := by
  have hb1 := blw1 w (.cells #[.slice A0 S.length c0, .slice LA ln lc, .slice A1 q1 c1, .slice A2 q2 c2] 110)
  have Hb1 := Lib.hid hb1
  by_cases h5 : 500 < l.length
  · have Hres := Lib.hid (show rootsA S l = false by unfold rootsA; rw [decide_eq_false (by omega)]; rfl)
    clear h hv hb1
    go_enter Tryz.func70, Tryz.ntmps70
    go_wp2
    go_ret
    exact ⟨by rw [Hres.out]; first | rfl | simp, Hb1.out⟩
  have HK := Lib.hid (Blk.new w 110 #[.slice A0 S.length c0, .slice LA ln lc, .slice A1 q1 c1, .slice A2 q2 c2])
  have HR := Lib.hid (fun (k n g : Int) (X : World) (hX : Below w.heap.size w X) => roomRight_c A0 c0 (.slice LA ln lc) (.slice A1 q1 c1) (.slice A2 q2 c2) rfl rfl rfl S 0 w.heap.size k n g X hX.size (h.below hX))
  have HV := Lib.hid hv
  have Hno : Hid (∀ k (hk : k < l.length), vlOk S l[k] = false → rootsA S l = false) := Lib.hid (fun k hk h => by unfold rootsA; rw [vls_not hk h]; simp)
  have Hyes : Hid ((∀ k (hk : k < l.length), vlOk S l[k] = true) → rootsA S l = true) := Lib.hid (fun h => by unfold rootsA; rw [vls_at h, decide_eq_true (by omega : (l.length : Int) ≤ 500)]; rfl)
  clear h hv hb1
  go_enter Tryz.func70, Tryz.ntmps70
  go_wp2_with fail
  generalize hW : w.alloc (.cells #[.slice A0 S.length c0, .slice LA ln lc, .slice A1 q1 c1, .slice A2 q2 c2] 110) = W
  rw [hW] at Hb1 HK
  clear hW
  go_loopw [12] (fun i wr => ∃ k : Nat, k ≤ l.length ∧ i = .int .i64 k ∧ Hid (∀ j (hj : j < l.length), j < k → vlOk S l[j] = true) ∧ Below W.heap.size W wr) (fun i _ => l.length - (intOf i).toNat)
  case atStart => exact ⟨0, Nat.zero_le _, rfl, Lib.hid (fun j hj h => by omega), Below.refl _ _⟩
  case round =>
    obtain ⟨k, hk, rfl, hall, hbl⟩ := hrel
    have hws := hbl.size
    have hbw := Hb1.out.trans (hbl.mono Hb1.out.size)
    by_cases hlt : k < l.length
    · obtain ⟨ad, rfl, _, hbk, hat⟩ := (HV.out.below (hbw.mono hBV)).2 (by omega)
      obtain ⟨d0, d1, d2⟩ := hat k hlt
      have Hk := Lib.hid (Hno.out k hlt)
      obtain ⟨x, hx⟩ : ∃ x, x = l[k] := ⟨_, rfl⟩
      have Hx := Lib.hid hx
      rw [← hx] at d0 d1 d2 Hk
      obtain ⟨vk, vn, vg⟩ := x
      dsimp only at *
      have hbo := blw1 wr (.cells #[.int .i64 vk, .int .i64 vn, .int .i64 vg] 77)
      have hbn := hbl.trans (hbo.mono hws)
      have K2 := HK.out.below hbn HK.out.lt
      have q0 := K2.cel 0 (v := .slice A0 S.length c0) rfl
      have q1' := K2.cel 1 (v := .slice LA ln lc) rfl
      have q2' := K2.cel 2 (v := .slice A1 q1 c1) rfl
      have q3' := K2.cel 3 (v := .slice A2 q2 c2) rfl
      have Hc := Lib.hid (HR.out vk vn vg (wr.alloc (.cells #[.int .i64 vk, .int .i64 vn, .int .i64 vg] 77)) (Hb1.out.trans (hbn.mono Hb1.out.size)))
      have Hbn := Lib.hid hbn
      clear hat hx hbo hbn K2 hbl hbw
      go_wp2_with fail
      refine Hc.out.mono ?_
      rintro e w2 ⟨rfl, hb2⟩
      have Hbr := Lib.hid (Hbn.out.trans (hb2.mono Hbn.out.size))
      clear hb2 Hc q0 q1' q2' q3' d0 d1 d2
      cases ho : valOk S vk vn vg
      · have Hres := Lib.hid (Hk.out ho)
        have Hbe := Lib.hid (Hb1.out.trans (Hbr.out.mono Hb1.out.size))
        clear ho
        go_wp2
        go_ret
        exact ⟨by rw [Hres.out]; first | rfl | simp, Hbe.out⟩
      · have Hnew : Hid (∀ j (hj : j < l.length), j < k + 1 → vlOk S l[j] = true) := Lib.hid (fun j hj h => by
          by_cases e : j = k
          · subst e; rw [← Hx.out]; exact ho
          · exact hall.out j hj (by omega))
        clear ho
        go_wp2
        go_roundw
        case rel => exact ⟨k + 1, by omega, by go_num, Hnew, Hbr.out⟩
        case measure => simp [intOf]; omega
    · obtain rfl : k = l.length := by omega
      have Hres := Lib.hid (Hyes.out (fun j hj => hall.out j hj hj))
      have Hbe := Lib.hid hbw
      clear hbl hbw
      go_wp2
      go_ret
      exact ⟨by rw [Hres.out]; first | rfl | simp, Hbe.out⟩

set_option maxRecDepth 100000 in
set_option maxHeartbeats 4000000 in
theorem l4vals_c (S : List Sl) (A0 A1 A2 : Option Addr) (c0 q1 c1 q2 c2 : Nat) (l : List Vl) (VA : Option Addr) (vc L B LV BV : Nat) (w : World) (hB : B ≤ w.heap.size) (hBV : BV ≤ w.heap.size) (hl : l.length ≤ 1048576) (h : SlL w L B A0 S) (hv : VlL w LV BV VA l) :
    Calls Tryz.prog 31 #[.agg #[.slice A0 S.length c0, .slice A1 q1 c1, .slice A2 q2 c2], .slice VA l.length vc] w fun e w' => e = .returned (.bool (rootsA S l)) ∧ Below w.heap.size w w' := by
  have hb1 := blw1 w (.cells #[.slice A0 S.length c0, .slice A1 q1 c1, .slice A2 q2 c2] 40)
  have Hb1 := Lib.hid hb1
  have HK := Lib.hid (Blk.new w 40 #[.slice A0 S.length c0, .slice A1 q1 c1, .slice A2 q2 c2])
  have HR := Lib.hid (fun (k n g : Int) (X : World) (hX : Below w.heap.size w X) => l4val_c S A0 c0 L B (.slice A1 q1 c1) (.slice A2 q2 c2) k n g rfl rfl X (Nat.le_trans hB hX.size) (h.below (hX.mono hB)))
  have HV := Lib.hid hv
  have Hno : Hid (∀ k (hk : k < l.length), vlOk S l[k] = false → rootsA S l = false) := Lib.hid (fun k hk h => by unfold rootsA; rw [vls_not hk h]; simp)
  have Hyes : Hid ((∀ k (hk : k < l.length), vlOk S l[k] = true) → rootsA S l = decide ((l.length : Int) ≤ 500)) := Lib.hid (fun h => by unfold rootsA; rw [vls_at h]; simp)
  clear h hv hb1
  go_enter Tryz.func31, Tryz.ntmps31
  go_wp2_with fail
  generalize hW : w.alloc (.cells #[.slice A0 S.length c0, .slice A1 q1 c1, .slice A2 q2 c2] 40) = W
  rw [hW] at Hb1 HK
  clear hW
  go_loopw [5] (fun i wr => ∃ k : Nat, k ≤ l.length ∧ i = .int .i64 k ∧ Hid (∀ j (hj : j < l.length), j < k → vlOk S l[j] = true) ∧ Below W.heap.size W wr) (fun i _ => l.length - (intOf i).toNat)
  case atStart => exact ⟨0, Nat.zero_le _, rfl, Lib.hid (fun j hj h => by omega), Below.refl _ _⟩
  case round =>
    obtain ⟨k, hk, rfl, hall, hbl⟩ := hrel
    have hws := hbl.size
    have hbw := Hb1.out.trans (hbl.mono Hb1.out.size)
    by_cases hlt : k < l.length
    · obtain ⟨ad, rfl, _, hbk, hat⟩ := (HV.out.below (hbw.mono hBV)).2 (by omega)
      obtain ⟨d0, d1, d2⟩ := hat k hlt
      have Hk := Lib.hid (Hno.out k hlt)
      obtain ⟨x, hx⟩ : ∃ x, x = l[k] := ⟨_, rfl⟩
      have Hx := Lib.hid hx
      rw [← hx] at d0 d1 d2 Hk
      obtain ⟨vk, vn, vg⟩ := x
      dsimp only at *
      have HK2 := Lib.hid (HK.out.below hbl HK.out.lt)
      have Hlow := Lib.hid (fun u : Wn wr => hbw.trans (u.prop.mono hbw.size))
      have Hbl := Lib.hid hbl
      have hdl : (ad.add (k * 3)).block < wr.heap.size := by rw [block_of_add]; have := hbw.size; omega
      have q0 : ∀ u : Wn wr, u.val.cell? ⟨w.heap.size, 0, none⟩ = some (.slice A0 S.length c0) := fun u => (HK2.out.below u.prop HK2.out.lt).cel 0 rfl
      have q1' : ∀ u : Wn wr, u.val.cell? ⟨w.heap.size, 1, none⟩ = some (.slice A1 q1 c1) := fun u => (HK2.out.below u.prop HK2.out.lt).cel 1 rfl
      have q2' : ∀ u : Wn wr, u.val.cell? ⟨w.heap.size, 2, none⟩ = some (.slice A2 q2 c2) := fun u => (HK2.out.below u.prop HK2.out.lt).cel 2 rfl
      have r0 : ∀ u : Wn wr, u.val.cell? (ad.add (k * 3)) = some (.int .i64 vk) := fun u => (u.prop.cell (p := ad.add (k * 3)) hdl).trans d0
      have r1 : ∀ u : Wn wr, u.val.cell? ⟨(ad.add (k * 3)).block, (ad.add (k * 3)).off + 1, none⟩ = some (.int .i64 vn) := fun u => (u.prop.cell (p := ⟨(ad.add (k * 3)).block, _, none⟩) hdl).trans d1
      have r2 : ∀ u : Wn wr, u.val.cell? ⟨(ad.add (k * 3)).block, (ad.add (k * 3)).off + 2, none⟩ = some (.int .i64 vg) := fun u => (u.prop.cell (p := ⟨(ad.add (k * 3)).block, _, none⟩) hdl).trans d2
      have hcl := fun u : Wn wr => HR.out vk vn vg u.val (Hlow.out u)
      clear hat hx hbl hbw d0 d1 d2 hdl
      cases ho : valOk S vk vn vg
      · have Hres := Lib.hid (Hk.out ho)
        rw [ho] at hcl
        have Hc := Lib.hid (fun u => Calls.there u (hcl u))
        clear ho hcl
        go_wp2_with fail
        refine region_below (by kernel_rfl) (by kernel_rfl) ?_
        repeat (go_big_quiet_step ((go_at_call 60; exact Hc.out _)))
        refine wpQuiet_nil ?_
        intro w2 hw2
        obtain ⟨⟨w2, hb2⟩, rfl⟩ := hw2
        clear q0 q1' q2' r0 r1 r2
        go_wp2
        go_ret
        exact ⟨by rw [Hres.out]; first | rfl | simp, Hlow.out ⟨w2, hb2⟩⟩
      · have Hnew : Hid (∀ j (hj : j < l.length), j < k + 1 → vlOk S l[j] = true) := Lib.hid (fun j hj h => by
          by_cases e : j = k
          · subst e; rw [← Hx.out]; exact ho
          · exact hall.out j hj (by omega))
        rw [ho] at hcl
        have Hc := Lib.hid (fun u => Calls.there u (hcl u))
        clear ho hcl
        go_wp2_with fail
        refine region_below (by kernel_rfl) (by kernel_rfl) ?_
        repeat (go_big_quiet_step ((go_at_call 60; exact Hc.out _)))
        refine wpQuiet_nil ?_
        intro w2 hw2
        obtain ⟨⟨w2, hb2⟩, rfl⟩ := hw2
        clear q0 q1' q2' r0 r1 r2
        go_wp2
        go_roundw
        case rel => exact ⟨k + 1, by omega, by go_num, Hnew, Hbl.out.trans (hb2.mono hws)⟩
        case measure => simp [intOf]; omega
    · obtain rfl : k = l.length := by omega
      have Hres := Lib.hid (Hyes.out (fun j hj => hall.out j hj hj))
      have Hbe := Lib.hid hbw
      clear hbl hbw
      go_wp2
      go_ret
      exact ⟨by rw [Hres.out]; first | rfl | simp, Hbe.out⟩
end Go.Proofs.YtddjcjjnpidhiaaGreatDoor

namespace Go.Proofs.YtddjcjjnpidhiaaGreatDoor
open Go.RowKit
set_option linter.unusedVariables false
set_option linter.unusedSimpArgs false

theorem infoVl : (Tryz.prog.info? 77).map (fun i => (i.zero, i.size, i.bytes)) = some (some (.agg #[.int .i64 0, .int .i64 0, .int .i64 0]), 3, 24) := by kernel_rfl

set_option maxRecDepth 100000 in
set_option maxHeartbeats 2000000 in
theorem slotKids_c (s : Sl) (FA : Option Addr) (fc L B : Nat) (w : World) (hB : B ≤ w.heap.size) (hl : s.fs.length ≤ 1048576) (h : FdL w L B FA s.fs) :
    Calls Tryz.prog 99 #[.agg #[.bool s.live, .int .i64 s.gen, .int .i64 s.count, .slice FA s.fs.length fc]] w (AnsI w (refsTo s.fs s.fs.length)) := by
  obtain ⟨i0, hi, hz0, hz1, hz2⟩ := info_parts infoVl
  obtain ⟨fs, hfs⟩ : ∃ f, f = s.fs := ⟨_, rfl⟩
  rw [← hfs] at h hl
  rw [← hfs]
  obtain ⟨sl, hsl⟩ : ∃ f, f = s.live := ⟨_, rfl⟩
  obtain ⟨gn, hgn⟩ : ∃ f, f = s.gen := ⟨_, rfl⟩
  obtain ⟨ct, hct⟩ : ∃ f, f = s.count := ⟨_, rfl⟩
  rw [← hsl, ← hgn, ← hct]
  clear hsl hgn hct hfs
  have hbr := blw1 w (.cells #[.bool sl, .int .i64 gn, .int .i64 ct, .slice FA fs.length fc] 138)
  have H := Lib.hid (h.below (hbr.mono hB))
  have Hb := Lib.hid hbr
  clear h hbr
  go_enter Tryz.func99, Tryz.ntmps99
  go_wp2_with fail
  generalize hW : w.alloc (.cells #[.bool sl, .int .i64 gn, .int .i64 ct, .slice FA fs.length fc] 138) = W
  rw [hW] at H Hb
  have hWs : w.heap.size ≤ W.heap.size := by rw [← hW]; simp
  have HWs := Lib.hid hWs
  clear hW hWs
  go_loopw [3, 9] (fun n i wr => ∃ k : Nat, k ≤ fs.length ∧ i = .int .i64 k ∧ Hid (VRow wr W.heap.size n (valsTo fs k)) ∧ Below W.heap.size W wr) (fun _ i _ => fs.length - (intOf i).toNat)
  case atStart => exact ⟨0, Nat.zero_le _, rfl, Lib.hid (VRow.nil _ _), Below.refl _ _⟩
  case round =>
    obtain ⟨k, hk, rfl, hrow, hbl⟩ := hrel
    obtain ⟨A', c', rfl, hlc⟩ := hrow.out.form
    have hll := valsTo_len hk
    have hws := hbl.size
    by_cases hlt : k < fs.length
    · obtain ⟨ad, rfl, _, hbk, hat⟩ := (H.out.below (hbl.mono (Nat.le_trans hB HWs.out))).2 (by omega)
      obtain ⟨y0, y1, y2, y3, ⟨f0, f1, f2, f3⟩, NA, nc, rfl, -, -, rfl, rfl, rfl⟩ := hat k hlt
      have Hn := Lib.hid (valsTo_succ hlt)
      obtain ⟨fk, hfk⟩ : ∃ f, f = fs[k].k := ⟨_, rfl⟩
      obtain ⟨fn, hfn⟩ : ∃ f, f = fs[k].n := ⟨_, rfl⟩
      obtain ⟨fg, hfg⟩ : ∃ f, f = fs[k].g := ⟨_, rfl⟩
      obtain ⟨nl, hnl⟩ : ∃ f, f = fs[k].name.length := ⟨_, rfl⟩
      rw [← hnl] at f0
      rw [← hfk] at f1 Hn
      rw [← hfn] at f2 Hn
      rw [← hfg] at f3 Hn
      clear hat hfk hfn hfg hnl
      have hr1 := hrow.out.alloc (.cells #[.slice NA nl nc, .int .i64 fk, .int .i64 fn, .int .i64 fg] 98)
      have hbl1 := hbl.trans ((blw1 wr (.cells #[.slice NA nl nc, .int .i64 fk, .int .i64 fn, .int .i64 fg] 98)).mono hws)
      have HO := Lib.hid (hr1.alloc (.cells #[.int .i64 fk, .int .i64 fn, .int .i64 fg] 77))
      have hcell : ∀ j u, [Value.int .i64 fk, .int .i64 fn, .int .i64 fg][j]? = some u → ((wr.alloc (.cells #[.slice NA nl nc, .int .i64 fk, .int .i64 fn, .int .i64 fg] 98)).alloc (.cells #[.int .i64 fk, .int .i64 fn, .int .i64 fg] 77)).cell? ((⟨wr.heap.size + 1, 0, none⟩ : Addr).add j) = some u := fun j u hj => by
        have hB2 := Blk.new (wr.alloc (.cells #[.slice NA nl nc, .int .i64 fk, .int .i64 fn, .int .i64 fg] 98)) 77 #[.int .i64 fk, .int .i64 fn, .int .i64 fg]
        rw [World.size_alloc] at hB2
        rw [add_zero_, hB2.cell]
        simpa using hj
      have Hcell := Lib.hid hcell
      have Hbl1 := Lib.hid hbl1
      clear hr1 hbl hbl1 hcell
      go_wp2_with (at_builtin; refine wpList_append_own _ rfl (.tmp 13) (.tmp 16) 47 rfl W.heap.size 77 i0 _ 3 24 Tryz.underlying47 hi hz0 hz1 hz2 rfl (by omega) _ _ _ rfl HO.out ⟨wr.heap.size + 1, 0, none⟩ 1 1 [.int .i64 fk, .int .i64 fn, .int .i64 fg] rfl rfl Hcell.out (by simp [Value.oneCell']) (by unfold maxLen; omega) (by omega) (by simp; omega) ?_; intro v' w4 hown' hgrow _)
      have hbn : Below W.heap.size W w4 := HO.out.grown (Hbl1.out.alloc (by simp; omega) _) (by simp; omega) hgrow
      have Hnew := Lib.hid (VRow.snoc (x := ⟨fk, fn, fg⟩) hown')
      have Hbn := Lib.hid hbn
      clear hown' hgrow hbn HO Hcell Hbl1
      go_roundw
      case rel => exact ⟨k + 1, by omega, by go_num, by rw [Hn.out]; exact Hnew, Hbn.out⟩
      case measure => simp [intOf]; omega
    · obtain rfl : k = fs.length := by omega
      have hrow := hrow.out
      have hrv := refsV_vals fs
      obtain ⟨vs, hvs⟩ : ∃ v, v = valsTo fs fs.length := ⟨_, rfl⟩
      rw [← hvs] at hrow hll hrv hlc
      rw [← hvs]
      have hr := refsAmong_c vs A' c' W.heap.size wr.heap.size wr (Nat.le_refl _) (by omega) (hrow.vl (by unfold maxLen; omega))
      rw [hrv] at hr
      clear hvs hrv hll
      have Hr := Lib.hid hr
      have Hbw := Lib.hid (Hb.out.trans (hbl.mono HWs.out))
      clear hr hbl
      go_wp2_with fail
      refine Hr.out.mono ?_
      rintro e w2 ⟨A2, c2, rfl, ho, hb2⟩
      have Hb3 := Lib.hid (Hbw.out.trans (hb2.mono Hbw.out.size))
      have Ho := Lib.hid (ho.lo_le Hbw.out.size)
      clear ho hb2 Hr
      go_wp2
      go_ret
      exact ⟨_, _, rfl, Ho.out, Hb3.out⟩
theorem slots_fs {a : Ar} (h : arSz a ≤ 1048576) {k : Nat} (hk : k < a.slots.length) : a.slots[k].fs.length ≤ 1048576 := by
  have h1 : sumIn slSz a.slots (k + 1) ≤ sumIn slSz a.slots a.slots.length := by
    unfold sumIn
    rw [List.take_length]
    conv => rhs; rw [← List.take_append_drop (k + 1) a.slots, List.map_append, List.sum_append]
    omega
  have h2 := sumIn_step slSz hk
  have h3 : sumIn slSz a.slots a.slots.length = (a.slots.map slSz).sum := by unfold sumIn; rw [List.take_length]
  have h4 : a.slots[k].fs.length ≤ slSz a.slots[k] := by unfold slSz fsSz; omega
  unfold arSz slsSz at h
  omega
end Go.Proofs.YtddjcjjnpidhiaaGreatDoor

namespace Go.Proofs.YtddjcjjnpidhiaaGreatDoor
open Go.RowKit
set_option linter.unusedVariables false
set_option linter.unusedSimpArgs false

def bump1 (c : List Int) (n : Int) : List Int := c.set n.toNat (c.getD n.toNat 0 + 1)
def bumps (c : List Int) (l : List Int) : List Int := l.foldl bump1 c
theorem bump1_len (c : List Int) (n : Int) : (bump1 c n).length = c.length := by simp [bump1]
theorem bumps_len (l : List Int) : ∀ c : List Int, (bumps c l).length = c.length := by
  induction l with
  | nil => intro c; rfl
  | cons x r ih => intro c; show (bumps (bump1 c x) r).length = _; rw [ih, bump1_len]
theorem bumps_app (c l r : List Int) : bumps c (l ++ r) = bumps (bumps c l) r := List.foldl_append
theorem bumps_snoc (c : List Int) {l : List Int} {k : Nat} (h : k < l.length) : bumps c (l.take (k + 1)) = bump1 (bumps c (l.take k)) l[k] := by
  rw [List.take_succ_eq_append_getElem h, bumps_app]; rfl
/-- no count is above m -/
def Sm (c : List Int) (m : Nat) : Prop := ∀ i (h : i < c.length), 0 ≤ c[i] ∧ c[i] ≤ m
theorem Sm.bump {c : List Int} {m : Nat} (h : Sm c m) (n : Int) : Sm (bump1 c n) (m + 1) := fun i hi => by
  have hi' := hi
  rw [bump1_len] at hi'
  have e : (bump1 c n)[i] = (c.set n.toNat (c.getD n.toNat 0 + 1))[i]'(by rw [List.length_set]; exact hi') := rfl
  rw [e, List.getElem_set]
  split
  · rename_i e
    have hn : n.toNat < c.length := by omega
    have := h n.toNat hn
    rw [List.getD_eq_getElem?_getD, List.getElem?_eq_getElem hn]
    simp only [Option.getD_some]
    omega
  · have := h i hi'
    omega
theorem Sm.bumps (l : List Int) : ∀ {c : List Int} {m : Nat}, Sm c m → Sm (bumps c l) (m + l.length) := by
  induction l with
  | nil => intro c m h; exact h
  | cons x r ih =>
    intro c m h
    have := ih (h.bump x)
    rw [show m + (x :: r).length = m + 1 + r.length by simp; omega]
    exact this
theorem Sm.zero (n : Nat) : Sm (List.replicate n 0) 0 := fun i hi => by simp
/-- all in range -/
def InR (N : Nat) (l : List Int) : Prop := ∀ k (h : k < l.length), 0 ≤ l[k] ∧ l[k] < N
theorem InR.mem {N : Nat} {l : List Int} (h : ∀ x ∈ l, 0 ≤ x ∧ x < (N : Int)) : InR N l := fun k hk => h _ (List.getElem_mem hk)
theorem vi_set (c : List Int) (j : Nat) (x : Int) : (vi c).toArray.setIfInBounds j (.int .i64 x) = (vi (c.set j x)).toArray := by
  apply Array.ext'
  simp [vi, List.map_set]

/-- nothing but one block has been touched -/
structure Tch (g : Nat) (w w' : World) : Prop where
  os : w'.os = w.os
  tape : w'.tape = w.tape
  output : w'.output = w.output
  size : w'.heap.size = w.heap.size
  block : ∀ b, b ≠ g → w'.heap[b]? = w.heap[b]?
theorem Tch.refl (g : Nat) (w : World) : Tch g w w := ⟨rfl, rfl, rfl, rfl, fun _ _ => rfl⟩
theorem Tch.set_ {g : Nat} {w w' : World} (h : Tch g w w') (i : Nat) (v : Value) : Tch g w (w'.setCell ⟨g, i, none⟩ v) :=
  ⟨h.os, h.tape, h.output, by rw [World.size_setCell]; exact h.size, fun b hb => (Below.heap_setCell w' ⟨g, i, none⟩ v b hb).trans (h.block b hb)⟩
theorem Tch.below {g B : Nat} {w w' : World} (h : Tch g w w') (hB : B ≤ g) : Below B w w' := ⟨h.os, h.tape, h.output, by rw [h.size]; exact Nat.le_refl _, fun b hb => h.block b (by omega)⟩
theorem Tch.cell {g : Nat} {w w' : World} (h : Tch g w w') {p : Addr} (hp : p.block ≠ g) : w'.cell? p = w.cell? p := World.cell?_of_block (h.block _ hp)
end Go.Proofs.YtddjcjjnpidhiaaGreatDoor

namespace Go.Proofs.YtddjcjjnpidhiaaGreatDoor
open Go.RowKit
set_option linter.unusedVariables false
set_option linter.unusedSimpArgs false

/-- whom the first k slots' fields refer to -/
def flTo (S : List Sl) (k : Nat) : List Int := (S.take k).flatMap fun s => refsTo s.fs s.fs.length
theorem flTo_zero (S : List Sl) : flTo S 0 = [] := rfl
theorem flTo_succ {S : List Sl} {k : Nat} (h : k < S.length) : flTo S (k + 1) = flTo S k ++ refsTo S[k].fs S[k].fs.length := by
  unfold flTo
  rw [List.take_succ_eq_append_getElem h, List.flatMap_append]
  simp
theorem flTo_len {S : List Sl} (h : slsSz S ≤ 1048576) : ∀ k, k ≤ S.length → (flTo S k).length ≤ sumIn slSz S k
  | 0, _ => Nat.zero_le _
  | k + 1, hk => by
    have h1 := flTo_len h k (by omega)
    rw [flTo_succ (show k < S.length by omega), List.length_append, sumIn_step slSz (show k < S.length by omega)]
    have h2 := refsTo_le S[k].fs S[k].fs.length
    have h3 : S[k].fs.length ≤ slSz S[k] := by unfold slSz fsSz; omega
    omega
theorem flTo_bd {S : List Sl} (h : slsSz S ≤ 1048576) {k : Nat} (hk : k ≤ S.length) : (flTo S k).length ≤ 1048576 := by
  have h1 := flTo_len h k hk
  have h2 : sumIn slSz S k ≤ (S.map slSz).sum := by
    unfold sumIn
    conv => rhs; rw [← List.take_append_drop k S, List.map_append, List.sum_append]
    omega
  unfold slsSz at h
  omega
def cntR (S : List Sl) (Q : List Int) (l : List Vl) : List Int := bumps (bumps (bumps (List.replicate S.length 0) (refsV l l.length)) (flTo S S.length)) Q
def refsA (a : Ar) (l : List Vl) : List Int := if (arOk a && rootsA a.slots l) = true then cntR a.slots a.queue l else []
theorem cntR_len (S : List Sl) (Q : List Int) (l : List Vl) : (cntR S Q l).length = S.length := by unfold cntR; simp [bumps_len]
theorem refsA_bd (a : Ar) (l : List Vl) (h : arSz a ≤ 1048576) : (refsA a l).length ≤ 1048576 := by
  have h1 := cntR_len a.slots a.queue l
  unfold arSz slsSz at h
  unfold refsA
  split
  · omega
  · simp
-- ranges
theorem val2_in {S : List Sl} {n g : Int} (h : valOk S 2 n g = true) : 0 ≤ n ∧ n < S.length := by
  unfold valOk at h
  simp only [show ¬ (2 : Int) = 0 by decide, show ¬ (2 : Int) = 1 by decide, if_false, if_true] at h
  rcases slotAt_cases S n with ⟨e, _⟩ | ⟨m, hm, rfl, _⟩
  · rw [e] at h; cases h
  · omega
theorem refsV_in {S : List Sl} {l : List Vl} (h : ∀ k (hk : k < l.length), vlOk S l[k] = true) : InR S.length (refsV l l.length) := InR.mem fun x hx => by
  unfold refsV at hx
  rw [List.take_length, List.mem_map] at hx
  obtain ⟨v, hv, rfl⟩ := hx
  rw [List.mem_filter] at hv
  obtain ⟨hv1, hv2⟩ := hv
  obtain ⟨i, hi, rfl⟩ := List.mem_iff_getElem.1 hv1
  have := h i hi
  have hk : l[i].k = 2 := by simpa using hv2
  unfold vlOk at this
  rw [hk] at this
  exact val2_in this
theorem rootsA_at {S : List Sl} {l : List Vl} (h : rootsA S l = true) : l.length ≤ 500 ∧ ∀ k (hk : k < l.length), vlOk S l[k] = true := by
  unfold rootsA at h
  rw [Bool.and_eq_true, decide_eq_true_eq, List.all_eq_true] at h
  exact ⟨by omega, fun k hk => h.2 _ (List.getElem_mem hk)⟩
theorem refsTo_in {S : List Sl} {fs : List Fd} (h : fdsOk S fs = true) : InR S.length (refsTo fs fs.length) := InR.mem fun x hx => by
  unfold refsTo at hx
  rw [List.take_length, List.mem_map] at hx
  obtain ⟨v, hv, rfl⟩ := hx
  rw [List.mem_filter] at hv
  obtain ⟨hv1, hv2⟩ := hv
  obtain ⟨i, hi, rfl⟩ := List.mem_iff_getElem.1 hv1
  have hk : fs[i].k = 2 := by simpa using hv2
  unfold fdsOk at h
  rw [List.all_eq_true] at h
  have h1 := h i (List.mem_range.2 hi)
  cases hv : valOk S fs[i].k fs[i].n fs[i].g
  · rw [fdAt_val hi hv] at h1; cases h1
  · rw [hk] at hv
    exact val2_in hv
theorem arOk_at {a : Ar} (h : arOk a = true) : 1 ≤ a.slots.length ∧ a.slots.length ≤ 16 ∧ InR a.slots.length a.queue ∧ a.queue.length ≤ 500 ∧ ∀ k (hk : k < a.slots.length), InR a.slots.length (refsTo a.slots[k].fs a.slots[k].fs.length) := by
  unfold arOk at h
  simp only [Bool.and_eq_true, decide_eq_true_eq] at h
  obtain ⟨⟨⟨⟨⟨⟨⟨⟨h1, h2⟩, h3⟩, h4⟩, h5⟩, h6⟩, h7⟩, h8⟩, h9⟩ := h
  refine ⟨h1, h2, fun k hk => inAll_get h5 hk, h3, fun k hk => ?_⟩
  rw [List.all_eq_true] at h7
  have := h7 _ (List.getElem_mem hk)
  unfold slOk at this
  rw [Bool.and_eq_true] at this
  exact refsTo_in this.2
theorem made_zero (n : Nat) : madeCells #[.int .i64 0] n = (vi (List.replicate n 0)).toArray := by
  apply Array.ext'
  apply List.ext_getElem?
  intro j
  by_cases hj : j < n
  · simp [madeCells, vi, hj, Nat.mod_one]
  · simp [madeCells, vi, hj]
end Go.Proofs.YtddjcjjnpidhiaaGreatDoor

namespace Go.Proofs.YtddjcjjnpidhiaaGreatDoor
open Go.RowKit
set_option linter.unusedVariables false
set_option linter.unusedSimpArgs false

theorem bump1_ne (c : List Int) (n : Int) (i : Nat) (h : n.toNat ≠ i) : (bump1 c n).getD i 0 = c.getD i 0 := by
  unfold bump1
  simp only [List.getD_eq_getElem?_getD, List.getElem?_set_ne h]
theorem bumps_ne (l : List Int) : ∀ (c : List Int) (i : Nat), (∀ n ∈ l, n.toNat ≠ i) → (bumps c l).getD i 0 = c.getD i 0 := by
  induction l with
  | nil => intro c i _; rfl
  | cons x r ih =>
    intro c i h
    show (bumps (bump1 c x) r).getD i 0 = _
    rw [ih _ _ (fun n hn => h n (List.mem_cons_of_mem _ hn)), bump1_ne _ _ _ (h x (List.mem_cons_self ..))]
theorem liveAt_dead {S : List Sl} {n : Int} {i : Nat} (hi : i < S.length) (hd : S[i].live = false) (h : liveAt S n = true) : n.toNat ≠ i := by
  intro e
  rcases slotAt_cases S n with ⟨e0, _⟩ | ⟨m, hm, rfl, e1⟩
  · unfold liveAt at h; rw [e0] at h; cases h
  · unfold liveAt at h
    rw [e1] at h
    have : m = i := by omega
    subst this
    simp only at h
    rw [hd] at h
    cases h
theorem val2_live {S : List Sl} {n g : Int} (h : valOk S 2 n g = true) : liveAt S n = true := by
  unfold valOk at h
  simp only [show ¬ (2 : Int) = 0 by decide, show ¬ (2 : Int) = 1 by decide, if_false, if_true] at h
  unfold liveAt
  rcases slotAt_cases S n with ⟨e, _⟩ | ⟨m, hm, rfl, e⟩
  · rw [e] at h; cases h
  · rw [e] at h ⊢
    simp only [Bool.and_eq_true] at h
    exact h.1
theorem refsV_live {S : List Sl} {l : List Vl} (h : ∀ k (hk : k < l.length), vlOk S l[k] = true) : ∀ n ∈ refsV l l.length, liveAt S n = true := fun x hx => by
  unfold refsV at hx
  rw [List.take_length, List.mem_map] at hx
  obtain ⟨v, hv, rfl⟩ := hx
  rw [List.mem_filter] at hv
  obtain ⟨hv1, hv2⟩ := hv
  obtain ⟨i, hi, rfl⟩ := List.mem_iff_getElem.1 hv1
  have := h i hi
  have hk : l[i].k = 2 := by simpa using hv2
  unfold vlOk at this
  rw [hk] at this
  exact val2_live this
theorem refsTo_live {S : List Sl} {fs : List Fd} (h : fdsOk S fs = true) : ∀ n ∈ refsTo fs fs.length, liveAt S n = true := fun x hx => by
  unfold refsTo at hx
  rw [List.take_length, List.mem_map] at hx
  obtain ⟨v, hv, rfl⟩ := hx
  rw [List.mem_filter] at hv
  obtain ⟨hv1, hv2⟩ := hv
  obtain ⟨i, hi, rfl⟩ := List.mem_iff_getElem.1 hv1
  have hk : fs[i].k = 2 := by simpa using hv2
  unfold fdsOk at h
  rw [List.all_eq_true] at h
  have h1 := h i (List.mem_range.2 hi)
  cases hv : valOk S fs[i].k fs[i].n fs[i].g
  · rw [fdAt_val hi hv] at h1; cases h1
  · rw [hk] at hv
    exact val2_live hv
theorem arOk_live {a : Ar} (h : arOk a = true) : (∀ s ∈ a.slots, fdsOk a.slots s.fs = true ∧ (s.live = false → s.count = 0)) ∧ ∀ n ∈ a.queue, liveAt a.slots n = true := by
  unfold arOk at h
  simp only [Bool.and_eq_true, decide_eq_true_eq] at h
  obtain ⟨⟨⟨⟨⟨⟨⟨⟨h1, h2⟩, h3⟩, h4⟩, h5⟩, h6⟩, h7⟩, h8⟩, h9⟩ := h
  rw [List.all_eq_true] at h7 h8
  refine ⟨fun s hs => ?_, h8⟩
  have := h7 s hs
  unfold slOk at this
  rw [Bool.and_eq_true] at this
  refine ⟨this.2, fun hl => ?_⟩
  have h0 := this.1
  unfold slBd at h0
  simp only [hl, Bool.and_eq_true, if_false, Bool.false_eq_true] at h0
  simpa using h0.2.1
theorem flTo_live {S : List Sl} (h : ∀ s ∈ S, fdsOk S s.fs = true) : ∀ n ∈ flTo S S.length, liveAt S n = true := fun x hx => by
  unfold flTo at hx
  rw [List.take_length, List.mem_flatMap] at hx
  obtain ⟨s, hs, hx⟩ := hx
  exact refsTo_live (h s hs) x hx
/-- nobody refers to a slot that is not live, and its count is 0 -/
theorem cntR_dead {a : Ar} {l : List Vl} (hok : arOk a = true) (hro : rootsA a.slots l = true) {i : Nat} (hi : i < a.slots.length) (hd : a.slots[i].live = false) :
    (cntR a.slots a.queue l).getD i 0 = 0 ∧ a.slots[i].count = 0 := by
  obtain ⟨h1, h2⟩ := arOk_live hok
  obtain ⟨_, h3⟩ := rootsA_at hro
  refine ⟨?_, (h1 _ (List.getElem_mem hi)).2 hd⟩
  unfold cntR
  rw [bumps_ne _ _ _ (fun n hn => liveAt_dead hi hd (h2 n hn)), bumps_ne _ _ _ (fun n hn => liveAt_dead hi hd (flTo_live (fun s hs => (h1 s hs).1) n hn)),
    bumps_ne _ _ _ (fun n hn => liveAt_dead hi hd (refsV_live h3 n hn))]
  rw [List.getD_eq_getElem?_getD]
  simp [hi]
def cntEq (S : List Sl) (Q : List Int) (l : List Vl) : Bool := decide (cntTo S S.length = cntR S Q l)
def cntedA (a : Ar) (l : List Vl) : Bool := arOk a && rootsA a.slots l && cntEq a.slots a.queue l
theorem cntTo_get {S : List Sl} {i : Nat} (h : i < S.length) : (cntTo S S.length).getD i 0 = S[i].count := by
  unfold cntTo
  rw [List.take_length, List.getD_eq_getElem?_getD, List.getElem?_map, List.getElem?_eq_getElem h]
  rfl
theorem cntEq_no {S : List Sl} {Q : List Int} {l : List Vl} {i : Nat} (h : i < S.length) (hn : ¬ S[i].count = (cntR S Q l).getD i 0) : cntEq S Q l = false := decide_eq_false fun e => hn (by
  rw [← e, cntTo_get h])
theorem cntEq_yes {a : Ar} {l : List Vl} (hok : arOk a = true) (hro : rootsA a.slots l = true) (h : ∀ i (hi : i < a.slots.length), a.slots[i].live = true → a.slots[i].count = (cntR a.slots a.queue l).getD i 0) : cntEq a.slots a.queue l = true :=
  decide_eq_true (by
    have hl1 := cntTo_len (Nat.le_refl a.slots.length)
    have hl2 := cntR_len a.slots a.queue l
    refine List.ext_getElem (by omega) fun i h1 h2 => ?_
    have hi : i < a.slots.length := by omega
    have e1 := cntTo_get hi
    rw [List.getD_eq_getElem?_getD, List.getElem?_eq_getElem h1] at e1
    have e1' : (cntTo a.slots a.slots.length)[i] = a.slots[i].count := e1
    rw [e1']
    have e2 : (cntR a.slots a.queue l)[i] = (cntR a.slots a.queue l).getD i 0 := by rw [List.getD_eq_getElem?_getD, List.getElem?_eq_getElem h2]; rfl
    rw [e2]
    cases hlv : a.slots[i].live
    · obtain ⟨q1, q2⟩ := cntR_dead hok hro hi hlv
      rw [q1, q2]
    · exact h i hi hlv)
end Go.Proofs.YtddjcjjnpidhiaaGreatDoor

namespace Go.Proofs.YtddjcjjnpidhiaaGreatDoor
open Go.RowKit
set_option linter.unusedVariables false

def vmOk (m : Ma) : Bool :=
  Cod.codeOk m.code && framesOk m.code m.frames m.state && decide ((m.log.length : Int) ≤ 100000) && decide (0 ≤ m.ticks) && decide (m.ticks ≤ 2000) && decide (0 ≤ m.state) && decide (m.state ≤ 4) &&
  cntedA m.arena (rootsTo m.frames m.frames.length)
end Go.Proofs.YtddjcjjnpidhiaaGreatDoor
