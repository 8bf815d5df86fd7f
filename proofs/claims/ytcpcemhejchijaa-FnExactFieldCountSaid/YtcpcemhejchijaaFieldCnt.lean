/-
  FieldCount: the model's and the program's.
-/
import Derived.Test.YtcpcemhejchijaaImplArn
namespace Go.Proofs.Ytcpcemhejchijaa
open Go.RowKit
set_option linter.unusedVariables false
set_option linter.unusedSimpArgs false

def cntF (fs : List Fd) (z : Int) (j : Nat) : Nat := (fs.take j).countP fun f => f.k == z
theorem cntF_le (fs : List Fd) (z : Int) (j : Nat) : cntF fs z j ≤ fs.length := by
  unfold cntF
  exact Nat.le_trans List.countP_le_length (by simp; omega)
theorem cntF_succ {fs : List Fd} {z : Int} {j : Nat} (h : j < fs.length) : cntF fs z (j + 1) = cntF fs z j + (if fs[j].k == z then 1 else 0) := by
  unfold cntF
  rw [List.take_succ_eq_append_getElem h, List.countP_append]
  congr 1
  simp [List.countP_cons]
def cntS (S : List Sl) (z : Int) (k : Nat) : Nat := sumIn (fun s => cntF s.fs z s.fs.length) S k
theorem cntS_succ {S : List Sl} {z : Int} {k : Nat} (h : k < S.length) : cntS S z (k + 1) = cntS S z k + cntF S[k].fs z S[k].fs.length := sumIn_step _ h
theorem sumIn_le {α : Type} {f g : α → Nat} (h : ∀ x, f x ≤ g x) : ∀ (l : List α) (k : Nat), sumIn f l k ≤ (l.map g).sum
  | [], k => by simp [sumIn]
  | x :: r, 0 => by simp [sumIn]
  | x :: r, k + 1 => by
    have := sumIn_le h r k
    have h1 := h x
    unfold sumIn at this ⊢
    simp only [List.take_succ_cons, List.map_cons, List.sum_cons]
    omega
theorem cnt_bd {S : List Sl} {z : Int} {k j : Nat} (hk : k < S.length) : cntS S z k + S[k].fs.length ≤ slsSz S := by
  have h1 : cntS S z k + S[k].fs.length ≤ sumIn (fun s => s.fs.length) S (k + 1) := by
    rw [sumIn_step _ hk]
    have : cntS S z k ≤ sumIn (fun s => s.fs.length) S k := by
      unfold cntS
      have := sumIn_le (f := fun s : Sl => cntF s.fs z s.fs.length) (g := fun s : Sl => s.fs.length) (fun s => cntF_le _ _ _) (S.take k) k
      unfold sumIn at this ⊢
      rw [List.take_take, Nat.min_self] at this
      exact this
    omega
  have h2 := sumIn_le (f := fun s : Sl => s.fs.length) (g := slSz) (fun s => by unfold slSz fsSz; omega) S (k + 1)
  unfold slsSz
  omega
/-- what FieldCount tells -/
def fieldA (a : Ar) (z : Int) : Int := if arOk a then (cntS a.slots z a.slots.length : Int) else -1

section
variable (a : Ar) (A0 A1 A2 : Option Addr) (c0 c1 c2 L B : Nat) (w : World)

set_option maxRecDepth 100000 in
set_option maxHeartbeats 4000000 in
theorem specFieldCount_c (z : Int) (hB : B ≤ w.heap.size) (h : ArL w L B A0 A1 A2 a) (hsz : arSz a ≤ 1048576) (hc : a.purple.length ≤ c2) :
    Calls Try.prog 27 #[.agg #[.slice A0 a.slots.length c0, .slice A1 a.queue.length c1, .slice A2 a.purple.length c2], .int .i64 z] w fun e w' => e = .returned (.int .i64 (fieldA a z)) ∧ Below w.heap.size w w' := by
  have hm := h.1.1
  unfold maxLen at hm
  have hbW := blw1 w (.cells #[.slice A0 a.slots.length c0, .slice A1 a.queue.length c1, .slice A2 a.purple.length c2] 30)
  have HR := Lib.hid (okAt a A0 A1 A2 c0 c1 c2 L B w _ h hsz hc (hbW.mono hB) (Nat.le_trans hB hbW.size))
  have HbW := Lib.hid hbW
  have HKA := Lib.hid (Blk.new w 30 #[.slice A0 a.slots.length c0, .slice A1 a.queue.length c1, .slice A2 a.purple.length c2])
  have H := Lib.hid h
  have hS : slsSz a.slots ≤ 1048576 := by unfold arSz at hsz; omega
  have HS := Lib.hid hS
  clear h hsz hbW hS
  go_enter Try.func27, Try.ntmps27
  go_wp2_with fail
  refine HR.out.mono ?_
  rintro e w1 ⟨rfl, hb⟩
  have hbB := HbW.out.trans (hb.mono HbW.out.size)
  have KA1 := HKA.out.below hb HKA.out.lt
  cases hok : arOk a
  · have E := Lib.hid (show fieldA a z = -1 by unfold fieldA; rw [hok]; rfl)
    have Hb := Lib.hid hbB
    clear hb HbW HR hbB KA1 HKA hok
    go_wp2
    go_ret
    exact ⟨by rw [E.out]; rfl, Hb.out⟩
  · have E := Lib.hid (show fieldA a z = cntS a.slots z a.slots.length by unfold fieldA; rw [hok]; rfl)
    have Hb := Lib.hid hbB
    have p0 := KA1.cel 0 (v := .slice A0 a.slots.length c0) rfl
    clear hb HbW HR hbB KA1 HKA hok
    go_wp2_with fail
    go_loopw [5, 6] (fun n i wr => ∃ k : Nat, k ≤ a.slots.length ∧ i = .int .i64 k ∧ n = .int .i64 (cntS a.slots z k) ∧ wr = w1) (fun _ i _ => a.slots.length - (intOf i).toNat)
    case atStart => exact ⟨0, Nat.zero_le _, rfl, rfl, by trivial⟩
    case round =>
      obtain ⟨k, hk, rfl, rfl, hwr⟩ := hrel
      obtain rfl : wr = w1 := hwr
      by_cases hlt : k < a.slots.length
      · have hbd := cnt_bd (z := z) (j := 0) hlt
        have hS := HS.out
        obtain ⟨ad, rfl, _, hbk, hat⟩ := (H.out.1.below (Hb.out.mono hB)).2 (by omega)
        obtain ⟨x0, x1, x2, x3, ⟨d0, d1, d2, d3⟩, rfl, rfl, rfl, FA, fc, rfl, hF⟩ := hat k hlt
        obtain ⟨fs, hfs⟩ : ∃ f, f = a.slots[k].fs := ⟨_, rfl⟩
        rw [← hfs] at d3 hF hbd
        have hsuc := cntS_succ (z := z) hlt
        rw [← hfs] at hsuc
        have hfm : fs.length ≤ 1048576 := by omega
        obtain ⟨t, ht⟩ : ∃ t, t = cntS a.slots z k := ⟨_, rfl⟩
        rw [← ht] at hbd hsuc
        rw [← ht]
        have Hsuc := Lib.hid hsuc
        have HF := Lib.hid hF
        have htb : t + fs.length ≤ 1048576 := by omega
        clear hat hsuc hF d0 d1 d2 hfs ht hbd hS
        go_wp2_with fail
        go_loopw [5, 7] (fun n i wr' => ∃ j : Nat, j ≤ fs.length ∧ i = .int .i64 j ∧ n = .int .i64 ((t + cntF fs z j : Nat) : Int) ∧ wr' = wr) (fun _ i _ => fs.length - (intOf i).toNat)
        case atStart => exact ⟨0, Nat.zero_le _, rfl, rfl, by trivial⟩
        case round =>
          obtain ⟨j, hj, rfl, rfl, rfl⟩ := hrel
          by_cases hjl : j < fs.length
          · obtain ⟨fd, rfl, _, hfb, hfat⟩ := HF.out.2 (by omega)
            obtain ⟨y0, y1, y2, y3, ⟨f0, f1, f2, f3⟩, NA, nc, rfl, hN, hnm, rfl, rfl, rfl⟩ := hfat j hjl
            have hfc := cntF_succ (z := z) hjl
            have hcle := cntF_le fs z j
            obtain ⟨s, hs⟩ : ∃ s, s = cntF fs z j := ⟨_, rfl⟩
            rw [← hs] at hfc hcle
            rw [← hs]
            obtain ⟨fk, hfk⟩ : ∃ f, f = fs[j].k := ⟨_, rfl⟩
            rw [← hfk] at f1 hfc
            have Hfc := Lib.hid hfc
            clear hfat hfc hs hfk hN hnm f0 f2 f3
            by_cases he : fk = z
            · subst he
              go_wp2
              go_roundw
              case rel => exact ⟨j + 1, by omega, by go_num, by rw [Hfc.out]; simp; omega, by trivial⟩
              case measure => simp [intOf]; omega
            · have he' : (fk == z) = false := by simpa using he
              go_wp2
              go_roundw
              case rel => exact ⟨j + 1, by omega, by go_num, by rw [Hfc.out, he']; simp, by trivial⟩
              case measure => simp [intOf]; omega
          · obtain rfl : j = fs.length := by omega
            go_wp2
            go_roundw
            case rel => exact ⟨k + 1, by omega, by go_num, by rw [Hsuc.out], by trivial⟩
            case measure => simp [intOf]; omega
      · obtain rfl : k = a.slots.length := by omega
        go_wp2
        go_ret
        exact ⟨by rw [E.out]; rfl, Hb.out⟩

set_option maxRecDepth 100000 in
set_option maxHeartbeats 4000000 in
theorem implFieldCount_c (z : Int) (hB : B ≤ w.heap.size) (h : ArL w L B A0 A1 A2 a) (hsz : arSz a ≤ 1048576) :
    Calls Try.prog 28 #[.agg #[.slice A0 a.slots.length c0, .slice A1 a.queue.length c1, .slice A2 a.purple.length c2], .int .i64 z] w fun e w' => e = .returned (.int .i64 (fieldA a z)) ∧ Below w.heap.size w w' := by
  have hbW := blw1 w (.cells #[.slice A0 a.slots.length c0, .slice A1 a.queue.length c1, .slice A2 a.purple.length c2] 30)
  have HR := Lib.hid (roomAt a A0 A1 A2 c0 c1 c2 L B w _ h hsz (hbW.mono hB) (Nat.le_trans hB hbW.size))
  have HbW := Lib.hid hbW
  have hS : slsSz a.slots ≤ 1048576 := by unfold arSz at hsz; omega
  have hSl : a.slots.length ≤ 1048576 := by unfold slsSz at hS; omega
  have HS := Lib.hid hS
  clear h hsz hbW hS
  go_enter Try.func28, Try.ntmps28
  go_wp2_with fail
  refine HR.out.mono ?_
  rintro e w1 ⟨u0, u1, u2, u3, rfl, hb, hu, hyes⟩
  have Hb := Lib.hid (HbW.out.trans (hb.mono HbW.out.size))
  cases hok : arOk a
  · have E := Lib.hid (show fieldA a z = -1 by unfold fieldA; rw [hok]; rfl)
    obtain ⟨_, _, _, rfl⟩ := hu u0 (by simp)
    obtain ⟨_, _, _, rfl⟩ := hu u1 (by simp)
    obtain ⟨_, _, _, rfl⟩ := hu u2 (by simp)
    obtain ⟨_, _, _, rfl⟩ := hu u3 (by simp)
    clear hu hb HbW HR hyes hok
    go_wp2
    go_ret
    exact ⟨by rw [E.out]; rfl, Hb.out.alloc Hb.out.size _⟩
  · have E := Lib.hid (show fieldA a z = cntS a.slots z a.slots.length by unfold fieldA; rw [hok]; rfl)
    obtain ⟨A, c, rfl, hsl, -, rfl, rfl⟩ := hyes hok
    obtain ⟨LA, ln, lc, rfl⟩ := hu u1 (by simp)
    have hbr := blw1 w1 (.cells #[.slice A a.slots.length c, .slice LA ln lc, .slice A1 a.queue.length c1, .slice A2 a.purple.length c2] 80)
    have H := Lib.hid (hsl.below hbr)
    have Hb2 := Lib.hid (Hb.out.trans (hbr.mono Hb.out.size))
    clear hu hb HbW HR hyes hok hsl hbr
    go_wp2_with fail
    generalize hW : w1.alloc (.cells #[.slice A a.slots.length c, .slice LA ln lc, .slice A1 a.queue.length c1, .slice A2 a.purple.length c2] 80) = W
    rw [hW] at H Hb2
    have hWs : w1.heap.size ≤ W.heap.size := by rw [← hW]; simp
    have HWs := Lib.hid hWs
    clear hW hWs
    go_loopw [7, 22] (fun n i wr => ∃ k : Nat, k ≤ a.slots.length ∧ i = .int .i64 k ∧ n = .int .i64 (cntS a.slots z k) ∧ Below W.heap.size W wr) (fun _ i _ => a.slots.length - (intOf i).toNat)
    case atStart => exact ⟨0, Nat.zero_le _, rfl, rfl, Below.refl _ _⟩
    case round =>
      obtain ⟨k, hk, rfl, rfl, hbi⟩ := hrel
      by_cases hlt : k < a.slots.length
      · have hbd := cnt_bd (z := z) (j := 0) hlt
        have hS := HS.out
        obtain ⟨ad, rfl, _, hbk, hat⟩ := (H.out.below (hbi.mono HWs.out)).2 (by omega)
        obtain ⟨x0, x1, x2, x3, ⟨d0, d1, d2, d3⟩, rfl, rfl, rfl, FA, fc, rfl, hF⟩ := hat k hlt
        obtain ⟨fs, hfs⟩ : ∃ f, f = a.slots[k].fs := ⟨_, rfl⟩
        obtain ⟨sl, hsl⟩ : ∃ f, f = a.slots[k].live := ⟨_, rfl⟩
        obtain ⟨gn, hgn⟩ : ∃ f, f = a.slots[k].gen := ⟨_, rfl⟩
        obtain ⟨ct, hct⟩ : ∃ f, f = a.slots[k].count := ⟨_, rfl⟩
        rw [← hfs] at d3 hF hbd
        rw [← hsl] at d0
        rw [← hgn] at d1
        rw [← hct] at d2
        have hsuc := cntS_succ (z := z) hlt
        rw [← hfs] at hsuc
        have hfm : fs.length ≤ 1048576 := by omega
        obtain ⟨t, ht⟩ : ∃ t, t = cntS a.slots z k := ⟨_, rfl⟩
        rw [← ht] at hbd hsuc
        rw [← ht]
        have Hsuc := Lib.hid hsuc
        have hb1 := blw1 wr (.cells #[.bool sl, .int .i64 gn, .int .i64 ct, .slice FA fs.length fc] 88)
        have HF := Lib.hid (hF.below (hb1.mono (Nat.le_trans HWs.out hbi.size)))
        have Hbi := Lib.hid (hbi.trans (hb1.mono hbi.size))
        have htb : t + fs.length ≤ 1048576 := by omega
        clear hat hsuc hF hfs hsl hgn hct ht hbd hS hb1
        go_wp2_with fail
        generalize hW1 : wr.alloc (.cells #[.bool sl, .int .i64 gn, .int .i64 ct, .slice FA fs.length fc] 88) = W1
        rw [hW1] at HF Hbi
        clear hW1 d0 d1 d2 d3 hbi
        go_loopw [7, 29] (fun n i wr => ∃ j : Nat, j ≤ fs.length ∧ i = .int .i64 j ∧ n = .int .i64 ((t + cntF fs z j : Nat) : Int) ∧ Below W1.heap.size W1 wr) (fun _ i _ => fs.length - (intOf i).toNat)
        case atStart => exact ⟨0, Nat.zero_le _, rfl, rfl, Below.refl _ _⟩
        case round =>
          obtain ⟨j, hj, rfl, rfl, hbj⟩ := hrel
          by_cases hjl : j < fs.length
          · obtain ⟨fd, rfl, _, hfb, hfat⟩ := (HF.out.below (hbj.mono (Nat.le_trans HWs.out Hbi.out.size))).2 (by omega)
            obtain ⟨y0, y1, y2, y3, ⟨f0, f1, f2, f3⟩, NA, nc, rfl, hN, hnm, rfl, rfl, rfl⟩ := hfat j hjl
            have hfc := cntF_succ (z := z) hjl
            have hcle := cntF_le fs z j
            obtain ⟨s, hs⟩ : ∃ s, s = cntF fs z j := ⟨_, rfl⟩
            rw [← hs] at hfc hcle
            rw [← hs]
            obtain ⟨fk, hfk⟩ : ∃ f, f = fs[j].k := ⟨_, rfl⟩
            obtain ⟨fn, hfn⟩ : ∃ f, f = fs[j].n := ⟨_, rfl⟩
            obtain ⟨fg, hfg⟩ : ∃ f, f = fs[j].g := ⟨_, rfl⟩
            obtain ⟨nl, hnl⟩ : ∃ f, f = fs[j].name.length := ⟨_, rfl⟩
            rw [← hnl] at f0
            rw [← hfk] at f1 hfc
            rw [← hfn] at f2
            rw [← hfg] at f3
            have Hfc := Lib.hid hfc
            have Hbj := Lib.hid (fun o => hbj.alloc hbj.size o)
            clear hfat hfc hs hfk hfn hfg hnl hN hnm hbj
            by_cases he : fk = z
            · subst he
              go_wp2
              go_roundw
              case rel => exact ⟨j + 1, by omega, by go_num, by rw [Hfc.out]; simp; omega, Hbj.out _⟩
              case measure => simp [intOf]; omega
            · have he' : (fk == z) = false := by simpa using he
              go_wp2
              go_roundw
              case rel => exact ⟨j + 1, by omega, by go_num, by rw [Hfc.out, he']; simp, Hbj.out _⟩
              case measure => simp [intOf]; omega
          · obtain rfl : j = fs.length := by omega
            have Hbj := Lib.hid (Hbi.out.trans (hbj.mono Hbi.out.size))
            clear hbj
            go_wp2
            go_roundw
            case rel => exact ⟨k + 1, by omega, by go_num, by rw [Hsuc.out], Hbj.out⟩
            case measure => simp [intOf]; omega
      · obtain rfl : k = a.slots.length := by omega
        have Hbf := Lib.hid (Hb2.out.trans (hbi.mono Hb2.out.size))
        clear hbi
        go_wp2
        go_ret
        exact ⟨by rw [E.out]; rfl, Hbf.out⟩
end
end Go.Proofs.Ytcpcemhejchijaa
