/-
  The program's CodeOk.
-/
import Derived.Test.YtebgigiakfjocaaDoorOrdOk
namespace Go.Proofs.YtebgigiakfjocaaDoor
open Go.RowKit
set_option linter.unusedVariables false
set_option linter.unusedSimpArgs false
namespace Cod

theorem lastOp_get {l : List In} (h : 0 < l.length) : lastOp l = (l[l.length - 1]'(by omega)).op := by
  unfold lastOp
  rw [List.getD_eq_getElem?_getD, List.getElem?_eq_getElem (by omega)]; rfl

set_option maxRecDepth 100000 in
set_option maxHeartbeats 8000000 in
theorem unitOk_c (C : List Un) (u : Un) (CA UA : Option Addr) (cc uc L B : Nat) (w : World) (hB : B ≤ w.heap.size) (hC : UnL w L B CA C) (hI : InL w L B UA u.l) (hl : u.l.length ≤ 1048576) (hCl : C.length ≤ 1048576)
    (hsz : insSz u.l ≤ 1048576) (hF : Forms w B) :
    Calls Tryd.prog 88 #[.agg #[.slice CA C.length cc], .agg #[.int .i64 u.params, .int .i64 u.regs, .slice UA u.l.length uc]] w
      fun e w' => e = .returned (.bool (unitOk C u)) ∧ Below w.heap.size w w' := by
  have hb2 : Below w.heap.size w ((w.alloc (.cells #[.slice CA C.length cc] 56)).alloc (.cells #[.int .i64 u.params, .int .i64 u.regs, .slice UA u.l.length uc] 102)) :=
    ((Below.refl _ _).alloc (Nat.le_refl _) _).alloc (by simp) _
  have Hb2 := Lib.hid hb2
  obtain ⟨m, hm⟩ : ∃ m, (if u.regs < 3 then u.regs else 3) = m := ⟨_, rfl⟩
  have Hm := Lib.hid (show (u.regs < 3 ∧ m = u.regs) ∨ (3 ≤ u.regs ∧ m = 3) by rw [← hm]; split <;> omega)
  by_cases h1 : u.params < 0
  · have Hres := Lib.hid (show unitOk C u = false by unfold unitOk headOk; rw [decide_eq_false (by have := Hm.out; omega)]; rfl)
    clear hC hI hF hb2
    go_enter Tryd.func88, Tryd.ntmps88
    go_wp2
    go_ret
    exact ⟨by rw [Hres.out]; first | rfl | simp, Hb2.out⟩
  by_cases h2 : m < u.params
  · have Hres := Lib.hid (show unitOk C u = false by unfold unitOk headOk; rw [decide_eq_false (by have := Hm.out; omega)]; rfl)
    clear hC hI hF hb2
    go_enter Tryd.func88, Tryd.ntmps88
    go_wp2
    go_ret
    exact ⟨by rw [Hres.out]; first | rfl | simp, Hb2.out⟩
  by_cases h3 : u.regs < 1
  · have Hres := Lib.hid (show unitOk C u = false by unfold unitOk headOk; rw [decide_eq_false (by have := Hm.out; omega)]; rfl)
    clear hC hI hF hb2
    go_enter Tryd.func88, Tryd.ntmps88
    go_wp2
    go_ret
    exact ⟨by rw [Hres.out]; first | rfl | simp, Hb2.out⟩
  by_cases h4 : 24 < u.regs
  · have Hres := Lib.hid (show unitOk C u = false by unfold unitOk headOk; rw [decide_eq_false (by have := Hm.out; omega)]; rfl)
    clear hC hI hF hb2
    go_enter Tryd.func88, Tryd.ntmps88
    go_wp2
    go_ret
    exact ⟨by rw [Hres.out]; first | rfl | simp, Hb2.out⟩
  by_cases h5 : u.l.length < 1
  · have Hres := Lib.hid (show unitOk C u = false by unfold unitOk bodyOk; rw [decide_eq_false (by omega)]; simp)
    obtain ⟨nl, hnl⟩ : ∃ n, n = u.l.length := ⟨_, rfl⟩
    rw [← hnl] at Hb2 h5
    rw [← hnl]
    clear hnl
    obtain rfl : nl = 0 := by omega
    clear hC hI hF hb2
    go_enter Tryd.func88, Tryd.ntmps88
    go_wp2
    go_ret
    exact ⟨by rw [Hres.out]; first | rfl | simp, Hb2.out⟩
  by_cases h6 : 300 < u.l.length
  · have Hres := Lib.hid (show unitOk C u = false by unfold unitOk bodyOk; rw [decide_eq_false (by omega)]; simp)
    clear hC hI hF hb2
    go_enter Tryd.func88, Tryd.ntmps88
    go_wp2
    go_ret
    exact ⟨by rw [Hres.out]; first | rfl | simp, Hb2.out⟩
  have hhd : headOk u = true := by unfold headOk; exact decide_eq_true (by have := Hm.out; omega)
  have hla := lastOp_get (l := u.l) (by omega)
  have hI2 := hI.below (hb2.mono hB)
  obtain ⟨ad, rfl, _, hbk, hat⟩ := hI2.2 (by omega)
  obtain ⟨y0, y1, y2, y3, y4, ⟨d0, -, -, -, -⟩, rfl, -, -, -, -⟩ := hat (u.l.length - 1) (by omega)
  rw [← hla] at d0
  have HI := Lib.hid hI2
  have Hh := Lib.hid hhd
  clear hat hla hhd hI2
  obtain ⟨lo, hlo⟩ : ∃ z, z = lastOp u.l := ⟨_, rfl⟩
  rw [← hlo] at d0
  by_cases h7 : ¬ lo = 11
  · have Hres := Lib.hid (show unitOk C u = false by unfold unitOk bodyOk; rw [← hlo, decide_eq_false h7]; simp)
    have hb7 : (lo != 11) = true := by simpa using h7
    clear hC hI hF hb2 HI Hh hlo
    go_enter Tryd.func88, Tryd.ntmps88
    go_wp2
    go_ret
    exact ⟨by rw [Hres.out]; first | rfl | simp, Hb2.out⟩
  obtain rfl : lo = 11 := Decidable.not_not.1 h7
  have h7 : lastOp u.l = 11 := hlo.symm
  have Hbd := Lib.hid (show bodyOk u = true by unfold bodyOk; rw [decide_eq_true h7, decide_eq_true (by omega : 1 ≤ u.l.length ∧ u.l.length ≤ 300)]; rfl)
  clear h7 hlo
  have hr : 1 ≤ u.regs ∧ u.regs ≤ 24 := by omega
  have Hall : Hid (∀ k (hk : k < u.l.length), ordOk C u u.l[k] = false → unitOk C u = false) := Lib.hid (fun k hk h => by unfold unitOk; rw [all_not hk h]; simp)
  have Hyes : Hid ((∀ k (hk : k < u.l.length), ordOk C u u.l[k] = true) → unitOk C u = true) := Lib.hid (fun h => by unfold unitOk; rw [Hh.out, Hbd.out, all_at h]; rfl)
  have Hbx : Hid (Blk ((w.alloc (.cells #[.slice CA C.length cc] 56)).alloc (.cells #[.int .i64 u.params, .int .i64 u.regs, .slice (some ad) u.l.length uc] 102)) w.heap.size 56 #[.slice CA C.length cc] ∧
      Blk ((w.alloc (.cells #[.slice CA C.length cc] 56)).alloc (.cells #[.int .i64 u.params, .int .i64 u.regs, .slice (some ad) u.l.length uc] 102)) (w.heap.size + 1) 102 #[.int .i64 u.params, .int .i64 u.regs, .slice (some ad) u.l.length uc]) := Lib.hid (by
    refine ⟨(Blk.new w _ _).alloc _, ?_⟩
    have := Blk.new (w.alloc (.cells #[.slice CA C.length cc] 56)) 102 #[.int .i64 u.params, .int .i64 u.regs, .slice (some ad) u.l.length uc]
    rw [World.size_alloc] at this
    exact this)
  have Hord := Lib.hid (fun (o : In) (NA : Option Addr) (nc : Nat) (X : World) (hX : Below w.heap.size w X) (hN : RB X B NA o.name) (hn : o.name.length ≤ 1048576) =>
    orderOk_c C u o CA (some ad) NA cc uc nc L B X (Nat.le_trans hB hX.size) (hC.below (hX.mono hB)) hl hCl hr hN hn ((hF.below (hX.mono hB)).more (Nat.le_trans hB hX.size)))
  have Hsz := Lib.hid hsz
  clear hC hI hF hsz hr
  go_enter Tryd.func88, Tryd.ntmps88
  go_wp2_with fail
  generalize hW : (w.alloc (.cells #[.slice CA C.length cc] 56)).alloc (.cells #[.int .i64 u.params, .int .i64 u.regs, .slice (some ad) u.l.length uc] 102) = W
  rw [hW] at HI Hb2 Hbx
  have hWs : w.heap.size ≤ W.heap.size := by rw [← hW]; simp; omega
  have HWs := Lib.hid hWs
  clear hW hWs d0 hb2
  go_loopw [53] (fun i wr => ∃ k : Nat, k ≤ u.l.length ∧ i = .int .i64 k ∧ Hid (∀ j (hj : j < u.l.length), j < k → ordOk C u u.l[j] = true) ∧ Below W.heap.size W wr) (fun i _ => u.l.length - (intOf i).toNat)
  case atStart => exact ⟨0, Nat.zero_le _, rfl, Lib.hid (fun j hj h => by omega), Below.refl _ _⟩
  case round =>
    obtain ⟨k, hk, rfl, hall, hbl⟩ := hrel
    have hws := hbl.size
    by_cases hlt : k < u.l.length
    · obtain ⟨ad', e', _, hbk', hat⟩ := (HI.out.below (hbl.mono (Nat.le_trans hB HWs.out))).2 (by omega)
      injection e' with e'
      subst e'
      obtain ⟨x0, x1, x2, x3, x4, ⟨d0, d1, d2, d3, d4⟩, rfl, rfl, rfl, rfl, NA, nc, rfl, hN, hnm⟩ := hat k hlt
      obtain ⟨KC, KU⟩ := Hbx.out
      have hbo := blwC wr (.cells #[.int .i64 u.l[k].op, .int .i64 u.l[k].a, .int .i64 u.l[k].b, .int .i64 u.l[k].c, .slice NA u.l[k].name.length nc] 104)
      have hbw := hbl.trans (hbo.mono hws)
      have KC2 := KC.below hbw KC.lt
      have KU2 := KU.below hbw KU.lt
      have q0 := KC2.cel 0 (v := .slice CA C.length cc) rfl
      have q1 := KU2.cel 0 (v := .int .i64 u.params) rfl
      have q2 := KU2.cel 1 (v := .int .i64 u.regs) rfl
      have q3 := KU2.cel 2 (v := .slice (some ad) u.l.length uc) rfl
      have hn1 : u.l[k].name.length ≤ 1048576 := by
        have h1 := sum_get inSz hlt
        have h2 := Hsz.out
        unfold insSz at h2
        have h3 : u.l[k].name.length = inSz u.l[k] := rfl
        rw [h3]
        omega
      have Hc := Lib.hid (Hord.out u.l[k] NA nc (wr.alloc (.cells #[.int .i64 u.l[k].op, .int .i64 u.l[k].a, .int .i64 u.l[k].b, .int .i64 u.l[k].c, .slice NA u.l[k].name.length nc] 104)) (Hb2.out.trans (hbw.mono HWs.out)) ((hN.keep (fun p _ hp => (hbo.mono (Nat.le_trans (Nat.le_trans hB HWs.out) hws)).cell hp)).1) hn1)
      have Hbw := Lib.hid hbw
      have Hk := Lib.hid (Hall.out k hlt)
      have Hbb := Lib.hid hbl
      obtain ⟨oo, hoo⟩ : ∃ o, o = u.l[k] := ⟨_, rfl⟩
      have Hoo := Lib.hid hoo
      rw [← hoo] at d0 d1 d2 d3 d4 Hc Hbw Hk q0 q1 q2 q3
      clear hat hN hbo hbw KC KU KC2 KU2 hoo hn1 hnm hbl
      obtain ⟨op, oa, ob, oc, nm⟩ := oo
      dsimp only at *
      obtain ⟨nl, hnl⟩ : ∃ n, n = nm.length := ⟨_, rfl⟩
      rw [← hnl] at d4 Hc Hbw q0 q1 q2 q3
      clear hnl
      go_wp2_with fail
      refine Hc.out.mono ?_
      rintro e w2 ⟨rfl, hb2⟩
      have Hbn := Lib.hid (Hbw.out.trans (hb2.mono Hbw.out.size))
      clear hb2 Hc q0 q1 q2 q3 d0 d1 d2 d3 d4
      cases ho : ordOk C u ⟨op, oa, ob, oc, nm⟩
      · have Hres := Lib.hid (Hk.out ho)
        have Hbe := Lib.hid (Hb2.out.trans (Hbn.out.mono HWs.out))
        clear ho
        go_wp2
        go_ret
        exact ⟨by rw [Hres.out]; first | rfl | simp, Hbe.out⟩
      · have Hnew : Hid (∀ j (hj : j < u.l.length), j < k + 1 → ordOk C u u.l[j] = true) := Lib.hid (fun j hj h => by
          by_cases e : j = k
          · subst e; rw [← Hoo.out]; exact ho
          · exact hall.out j hj (by omega))
        clear ho
        go_wp2
        go_roundw
        case rel => exact ⟨k + 1, by omega, by go_num, Hnew, Hbn.out⟩
        case measure => simp [intOf]; omega
    · obtain rfl : k = u.l.length := by omega
      have Hres := Lib.hid (Hyes.out (fun j hj => hall.out j hj hj))
      have Hbe := Lib.hid (Hb2.out.trans (hbl.mono HWs.out))
      clear hbl
      go_wp2
      go_ret
      exact ⟨by rw [Hres.out]; first | rfl | simp, Hbe.out⟩
end Cod
end Go.Proofs.YtebgigiakfjocaaDoor
