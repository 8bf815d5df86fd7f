/-
  The program's CodeOk, all units.
-/
import Derived.Test.YtebgigiakfjocaaDoorImplCode
namespace Go.Proofs.YtebgigiakfjocaaDoor
open Go.RowKit
set_option linter.unusedVariables false
set_option linter.unusedSimpArgs false
namespace Cod

theorem unit_sz {C : List Un} (h : unsSz C ≤ 1048576) {k : Nat} (hk : k < C.length) : insSz C[k].l ≤ 1048576 ∧ C[k].l.length ≤ 1048576 := by
  have h1 := sum_get unSz hk
  have h2 : unSz C[k] = insSz C[k].l := rfl
  have h3 : C[k].l.length ≤ insSz C[k].l := by unfold insSz; omega
  unfold unsSz at h
  omega
theorem add0 (a : Addr) : a.add 0 = a := by unfold Addr.add; simp

set_option maxRecDepth 100000 in
set_option maxHeartbeats 8000000 in
theorem implCodeOk_c (C : List Un) (CA : Option Addr) (cc L B : Nat) (w : World) (hB : B ≤ w.heap.size) (hsz : unsSz C ≤ 1048576) (hC : UnL w L B CA C) (hF : Forms w B) :
    Calls Tryd.prog 58 #[.agg #[.slice CA C.length cc]] w
      fun e w' => e = .returned (.bool (codeOk C)) ∧ Below w.heap.size w w' := by
  have hCl : C.length ≤ 1048576 := by unfold unsSz at hsz; omega
  have hb1 := blwC w (.cells #[.slice CA C.length cc] 56)
  have Hb1 := Lib.hid hb1
  by_cases h1 : C.length < 1
  · have Hres := Lib.hid (show codeOk C = false by unfold codeOk; rw [decide_eq_false (by omega)]; rfl)
    obtain ⟨nl, hnl⟩ : ∃ n, n = C.length := ⟨_, rfl⟩
    rw [← hnl] at Hb1 h1
    rw [← hnl]
    clear hnl hC hF hb1
    obtain rfl : nl = 0 := by omega
    go_enter Tryd.func58, Tryd.ntmps58
    go_wp2
    go_ret
    exact ⟨by rw [Hres.out]; first | rfl | simp, Hb1.out⟩
  by_cases h2 : 4 < C.length
  · have Hres := Lib.hid (show codeOk C = false by unfold codeOk; rw [decide_eq_false (by omega)]; rfl)
    clear hC hF hb1
    go_enter Tryd.func58, Tryd.ntmps58
    go_wp2
    go_ret
    exact ⟨by rw [Hres.out]; first | rfl | simp, Hb1.out⟩
  have hC2 := hC.below (hb1.mono hB)
  obtain ⟨ad, rfl, _, hbk, hat⟩ := hC2.2 (by omega)
  obtain ⟨y0, y1, y2, ⟨d0, -, -⟩, rfl, -, -, -, -, -⟩ := hat 0 (by omega)
  have hp0 : pOf C 0 = C[0].params := by unfold pOf; rw [List.getD_eq_getElem?_getD]; simp [(by omega : 0 < C.length)]
  rw [← hp0] at d0
  rw [Nat.zero_mul, add0] at d0
  have d0' := d0
  rw [← add0 ad] at d0'
  have HC := Lib.hid hC2
  clear hat hp0 hC2
  obtain ⟨z, hz⟩ : ∃ z, z = pOf C 0 := ⟨_, rfl⟩
  rw [← hz] at d0 d0'
  by_cases h3 : ¬ z = 0
  · have Hres := Lib.hid (show codeOk C = false by unfold codeOk; rw [← hz, decide_eq_false h3]; simp)
    have hb3 : (z != 0) = true := by simpa using h3
    clear hC hF hb1 hz HC
    go_enter Tryd.func58, Tryd.ntmps58
    go_wp2
    go_ret
    exact ⟨by rw [Hres.out]; first | rfl | simp, Hb1.out⟩
  obtain rfl : z = 0 := Decidable.not_not.1 h3
  have Hall : Hid (∀ k (hk : k < C.length), unitOk C C[k] = false → codeOk C = false) := Lib.hid (fun k hk h => by unfold codeOk; rw [all_not hk h]; simp)
  have Hyes : Hid ((∀ k (hk : k < C.length), unitOk C C[k] = true) → codeOk C = true) := Lib.hid (fun h => by unfold codeOk; rw [← hz, all_at h, decide_eq_true (by omega : 1 ≤ C.length ∧ C.length ≤ 4)]; rfl)
  have HK := Lib.hid (Blk.new w 56 #[.slice (some ad) C.length cc])
  have Hun := Lib.hid (fun (u : Un) (UA : Option Addr) (uc : Nat) (X : World) (hX : Below w.heap.size w X) (hI : InL X L B UA u.l) (hs : insSz u.l ≤ 1048576) (hl : u.l.length ≤ 1048576) =>
    unitOk_c C u (some ad) UA cc uc L B X (Nat.le_trans hB hX.size) (hC.below (hX.mono hB)) hI hl hCl hs (hF.below (hX.mono hB)))
  have Hsz := Lib.hid hsz
  clear hC hF hsz hb1 hz h3
  go_enter Tryd.func58, Tryd.ntmps58
  go_wp2_with fail
  generalize hW : w.alloc (.cells #[.slice (some ad) C.length cc] 56) = W
  rw [hW] at HC Hb1 HK
  have hWs : w.heap.size ≤ W.heap.size := by rw [← hW]; simp
  have HWs := Lib.hid hWs
  clear hW hWs d0 d0'
  go_loopw [26] (fun i wr => ∃ k : Nat, k ≤ C.length ∧ i = .int .i64 k ∧ Hid (∀ j (hj : j < C.length), j < k → unitOk C C[j] = true) ∧ Below W.heap.size W wr) (fun i _ => C.length - (intOf i).toNat)
  case atStart => exact ⟨0, Nat.zero_le _, rfl, Lib.hid (fun j hj h => by omega), Below.refl _ _⟩
  case round =>
    obtain ⟨k, hk, rfl, hall, hbl⟩ := hrel
    have hws := hbl.size
    by_cases hlt : k < C.length
    · obtain ⟨ad', e', _, hbk', hat⟩ := (HC.out.below (hbl.mono (Nat.le_trans hB HWs.out))).2 (by omega)
      injection e' with e'
      subst e'
      obtain ⟨x0, x1, x2, ⟨d0, d1, d2⟩, rfl, rfl, UA, uc, rfl, hI⟩ := hat k hlt
      have hbo := blwC wr (.cells #[.int .i64 C[k].params, .int .i64 C[k].regs, .slice UA C[k].l.length uc] 102)
      have hbw := hbl.trans (hbo.mono hws)
      have KC2 := HK.out.below hbw HK.out.lt
      have q0 := KC2.cel 0 (v := .slice (some ad) C.length cc) rfl
      have hus := unit_sz Hsz.out hlt
      have Hc := Lib.hid (Hun.out C[k] UA uc (wr.alloc (.cells #[.int .i64 C[k].params, .int .i64 C[k].regs, .slice UA C[k].l.length uc] 102)) (Hb1.out.trans (hbw.mono HWs.out)) (hI.below (hbo.mono (Nat.le_trans (Nat.le_trans hB HWs.out) hws))) hus.1 hus.2)
      have Hbw := Lib.hid hbw
      have Hk := Lib.hid (Hall.out k hlt)
      obtain ⟨oo, hoo⟩ : ∃ o, o = C[k] := ⟨_, rfl⟩
      have Hoo := Lib.hid hoo
      rw [← hoo] at d0 d1 d2 Hc Hbw Hk q0
      clear hat hI hbo hbw KC2 hoo hus hbl
      obtain ⟨pm, rg, ul⟩ := oo
      dsimp only at *
      obtain ⟨nl, hnl⟩ : ∃ n, n = ul.length := ⟨_, rfl⟩
      rw [← hnl] at d2 Hc Hbw q0
      clear hnl
      go_wp2_with fail
      refine Hc.out.mono ?_
      rintro e w2 ⟨rfl, hb2⟩
      have Hbn := Lib.hid (Hbw.out.trans (hb2.mono Hbw.out.size))
      clear hb2 Hc q0 d0 d1 d2
      cases ho : unitOk C ⟨pm, rg, ul⟩
      · have Hres := Lib.hid (Hk.out ho)
        have Hbe := Lib.hid (Hb1.out.trans (Hbn.out.mono HWs.out))
        clear ho
        go_wp2
        go_ret
        exact ⟨by rw [Hres.out]; first | rfl | simp, Hbe.out⟩
      · have Hnew : Hid (∀ j (hj : j < C.length), j < k + 1 → unitOk C C[j] = true) := Lib.hid (fun j hj h => by
          by_cases e : j = k
          · subst e; rw [← Hoo.out]; exact ho
          · exact hall.out j hj (by omega))
        clear ho
        go_wp2
        go_roundw
        case rel => exact ⟨k + 1, by omega, by go_num, Hnew, Hbn.out⟩
        case measure => simp [intOf]; omega
    · obtain rfl : k = C.length := by omega
      have Hres := Lib.hid (Hyes.out (fun j hj => hall.out j hj hj))
      have Hbe := Lib.hid (Hb1.out.trans (hbl.mono HWs.out))
      clear hbl
      go_wp2
      go_ret
      exact ⟨by rw [Hres.out]; first | rfl | simp, Hbe.out⟩
end Cod
end Go.Proofs.YtebgigiakfjocaaDoor
