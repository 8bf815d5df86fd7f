/-
  The model's l4counted and Counted.
-/
import Derived.Test.YtpepikjcbgkcfaaRefsS
import Derived.Test.YtpepikjcbgkcfaaCountedD
namespace Go.Proofs.Ytpepikjcbgkcfaa
open Go.RowKit
set_option linter.unusedVariables false
set_option linter.unusedSimpArgs false

section
variable (a : Ar) (A0 A1 A2 : Option Addr) (c0 c1 c2 L B : Nat) (w : World)

set_option maxRecDepth 100000 in
set_option maxHeartbeats 4000000 in
theorem l4counted_c (l : List Vl) (VA : Option Addr) (vc LV BV : Nat) (hB : B ≤ w.heap.size) (hBV : BV ≤ w.heap.size) (h : ArL w L B A0 A1 A2 a) (hsz : arSz a ≤ 1048576) (hok : arOk a = true) (hro : rootsA a.slots l = true) (hv : VlL w LV BV VA l) :
    Calls Try.prog 63 #[.agg #[.slice A0 a.slots.length c0, .slice A1 a.queue.length c1, .slice A2 a.purple.length c2], .slice VA l.length vc] w fun e w' => e = .returned (.bool (cntEq a.slots a.queue l)) ∧ Below w.heap.size w w' := by
  have hbW := blw1 w (.cells #[.slice A0 a.slots.length c0, .slice A1 a.queue.length c1, .slice A2 a.purple.length c2] 30)
  have HKA := Lib.hid (Blk.new w 30 #[.slice A0 a.slots.length c0, .slice A1 a.queue.length c1, .slice A2 a.purple.length c2])
  have Hc := Lib.hid (l4refs_c a A0 A1 A2 c0 c1 c2 l VA vc 0 0 0 (w.alloc (.cells #[.slice A0 a.slots.length c0, .slice A1 a.queue.length c1, .slice A2 a.purple.length c2] 30)) hsz hok hro ((h.1.below (hbW.mono hB)).more (Nat.zero_le _) (Nat.le_trans hB hbW.size)) ((hv.below (hbW.mono hBV)).more (Nat.zero_le _) (Nat.le_trans hBV hbW.size)) ((h.2.1.below (hbW.mono hB)).more (Nat.zero_le _) (Nat.le_trans hB hbW.size)))
  have HbW := Lib.hid hbW
  have HS := Lib.hid h.1
  have hS : a.slots.length ≤ 1048576 := by unfold arSz slsSz at hsz; omega
  have Hno := Lib.hid (fun (i : Nat) (hi : i < a.slots.length) => cntEq_no (Q := a.queue) (l := l) hi)
  have Hyes := Lib.hid (cntEq_yes hok hro)
  have hlen := cntR_len a.slots a.queue l
  obtain ⟨r, hr⟩ : ∃ r, cntR a.slots a.queue l = r := ⟨_, rfl⟩
  obtain ⟨b, hb⟩ : ∃ b, cntEq a.slots a.queue l = b := ⟨_, rfl⟩
  obtain ⟨S, Q, P⟩ := a
  dsimp only at *
  rw [hr] at Hc Hno Hyes hlen
  rw [hb] at Hno Hyes
  rw [hb]
  have HL := Lib.hid hlen
  clear h hsz hbW hv hok hro hr hb hlen
  go_enter Try.func63, Try.ntmps63
  go_wp2_with fail
  refine Hc.out.mono ?_
  rintro e w1 ⟨Ar, cr, rfl, hor, hb1⟩
  have hmr : r.length ≤ maxLen := by have := HL.out; unfold maxLen; omega
  have HIr := Lib.hid (hor.ilg hmr)
  have hb01 := HbW.out.trans (hb1.mono HbW.out.size)
  have HK1 := Lib.hid (HKA.out.below hb1 HKA.out.lt)
  have HS1 := Lib.hid (HS.out.below (hb01.mono hB))
  have Hb01 := Lib.hid hb01
  rw [HL.out]
  clear hor hb1 hb01 HKA HbW HS Hc hmr
  go_wp2_with fail
  go_loopw [6] (fun i wr => ∃ k : Nat, k ≤ S.length ∧ i = .int .i64 k ∧ Hid (∀ j (hj : j < S.length), j < k → S[j].live = true → S[j].count = r.getD j 0) ∧ ∃ n, wr = w1.drewN n) (fun i _ => S.length - (intOf i).toNat)
  case atStart => exact ⟨0, Nat.zero_le _, rfl, Lib.hid (fun j hj h => by omega), 0, rfl⟩
  case round =>
    obtain ⟨k, hk, rfl, hall, n, rfl⟩ := hrel
    have p0 := HK1.out.cel 0 (v := .slice A0 S.length c0) rfl
    by_cases hlt : k < S.length
    · obtain ⟨ad, rfl, _, hbk, hat⟩ := HS1.out.2 (by omega)
      obtain ⟨x0, x1, x2, x3, ⟨d0, d1, d2, d3⟩, rfl, rfl, rfl, _⟩ := hat k hlt
      obtain ⟨ar, rfl, _, hbr, hatr⟩ := HIr.out.2 (by have := HL.out; omega)
      have e0 := hatr k (by have := HL.out; omega)
      have hge : r[k]'(by have := HL.out; omega) = r.getD k 0 := by rw [List.getD_eq_getElem?_getD, List.getElem?_eq_getElem (by have := HL.out; omega)]; rfl
      rw [hge] at e0
      have Hk := Lib.hid (Hno.out k hlt)
      have Hs : Hid ((S[k].live = true → S[k].count = r.getD k 0) → ∀ j (hj : j < S.length), j < k + 1 → S[j].live = true → S[j].count = r.getD j 0) := Lib.hid (fun e j hj h => by
        by_cases ej : j = k
        · subst ej; exact e
        · exact hall.out j hj (by omega))
      obtain ⟨lv, hlv⟩ : ∃ x, S[k].live = x := ⟨_, rfl⟩
      obtain ⟨ct, hct⟩ : ∃ x, S[k].count = x := ⟨_, rfl⟩
      obtain ⟨y, hy⟩ : ∃ x, r.getD k 0 = x := ⟨_, rfl⟩
      rw [hlv] at d0 Hs
      rw [hct] at d2 Hk Hs
      rw [hy] at e0 Hk Hs
      clear hat hatr hge hlv hct hy hall d1 d3
      cases lv
      · have Hnew := Lib.hid (Hs.out (fun h => by cases h))
        clear Hs Hk
        go_wp2
        go_quiet (fail)
        go_wp2
        go_roundw
        case rel => exact ⟨k + 1, by omega, by go_num, Hnew, _, rfl⟩
        case measure => simp [intOf]; omega
      · by_cases hxy : ct = y
        · subst hxy
          have Hnew := Lib.hid (Hs.out (fun _ => rfl))
          clear Hs Hk
          go_wp2
          go_quiet (fail)
          go_wp2
          go_roundw
          case rel => exact ⟨k + 1, by omega, by go_num, Hnew, _, rfl⟩
          case measure => simp [intOf]; omega
        · have Hr := Lib.hid (Hk.out hxy)
          clear Hs Hk
          go_wp2
          go_quiet (fail)
          go_wp2
          go_ret
          exact ⟨by rw [Hr.out]; rfl, ⟨Hb01.out.os, Hb01.out.tape, Hb01.out.output, Hb01.out.size, Hb01.out.block⟩⟩
    · have Hr := Lib.hid (Hyes.out (fun j hj => hall.out j hj (by omega)))
      clear hall
      go_wp2
      go_ret
      exact ⟨by rw [Hr.out]; rfl, ⟨Hb01.out.os, Hb01.out.tape, Hb01.out.output, Hb01.out.size, Hb01.out.block⟩⟩

set_option maxRecDepth 100000 in
set_option maxHeartbeats 2000000 in
theorem specCounted_c (l : List Vl) (VA : Option Addr) (vc LV BV : Nat) (hB : B ≤ w.heap.size) (hBV : BV ≤ w.heap.size) (h : ArL w L B A0 A1 A2 a) (hsz : arSz a ≤ 1048576) (hc : a.purple.length ≤ c2) (hv : VlL w LV BV VA l) (hl : l.length ≤ 1048576) :
    Calls Try.prog 30 #[.agg #[.slice A0 a.slots.length c0, .slice A1 a.queue.length c1, .slice A2 a.purple.length c2], .slice VA l.length vc] w fun e w' => e = .returned (.bool (cntedA a l)) ∧ Below w.heap.size w w' := by
  have hbW := blw1 w (.cells #[.slice A0 a.slots.length c0, .slice A1 a.queue.length c1, .slice A2 a.purple.length c2] 30)
  have HR := Lib.hid (okAt a A0 A1 A2 c0 c1 c2 L B w _ h hsz hc (hbW.mono hB) (Nat.le_trans hB hbW.size))
  have HbW := Lib.hid hbW
  have HKA := Lib.hid (Blk.new w 30 #[.slice A0 a.slots.length c0, .slice A1 a.queue.length c1, .slice A2 a.purple.length c2])
  have H := Lib.hid h
  have HV := Lib.hid hv
  have Hsz := Lib.hid hsz
  clear h hsz hbW hv
  go_enter Try.func30, Try.ntmps30
  go_wp2_with fail
  refine HR.out.mono ?_
  rintro e w1 ⟨rfl, hb⟩
  have hb1 := HbW.out.trans (hb.mono HbW.out.size)
  have KA1 := HKA.out.below hb HKA.out.lt
  cases hok : arOk a
  · have E := Lib.hid (show cntedA a l = false by unfold cntedA; rw [hok]; rfl)
    have Hb := Lib.hid hb1
    clear hb HbW HR hb1 KA1 HKA hok
    go_wp2
    go_ret
    exact ⟨by rw [E.out]; rfl, Hb.out⟩
  · have q0 := KA1.cel 0 rfl
    have q1 := KA1.cel 1 rfl
    have q2 := KA1.cel 2 rfl
    have Hl := Lib.hid (l4vals_c a.slots A0 A1 A2 c0 a.queue.length c1 a.purple.length c2 l VA vc L B LV BV w1 (Nat.le_trans hB hb1.size) (Nat.le_trans hBV hb1.size) hl (H.out.1.below (hb1.mono hB)) (HV.out.below (hb1.mono hBV)))
    have Hb := Lib.hid hb1
    have HK := Lib.hid KA1
    have Hok := Lib.hid hok
    clear hb HbW HR hb1 KA1 HKA hok
    go_wp2_with fail
    refine Hl.out.mono ?_
    rintro e w2 ⟨rfl, hb⟩
    have hb2 := Hb.out.trans (hb.mono Hb.out.size)
    have K2 := HK.out.below hb HK.out.lt
    cases hro : rootsA a.slots l
    · have E := Lib.hid (show cntedA a l = false by unfold cntedA; rw [hro]; simp)
      have Hb2 := Lib.hid hb2
      clear hb hb2 K2 HK Hb Hl hro q0 q1 q2
      go_wp2
      go_ret
      exact ⟨by rw [E.out]; rfl, Hb2.out⟩
    · have E := Lib.hid (show cntedA a l = cntEq a.slots a.queue l by unfold cntedA; rw [hro, Hok.out]; rfl)
      have r0 := K2.cel 0 rfl
      have r1 := K2.cel 1 rfl
      have r2 := K2.cel 2 rfl
      have Hc := Lib.hid (l4counted_c a A0 A1 A2 c0 c1 c2 L B w2 l VA vc LV BV (Nat.le_trans hB hb2.size) (Nat.le_trans hBV hb2.size) (H.out.below (hb2.mono hB)) Hsz.out Hok.out hro (HV.out.below (hb2.mono hBV)))
      have Hb2 := Lib.hid hb2
      obtain ⟨cb, hcb⟩ : ∃ b, cntEq a.slots a.queue l = b := ⟨_, rfl⟩
      rw [hcb] at E Hc
      clear hb hb2 K2 HK Hb Hl hro q0 q1 q2 hcb
      go_wp2_with fail
      refine Hc.out.mono ?_
      rintro e w3 ⟨rfl, hb3⟩
      have Hb3 := Lib.hid (Hb2.out.trans (hb3.mono Hb2.out.size))
      clear hb3 Hc r0 r1 r2
      cases cb
      · go_wp2
        go_ret
        exact ⟨by rw [E.out]; rfl, Hb3.out⟩
      · go_wp2
        go_ret
        exact ⟨by rw [E.out]; rfl, Hb3.out⟩
end
end Go.Proofs.Ytpepikjcbgkcfaa
