/-
  The program's Counted.
-/
import Derived.Test.YtpepikjcbgkcfaaRefsI
import Derived.Test.YtpepikjcbgkcfaaCountsOf
import Derived.Test.YtpepikjcbgkcfaaCountedD
namespace Go.Proofs.Ytpepikjcbgkcfaa
open Go.RowKit
set_option linter.unusedVariables false
set_option linter.unusedSimpArgs false

section
variable (a : Ar) (A0 A1 A2 : Option Addr) (c0 c1 c2 L B : Nat) (w : World)
set_option maxRecDepth 100000 in
set_option maxHeartbeats 4000000 in
theorem implCounted_c (l : List Vl) (VA : Option Addr) (vc LV BV : Nat) (hB : B ≤ w.heap.size) (hBV : BV ≤ w.heap.size) (h : ArL w L B A0 A1 A2 a) (hsz : arSz a ≤ 1048576) (hv : VlL w LV BV VA l) (hl : l.length ≤ 1048576) :
    Calls Try.prog 31 #[.agg #[.slice A0 a.slots.length c0, .slice A1 a.queue.length c1, .slice A2 a.purple.length c2], .slice VA l.length vc] w fun e w' => e = .returned (.bool (cntedA a l)) ∧ Below w.heap.size w w' := by
  have hbW := blw1 w (.cells #[.slice A0 a.slots.length c0, .slice A1 a.queue.length c1, .slice A2 a.purple.length c2] 30)
  have HR := Lib.hid (roomAt a A0 A1 A2 c0 c1 c2 L B w _ h hsz (hbW.mono hB) (Nat.le_trans hB hbW.size))
  have HbW := Lib.hid hbW
  have Hsz := Lib.hid hsz
  have HQ := Lib.hid h.2.1
  have HV := Lib.hid hv
  have HSl : Hid (a.slots.length ≤ 1048576) := Lib.hid (by unfold arSz slsSz at hsz; omega)
  clear h hsz hbW hv
  go_enter Try.func31, Try.ntmps31
  go_wp2_with fail
  refine HR.out.mono ?_
  rintro e w1 ⟨u0, u1, u2, u3, rfl, hb, hu, hyes⟩
  have Hb := Lib.hid (HbW.out.trans (hb.mono HbW.out.size))
  cases hok : arOk a
  · have E := Lib.hid (show cntedA a l = false by unfold cntedA; rw [hok]; rfl)
    obtain ⟨_, _, _, rfl⟩ := hu u0 (by simp)
    obtain ⟨_, _, _, rfl⟩ := hu u1 (by simp)
    obtain ⟨_, _, _, rfl⟩ := hu u2 (by simp)
    obtain ⟨_, _, _, rfl⟩ := hu u3 (by simp)
    clear hu hb HbW HR hyes hok
    go_wp2
    go_ret
    exact ⟨by rw [E.out]; rfl, Hb.out.alloc Hb.out.size _⟩
  · obtain ⟨A, c, rfl, hsl, -, rfl, rfl⟩ := hyes hok
    obtain ⟨LA, ln, lc, rfl⟩ := hu u1 (by simp)
    have hbr := blw1 w1 (.cells #[.slice A a.slots.length c, .slice LA ln lc, .slice A1 a.queue.length c1, .slice A2 a.purple.length c2] 84)
    have KR := Lib.hid (Blk.new w1 84 #[.slice A a.slots.length c, .slice LA ln lc, .slice A1 a.queue.length c1, .slice A2 a.purple.length c2])
    have Hb2 := Lib.hid (Hb.out.trans (hbr.mono Hb.out.size))
    have hS2 := (hsl.below hbr).more (Nat.le_refl _) hbr.size
    have HS := Lib.hid hS2
    have Hro := Lib.hid (rootsOk_c a.slots A LA A1 A2 c ln lc a.queue.length c1 a.purple.length c2 l VA vc LV BV (w1.alloc (.cells #[.slice A a.slots.length c, .slice LA ln lc, .slice A1 a.queue.length c1, .slice A2 a.purple.length c2] 84)) (Nat.le_trans hBV Hb2.out.size) hl hS2 (HV.out.below (Hb2.out.mono hBV)))
    have Hok := Lib.hid hok
    clear hu hb HbW HR hyes hok hsl hbr hS2
    go_wp2_with fail
    refine Hro.out.mono ?_
    rintro e w2 ⟨rfl, hb2⟩
    have K2 := KR.out.below hb2 KR.out.lt
    have Hb3 := Lib.hid (Hb2.out.trans (hb2.mono Hb2.out.size))
    cases hrt : rootsA a.slots l
    · have E := Lib.hid (show cntedA a l = false by unfold cntedA; rw [Hok.out, hrt]; rfl)
      clear hrt hb2 K2 Hro KR
      go_wp2
      go_ret
      exact ⟨by rw [E.out]; rfl, Hb3.out⟩
    · have E := Lib.hid (show cntedA a l = decide (cntTo a.slots a.slots.length = cntR a.slots a.queue l) by unfold cntedA cntEq; rw [Hok.out, hrt]; rfl)
      have HK2 := Lib.hid K2
      have hgo : Hid (∀ d, Calls Try.prog 56 #[.agg #[.slice A a.slots.length c, .slice LA ln lc, .slice A1 a.queue.length c1, .slice A2 a.purple.length c2]] (w2.drewN d) (AnsI (w2.drewN d) (cntTo a.slots a.slots.length))) :=
        Lib.hid (fun d => counts_c a.slots A LA A1 A2 c ln lc a.queue.length c1 a.purple.length c2 (w2.drewN d) HSl.out (((HS.out.below hb2).more (Nat.le_refl _) hb2.size).keep (fun _ _ _ => rfl)))
      have HS3 := Lib.hid ((HS.out.below hb2).more (Nat.le_refl _) hb2.size)
      have hml : (cntTo a.slots a.slots.length).length ≤ maxLen := by have := cntTo_len (Nat.le_refl a.slots.length); have := HSl.out; unfold maxLen; omega
      have Hrf : Hid (∀ X : World, Below w2.heap.size w2 X → Calls Try.prog 62 #[.agg #[.slice A a.slots.length c, .slice LA ln lc, .slice A1 a.queue.length c1, .slice A2 a.purple.length c2], .slice VA l.length vc] X (AnsI X (cntR a.slots a.queue l))) :=
        Lib.hid (fun X hX => refs_c a A LA A1 A2 c ln lc c1 c2 l VA vc LV L X Hsz.out Hok.out hrt ((HS3.out.below hX).more (Nat.le_refl _) hX.size) ((HV.out.below ((Hb3.out.trans (hX.mono Hb3.out.size)).mono hBV)).more (Nat.le_refl _) (Nat.le_trans hBV (Nat.le_trans Hb3.out.size hX.size))) ((HQ.out.below ((Hb3.out.trans (hX.mono Hb3.out.size)).mono hB)).more (Nat.le_refl _) (Nat.le_trans hB (Nat.le_trans Hb3.out.size hX.size))))
      have hmr : (cntR a.slots a.queue l).length ≤ maxLen := by have := cntR_len a.slots a.queue l; have := HSl.out; unfold maxLen; omega
      obtain ⟨s, hs⟩ : ∃ s, cntTo a.slots a.slots.length = s := ⟨_, rfl⟩
      obtain ⟨r, hr⟩ : ∃ s, cntR a.slots a.queue l = s := ⟨_, rfl⟩
      rw [hs] at E hgo hml
      rw [hr] at E Hrf hmr
      have Hml := Lib.hid hml
      have Hmr := Lib.hid hmr
      obtain ⟨q0, q1, q2, q3⟩ : w2.cell? ⟨w1.heap.size, 0, none⟩ = some (.slice A a.slots.length c) ∧ w2.cell? ⟨w1.heap.size, 1, none⟩ = some (.slice LA ln lc) ∧ w2.cell? ⟨w1.heap.size, 2, none⟩ = some (.slice A1 a.queue.length c1) ∧ w2.cell? ⟨w1.heap.size, 3, none⟩ = some (.slice A2 a.purple.length c2) :=
        ⟨K2.cel 0 rfl, K2.cel 1 rfl, K2.cel 2 rfl, K2.cel 3 rfl⟩
      clear hrt hb2 K2 Hro KR HS HS3 hs hr hml hmr HSl Hsz HQ HV Hok
      go_upto_region 4 with fail
      go_cut [4] (fun b wx => b = .bool (decide (s = r)) ∧ Hid (Below w2.heap.size w2 wx))
      case first =>
        go_region_with (first
          | (go_at_call 56; refine (hgo.out _).mono ?_; rintro e w3 ⟨A3, c3, rfl, ho3, hb3⟩; have Hb23 := Lib.hid (show Below w2.heap.size w2 w3 from ⟨hb3.os, hb3.tape, hb3.output, hb3.size, hb3.block⟩); have K3 := HK2.out.below Hb23.out HK2.out.lt; obtain ⟨q0, q1, q2, q3⟩ : w3.cell? ⟨w1.heap.size, 0, none⟩ = some (.slice A a.slots.length c) ∧ w3.cell? ⟨w1.heap.size, 1, none⟩ = some (.slice LA ln lc) ∧ w3.cell? ⟨w1.heap.size, 2, none⟩ = some (.slice A1 a.queue.length c1) ∧ w3.cell? ⟨w1.heap.size, 3, none⟩ = some (.slice A2 a.purple.length c2) := ⟨K3.cel 0 rfl, K3.cel 1 rfl, K3.cel 2 rfl, K3.cel 3 rfl⟩; have Ho3 := Lib.hid ho3; have Hrf3 := Lib.hid (Hrf.out w3 Hb23.out); clear hb3 ho3 K3 hgo)
          | (go_at_call 62; refine Hrf3.out.mono ?_; rintro e w4 ⟨A4, c4, rfl, ho4, hb4⟩; have Heq := Lib.hid (slEqual_c s r A3 A4 c3 c4 _ _ _ _ w4 ((Ho3.out.ilg Hml.out).below hb4) (ho4.ilg Hmr.out)); have Hb24 := Lib.hid (Hb23.out.trans (hb4.mono Hb23.out.size)); clear ho4 hb4)
          | (go_at_call 64; refine Heq.out.mono ?_; rintro e w5 ⟨rfl, n5, hw5⟩))
        all_goals
          try go_wp2_with fail
          go_meet
          case rel => exact ⟨by simp, Lib.hid (by have := Hb24.out; subst hw5; exact ⟨this.os, this.tape, this.output, this.size, this.block⟩)⟩
      case rest =>
        obtain ⟨rfl, hb5⟩ := hcut
        go_wp2
        go_ret
        exact ⟨by rw [E.out]; rfl, Hb3.out.trans (hb5.out.mono Hb3.out.size)⟩
end
end Go.Proofs.Ytpepikjcbgkcfaa
