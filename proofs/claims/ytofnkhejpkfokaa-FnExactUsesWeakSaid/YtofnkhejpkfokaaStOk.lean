/-
  The program's check of a statement's own fields.
-/
import Derived.Test.YtofnkhejpkfokaaImplSmall
namespace Go.Proofs.Ytofnkhejpkfokaa
open Go.RowKit
set_option linter.unusedVariables false

set_option maxHeartbeats 4000000 in
theorem stOk_c (k : Int) (name : List UInt8) (e f : Ex) (body els : List St) (vs : List Value) (L B : Nat) (w : World) (hl : name.length ≤ 4294967296) (hB : B ≤ w.heap.size) (h : StV w L B vs (.mk k name e f body els)) :
    Calls Try.prog 126 #[.agg vs.toArray] w fun r w' => r = .returned (.bool (stOk1 k name f body.length els.length)) ∧ Below w.heap.size w w' := by
  obtain ⟨A, c, e0, e1, e2, e3, f0, f1, f2, f3, A1, c1, A2, c2, rfl, hR, hm, he, hf, hb1, hb2⟩ := h.open_
  unfold maxLen at hm
  have hm1 := hb1.1
  have hm2 := hb2.1
  unfold maxLen at hm1 hm2
  have hb : ∀ o, Below w.heap.size w (w.alloc o) := fun o => (Below.refl _ _).alloc (Nat.le_refl _) _
  have hc := fun o => implNameOk_c name A c B (w.alloc o) hl (hR.1.alloc hB o)
  have hs := fun (u0 u1 : Value) => (exEmpty_c f f0 f1 f2 f3 L B (w.alloc (.cells #[u0, u1, e0, e1, e2, e3, f0, f1, f2, f3, .slice A1 body.length c1, .slice A2 els.length c2] 90)) (hf.below ((hb _).mono hB))).mono
    (R' := fun r w' => r = .returned (.bool (exNone f)) ∧ Below w.heap.size w w' ∧ w'.cell? ⟨w.heap.size, 10, none⟩ = some (.slice A1 body.length c1) ∧ w'.cell? ⟨w.heap.size, 11, none⟩ = some (.slice A2 els.length c2))
    (fun r w' hh => ⟨hh.1, (hb _).trans (hh.2.mono (hb _).size), ((Blk.new w _ _).below hh.2 (by simp)).cell_of 10 rfl, ((Blk.new w _ _).below hh.2 (by simp)).cell_of 11 rfl⟩)
  obtain ⟨xk, xn, xA, xa, xc, xA', xa', xc', rfl, rfl, rfl, rfl⟩ := he.shape
  obtain ⟨yk, yn, yA, ya, yc, yA', ya', yc', rfl, rfl, rfl, rfl⟩ := hf.shape
  have Hc := Lib.hid hc
  have Hs := Lib.hid hs
  clear hR h hc hs he hf hb1 hb2
  by_cases hk : 0 ≤ k ∧ k ≤ 7
  · have hks : k = 0 ∨ k = 1 ∨ k = 2 ∨ k = 3 ∨ k = 4 ∨ k = 5 ∨ k = 6 ∨ k = 7 := by omega
    clear hk
    rcases hks with rfl | rfl | rfl | rfl | rfl | rfl | rfl | rfl
    all_goals
      go_enter Try.func126, Try.ntmps126
      go_wp2_with (first
        | (go_at_call 115; refine (Hc.out _).mono ?_; rintro e w' ⟨rfl, rfl⟩)
        | (go_at_call 133; refine (Hs.out _ _).mono ?_; rintro e w' ⟨rfl, hbw, q10, q11⟩))
    all_goals
      go_ret
      refine ⟨ret_bool' ?_, by first | exact hbw | exact hb _⟩
      first
        | (simp_all [stOk1]; done)
        | (simp [stOk1, *]; done)
        | (simp [stOk1, *]; omega)
        | (simp [stOk1, *]; rw [Bool.eq_iff_iff]; simp; omega)
        | (simp_all [stOk1]; exact (nat_beq _ 0).symm)
  · have he : stOk1 k name f body.length els.length = false := by
      unfold stOk1
      rw [if_neg (by omega), if_neg (by omega), if_neg (by omega), if_neg (by omega), if_neg (by omega)]
    rw [he]
    have k0 : ¬ k = 0 := by omega
    have k1 : ¬ k = 1 := by omega
    have k2 : ¬ k = 2 := by omega
    have k3 : ¬ k = 3 := by omega
    have k4 : ¬ k = 4 := by omega
    have k5 : ¬ k = 5 := by omega
    have k6 : ¬ k = 6 := by omega
    have k7 : ¬ k = 7 := by omega
    clear he hk Hc Hs
    go_enter Try.func126, Try.ntmps126
    go_wp2
    go_ret
    exact ⟨rfl, hb _⟩
end Go.Proofs.Ytofnkhejpkfokaa
