/-
  The model's check of lists of statements.
-/
import Derived.Test.YtofnkhejpkfokaaSpecStDef
namespace Go.Proofs.Ytofnkhejpkfokaa
open Go.RowKit
set_option linter.unusedVariables false

set_option maxHeartbeats 2000000 in
theorem specSts_of (l : List St) (ih : ∀ s ∈ l, SpSt s) : SpSts l := by
  intro A cp L B g d left w h hB hg hsz hK h0 h1 hd
  have hn := h.1
  unfold maxLen at hn
  have Ih := Lib.hid ih
  have Hsz := Lib.hid hsz
  clear ih hsz
  go_enter Try.func52, Try.ntmps52
  go_wp2
  go_loopw [7] (fun i wr => ∃ (k : Nat) (a' : Int), k ≤ l.length ∧ i = .int .i64 k ∧ Past g w wr ∧ Blk wr g 60 #[.int .i64 a'] ∧ a' = left - stsN (l.take k) ∧ 0 ≤ a' ∧ Hid (stsGood (l.take k) d = true)) (fun i _ => l.length - (intOf i).toNat)
  case atStart => exact ⟨0, left, Nat.zero_le _, rfl, Past.refl _ _, hK, by simp [stsN], h0, Lib.hid (by simp [stsGood])⟩
  case round =>
    obtain ⟨k, a', hk, rfl, hP, hKr, ea, ha2, hgood⟩ := hrel
    have Ea := Lib.hid ea
    clear ea
    by_cases hlt : k < l.length
    · obtain ⟨ad, rfl, _, hbk, hat⟩ := (h.below (hP.below hg hB)).2 (by omega)
      obtain ⟨vs, hcells, hv⟩ := hat k hlt
      obtain ⟨xk, yA, ya, yc, k1, n1, A1, a1, c1, A2, a2, c2, k3, n3, A3, a3, c3, A4, a4, c4, A5, a5, c5, A6, a6, c6, rfl⟩ := hv.shape
      have q0 := hcells 0 _ rfl
      have q1 := hcells 1 _ rfl
      have q2 := hcells 2 _ rfl
      have q3 := hcells 3 _ rfl
      have q4 := hcells 4 _ rfl
      have q5 := hcells 5 _ rfl
      have q6 := hcells 6 _ rfl
      have q7 := hcells 7 _ rfl
      have q8 := hcells 8 _ rfl
      have q9 := hcells 9 _ rfl
      have q10 := hcells 10 _ rfl
      have q11 := hcells 11 _ rfl
      simp only [if_true, Nat.reduceEqDiff, if_false] at q0 q1 q2 q3 q4 q5 q6 q7 q8 q9 q10 q11
      have hBr : B ≤ wr.heap.size := Nat.le_trans hB hP.size
      have hc0 := Ih.out l[k] (List.getElem_mem hlt) _ L B g d a' wr hv hBr hg (by have := stsSz_get hlt; have := Hsz.out; omega) hKr ha2 (by have := Ea.out; omega) hd
      have Hc := Lib.hid hc0
      clear hc0 hat hcells
      go_wp2_with fail
      refine Hc.out.mono ?_
      rintro e w3 ⟨b, rfl, hP3, a3, hK3, hiff, himp⟩
      have Hiff := Lib.hid hiff
      have Himp := Lib.hid himp
      have hP03 := hP.trans hP3
      clear hiff himp Hc
      cases b
      · go_wp2
        go_ret
        refine sp_no hP03 hK3 (fun hh => ?_)
        have h1 := stsGood_get hlt hh.1
        have h2 := stsN_get hlt
        have h3 := Ea.out
        exact Bool.noConfusion (Hiff.out.2 ⟨h1, by have := hh.2; omega⟩)
      · go_wp2
        go_roundw
        case rel =>
          have h3 := Ea.out
          obtain ⟨g1, g2⟩ := Hiff.out.1 (by trivial)
          have m1 := Himp.out (by trivial)
          exact ⟨k + 1, a3, by omega, by go_num, hP03, hK3, by rw [stsN_step hlt]; omega, by omega, Lib.hid (by rw [stsGood_step hlt, hgood.out, g1]; rfl)⟩
        case measure => simp [intOf]; omega
    · go_wp2
      go_ret
      have hkl : k = l.length := by omega
      subst hkl
      have ea := Ea.out
      have hg1 := hgood.out
      rw [List.take_length] at ea hg1
      exact ⟨true, rfl, hP, a', hKr, ⟨fun _ => ⟨hg1, by omega⟩, fun _ => rfl⟩, fun _ => ea⟩
end Go.Proofs.Ytofnkhejpkfokaa
