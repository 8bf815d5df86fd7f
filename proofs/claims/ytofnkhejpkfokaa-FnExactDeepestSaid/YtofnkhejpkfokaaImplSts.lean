/-
  The program's measure of a list of statements.
-/
import Derived.Test.YtofnkhejpkfokaaStDef
namespace Go.Proofs.Ytofnkhejpkfokaa
open Go.RowKit
set_option linter.unusedVariables false

theorem stsSz_take {l : List St} {k : Nat} (hk : k < l.length) : stSz l[k] ≤ stsSz l := by have := stsSz_get hk; omega

set_option maxHeartbeats 2000000 in
theorem measureSts_of (l : List St) (ih : ∀ s ∈ l, MeaSt s) : MeaSts l := by
  intro A cp L B g d a c w h hB hg hsz hK ha ha' hc hc' hd
  have hn := h.1
  unfold maxLen at hn
  have Ih := Lib.hid ih
  have Hsz := Lib.hid hsz
  clear ih hsz
  go_enter Try.func91, Try.ntmps91
  go_wp2
  go_loopw [11] (fun i wr => ∃ (k : Nat) (a' c' : Int), k ≤ l.length ∧ i = .int .i64 k ∧ Past g w wr ∧ Blk wr g 65 #[.int .i64 a', .int .i64 c'] ∧ a' = a + stsN (l.take k) ∧ c' = max c (stsDeep (l.take k) d) ∧ a' ≤ 90 ∧ Hid (stsGood (l.take k) d = true)) (fun i _ => l.length - (intOf i).toNat)
  case atStart => exact ⟨0, a, c, Nat.zero_le _, rfl, Past.refl _ _, hK, by simp [stsN], by simp [stsDeep]; omega, ha', Lib.hid (by simp [stsGood])⟩
  case round =>
    obtain ⟨k, a', c', hk, rfl, hP, hKr, ea, ec, ha2, hgood⟩ := hrel
    by_cases hlt : k < l.length
    · obtain ⟨ad, rfl, _, hbk, hat⟩ := (h.below (hP.below hg hB)).2 (by omega)
      obtain ⟨vs, hcells, hv⟩ := hat k hlt
      obtain ⟨xk, yA, ya, yc, k1, n1, A1, a1, c1, A2, a2, c2, k3, n3, A3, a3, c3, A4, a4, c4, A5, a5, c5, A6, a6, c6, rfl⟩ := hv.shape
      have q0 := hcells 0 _ rfl
      have q1 := hcells 1 _ rfl
      have q2 := hcells 2 _ rfl
      have q3 := hcells 3 _ rfl
      have q4 := hcells 4 _ rfl
      have q5 := hcells 5 _ rfl
      have q6 := hcells 6 _ rfl
      have q7 := hcells 7 _ rfl
      have q8 := hcells 8 _ rfl
      have q9 := hcells 9 _ rfl
      have q10 := hcells 10 _ rfl
      have q11 := hcells 11 _ rfl
      simp only [if_true, Nat.reduceEqDiff, if_false] at q0 q1 q2 q3 q4 q5 q6 q7 q8 q9 q10 q11
      have hd0 := stsDeep_le _ _ hgood.out
      have hBr : B ≤ wr.heap.size := Nat.le_trans hB hP.size
      have hc0 := fun o => Ih.out l[k] (List.getElem_mem hlt) _ L B g d a' c' (wr.alloc o) (hv.below ((Below.refl B wr).alloc hBr o)) (by rw [World.size_alloc]; omega) hg (by have := stsSz_take hlt; have := Hsz.out; omega) (hKr.alloc o) (by omega) ha2 (by omega) (by omega) hd
      have Hc := Lib.hid hc0
      have F : Hid (a' = a + stsN (l.take k) ∧ c' = max c (stsDeep (l.take k) d)) := Lib.hid ⟨ea, ec⟩
      have hc2 : c' ≤ 100 := by omega
      have hc3 : 0 ≤ c' := by omega
      have ha3 : 0 ≤ a' := by omega
      clear hc0 ea ec hat hcells
      go_wp2_with fail
      refine (Hc.out _).mono ?_
      rintro e w3 ⟨b, rfl, hP3, a3, c3, hK3, hiff, himp⟩
      have Hiff := Lib.hid hiff
      have Himp := Lib.hid himp
      have hP03 := (hP.alloc _).trans hP3
      clear hiff himp Hc
      cases b
      · go_wp2
        go_ret
        refine ⟨false, rfl, hP03, _, _, hK3, ⟨fun hh => Bool.noConfusion hh, fun hh => ?_⟩, fun hh => Bool.noConfusion hh⟩
        have h1 := stsGood_get hlt hh.1
        have h2 := stsN_get hlt
        obtain ⟨f1, f2⟩ := F.out
        exact Hiff.out.2 ⟨h1, by have := hh.2; omega⟩
      · go_wp2
        go_roundw
        case rel =>
          obtain ⟨f1, f2⟩ := F.out
          obtain ⟨g1, g2⟩ := Hiff.out.1 (by trivial)
          obtain ⟨m1, m2⟩ := Himp.out (by trivial)
          exact ⟨k + 1, a3, c3, by omega, by go_num, hP03, hK3, by rw [stsN_step hlt]; omega, by rw [stsDeep_step hlt]; omega, by omega, Lib.hid (by rw [stsGood_step hlt, hgood.out, g1]; rfl)⟩
        case measure => simp [intOf]; omega
    · go_wp2
      go_ret
      have hkl : k = l.length := by omega
      subst hkl
      rw [List.take_length] at ea ec
      have hg1 := hgood.out
      rw [List.take_length] at hg1
      exact ⟨true, rfl, hP, a', c', hKr, by simp [hg1]; omega, fun _ => ⟨ea, ec⟩⟩
end Go.Proofs.Ytofnkhejpkfokaa
