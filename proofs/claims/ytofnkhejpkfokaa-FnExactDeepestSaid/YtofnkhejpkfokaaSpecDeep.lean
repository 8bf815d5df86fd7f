/-
  The model's Deepest.
-/
import Derived.Test.YtofnkhejpkfokaaSpecDeepSt
import Derived.Test.YtofnkhejpkfokaaSpecFormAll
import Derived.Test.YtofnkhejpkfokaaImplNodes
namespace Go.Proofs.Ytofnkhejpkfokaa
open Go.RowKit
set_option linter.unusedVariables false

theorem formOk_good {l : List Fn} (h : formOk l = true) : fnsGood l = true := by
  unfold formOk at h
  simp only [Bool.and_eq_true, decide_eq_true_eq] at h
  exact h.1.2

set_option maxHeartbeats 2000000 in
theorem specDeepest_c (l : List Fn) (A : Option Addr) (cp L B : Nat) (w : World) (hB : B ≤ w.heap.size) (hsz : fnsSz l ≤ 1048576) (h : FnL w L B A l) :
    Calls Try.prog 21 #[.agg #[.slice A l.length cp]] w fun r w' => r = .returned (.int .i64 (deepOf l)) ∧ Below w.heap.size w w' := by
  have hn := h.1
  unfold maxLen at hn
  have hb0 : Below w.heap.size w (w.alloc (.cells #[.slice A l.length cp] 29)) := (Below.refl _ _).alloc (Nat.le_refl _) _
  have KB := Blk.new w 29 #[.slice A l.length cp]
  have hc := specFormOk_c l A cp L B (w.alloc (.cells #[.slice A l.length cp] 29)) (by rw [World.size_alloc]; omega) hsz (h.below (hb0.mono hB))
  cases hf : formOk l
  · have hno : deepOf l = 0 := by unfold deepOf; rw [if_neg (by rw [hf]; simp)]
    rw [hf] at hc
    have Hc := Lib.hid hc
    rw [hno]
    clear hc hf hno h
    go_enter Try.func21, Try.ntmps21
    go_wp2_with fail
    refine Hc.out.mono ?_
    rintro r w1 ⟨rfl, hb1⟩
    go_wp2
    go_ret
    exact ⟨rfl, hb0.trans (hb1.mono hb0.size)⟩
  have hyes : deepOf l = fnsDeep l := by unfold deepOf; rw [if_pos hf]
  have hN := Lib.hid (formOk_good hf)
  rw [hf] at hc
  rw [hyes]
  have Hc := Lib.hid hc
  clear hc hf hyes
  go_enter Try.func21, Try.ntmps21
  go_wp2_with fail
  refine Hc.out.mono ?_
  rintro r w1 ⟨rfl, hb1⟩
  have hb01 := hb0.trans (hb1.mono hb0.size)
  have K1 := KB.below hb1 KB.lt
  clear Hc
  go_wp2
  go_loopw [3, 4] (fun s i wr => ∃ (j : Nat) (u : Int), j ≤ l.length ∧ i = .int .i64 j ∧ s = .int .i64 u ∧ Hid (u = fnsDeep (l.take j)) ∧ Below w.heap.size w wr ∧ Blk wr w.heap.size 29 #[.slice A l.length cp]) (fun _ i _ => l.length - (intOf i).toNat)
  case atStart => exact ⟨0, 0, Nat.zero_le _, rfl, rfl, Lib.hid (by simp [fnsDeep]), hb01, K1⟩
  case round =>
    obtain ⟨j, u, hj, rfl, rfl, hu, hbl, hK⟩ := hrel
    have b0 := hK.cell_of 0 rfl
    by_cases hlt : j < l.length
    · obtain ⟨ad, rfl, _, hbk, hat⟩ := (h.below (hbl.mono hB)).2 (by omega)
      obtain ⟨v0, v1, v2, ⟨c0, c1, c2⟩, hv⟩ := hat j hlt
      obtain ⟨fA, fc, fA1, fc1, fA2, fc2, rfl, rfl, rfl, fR, fm, fp, fb⟩ := hv
      have h1 := fnsDeep_step hlt
      have hu' := hu.out
      have hx := deepSts_c l[j].body fA2 fc2 L B 2 wr fb (Nat.le_trans hB hbl.size) (fnsGood_get hlt hN.out).2
      rw [show ((2 : Nat) : Int) = 2 from rfl] at hx
      have F : Hid (max u (stsDeep l[j].body 2 : Int) = fnsDeep (l.take (j + 1))) := Lib.hid (by omega)
      have Hx := Lib.hid hx
      clear hx h1 hu' hat
      go_wp2_with fail
      refine Hx.out.mono ?_
      rintro r w2 ⟨rfl, hb2⟩
      have hbn := hbl.trans (hb2.mono hbl.size)
      have hK2 := hK.below hb2 hK.lt
      clear b0 c0 c1 c2
      go_wp2_with fail
      refine (most_c u (stsDeep l[j].body 2) _).mono ?_
      rintro r w' ⟨rfl, rfl⟩
      go_wp2
      go_roundw
      case rel => exact ⟨j + 1, _, by omega, by go_num, rfl, F, hbn, hK2⟩
      case measure => simp [intOf]; omega
    · go_wp2
      go_ret
      have hjl : j = l.length := by omega
      subst hjl
      have h1 := hu.out
      rw [List.take_length] at h1
      exact ⟨by rw [show ((fnsDeep l : Nat) : Int) = u by omega]; rfl, hbl⟩
end Go.Proofs.Ytofnkhejpkfokaa
