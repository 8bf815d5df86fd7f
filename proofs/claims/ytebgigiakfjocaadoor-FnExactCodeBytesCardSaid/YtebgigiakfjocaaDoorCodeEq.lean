/-
  Codes: the laws' own likeness of two that read the same.
-/
import Derived.Test.YtebgigiakfjocaaDoorUnitEq
import Derived.Test.YtebgigiakfjocaaDoorCodeTo
namespace Go.Proofs.YtebgigiakfjocaaDoor
open Go.RowKit
set_option linter.unusedVariables false
namespace Cod

set_option maxRecDepth 100000 in
set_option maxHeartbeats 1000000 in
theorem eqUnitS_c (l : List Un) (A A' : Option Addr) (c c' L B L' B' : Nat) (w : World) (hB : B ≤ w.heap.size) (hB' : B' ≤ w.heap.size) (hl : unsSz l ≤ 1048576) (h : UnL w L B A l) (h' : UnL w L' B' A' l) :
    Calls Tryd.prog 59 #[.slice A l.length c, .slice A' l.length c'] w fun r w' => r = .returned (.bool true) ∧ Below w.heap.size w w' := by
  have hlen : l.length ≤ 1048576 := by unfold unsSz at hl; omega
  go_enter Tryd.func59, Tryd.ntmps59
  go_wp2
  go_loopw [5] (fun i wr => ∃ (k : Nat), k ≤ l.length ∧ i = .int .i64 k ∧ Below w.heap.size w wr) (fun i _ => l.length - (intOf i).toNat)
  case atStart => exact ⟨0, Nat.zero_le _, rfl, Below.refl _ _⟩
  case round =>
    obtain ⟨k, hk, rfl, hbl⟩ := hrel
    by_cases hlt : k < l.length
    · obtain ⟨ad, rfl, _, hb, hat⟩ := (h.below (hbl.mono hB)).2 (by omega)
      obtain ⟨v0, v1, v2, ⟨c0, c1, c2⟩, hv⟩ := hat k hlt
      obtain ⟨ad', rfl, _, hb', hat'⟩ := (h'.below (hbl.mono hB')).2 (by omega)
      obtain ⟨u0, u1, u2, ⟨d0, d1, d2⟩, hu⟩ := hat' k hlt
      have hsz1 : unSz l[k] ≤ 1048576 := by have := sum_get unSz hlt; unfold unsSz at hl; omega
      have hc := eqUnit_c l[k] v0 v1 v2 u0 u1 u2 wr.drew L B L' B' (UnV.keep (w := wr) (w' := wr.drew) hv (fun _ _ _ => rfl)) (UnV.keep (w := wr) (w' := wr.drew) hu (fun _ _ _ => rfl)) (Nat.le_trans hB hbl.size) (Nat.le_trans hB' hbl.size) hsz1
      have Hc := Lib.hid hc
      clear hc hat hat'
      go_wp2
      go_still_tail 8, (by kernel_rfl)
      change wpList _ _ _ _ _ wr.drew
      go_wp2_with fail
      refine Hc.out.mono ?_
      rintro e w1 ⟨rfl, hb1⟩
      go_wp2
      go_roundw
      case rel => exact ⟨k + 1, by omega, by go_num, hbl.drew.trans (hb1.mono hbl.size)⟩
      case measure => simp [intOf]; omega
    · go_wp2
      go_ret
      exact ⟨rfl, hbl⟩

set_option maxHeartbeats 1000000 in
theorem eqCode_c (l : List Un) (A D : Option Addr) (c d L B L' B' : Nat) (w : World) (hB : B ≤ w.heap.size) (hB' : B' ≤ w.heap.size) (hl : unsSz l ≤ 1048576) (h : UnL w L B A l) (h' : UnL w L' B' D l) :
    Calls Tryd.prog 30 #[.agg #[.slice A l.length c], .agg #[.slice D l.length d]] w fun e w' => e = .returned (.bool true) ∧ Below w.heap.size w w' := by
  have hb0 : Below w.heap.size w ((w.alloc (.cells #[.slice A l.length c] 56)).alloc (.cells #[.slice D l.length d] 56)) :=
    ((Below.refl _ _).alloc (Nat.le_refl _) _).alloc (by simp) _
  have hS0 := h.below (hb0.mono hB)
  have hS1 := h'.below (hb0.mono hB')
  go_enter Tryd.func30, Tryd.ntmps30
  go_wp2_with fail
  refine (eqUnitS_c l A D c d L B L' B' _ (by simp; omega) (by simp; omega) hl hS0 hS1).mono ?_
  rintro e w2 ⟨rfl, hb2⟩
  go_wp2
  go_ret
  exact ⟨rfl, hb0.trans (hb2.mono hb0.size)⟩
end Cod
end Go.Proofs.YtebgigiakfjocaaDoor
