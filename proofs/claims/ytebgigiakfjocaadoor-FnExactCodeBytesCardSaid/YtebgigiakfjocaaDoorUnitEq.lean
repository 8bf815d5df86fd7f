/-
  Units: the laws' own likeness of two that read the same.
-/
import Derived.Test.YtebgigiakfjocaaDoorUnitTo
namespace Go.Proofs.YtebgigiakfjocaaDoor
open Go.RowKit
set_option linter.unusedVariables false
namespace Cod

theorem eqIns_c (f : In) (v0 v1 v2 v3 v4 u0 u1 u2 u3 u4 : Value) (w : World) (L B L' B' : Nat) (hv : InV w L B v0 v1 v2 v3 v4 f) (hu : InV w L' B' u0 u1 u2 u3 u4 f) (hB : B ≤ w.heap.size) (hB' : B' ≤ w.heap.size) (hsz : inSz f ≤ 1048576) :
    Calls Tryd.prog 132 #[.agg #[v0, v1, v2, v3, v4], .agg #[u0, u1, u2, u3, u4]] w fun r w' => r = .returned (.bool true) ∧ Below w.heap.size w w' := by
  obtain ⟨rfl, rfl, rfl, rfl, A, c, rfl, hR, hm⟩ := hv
  obtain ⟨rfl, rfl, rfl, rfl, D, d, rfl, hS, _⟩ := hu
  obtain ⟨op, a, b, c2, l⟩ := f
  unfold inSz at hsz
  dsimp only at *
  have hb0 : Below w.heap.size w ((w.alloc (.cells #[.int .i64 op, .int .i64 a, .int .i64 b, .int .i64 c2, .slice A l.length c] 104)).alloc (.cells #[.int .i64 op, .int .i64 a, .int .i64 b, .int .i64 c2, .slice D l.length d] 104)) :=
    ((Below.refl _ _).alloc (Nat.le_refl _) _).alloc (by simp) _
  have hR0 := (hR.keep (fun p _ hp => (hb0.mono hB).cell hp)).1
  have hS0 := (hS.keep (fun p _ hp => (hb0.mono hB').cell hp)).1
  go_enter Tryd.func132, Tryd.ntmps132
  go_wp2_with fail
  refine (eqByteS_c l A D c d B B' _ (by omega) hR0 hS0).mono ?_
  rintro e w1 ⟨rfl, m, rfl⟩
  go_wp2
  go_ret
  exact ⟨rfl, blw_drewN hb0 m⟩

set_option maxRecDepth 100000 in
set_option maxHeartbeats 1000000 in
theorem eqInsS_c (l : List In) (A A' : Option Addr) (c c' L B L' B' : Nat) (w : World) (hB : B ≤ w.heap.size) (hB' : B' ≤ w.heap.size) (hl : insSz l ≤ 1048576) (h : InL w L B A l) (h' : InL w L' B' A' l) :
    Calls Tryd.prog 111 #[.slice A l.length c, .slice A' l.length c'] w fun r w' => r = .returned (.bool true) ∧ Below w.heap.size w w' := by
  have hlen : l.length ≤ 1048576 := by unfold insSz at hl; omega
  go_enter Tryd.func111, Tryd.ntmps111
  go_wp2
  go_loopw [5] (fun i wr => ∃ (k : Nat), k ≤ l.length ∧ i = .int .i64 k ∧ Below w.heap.size w wr) (fun i _ => l.length - (intOf i).toNat)
  case atStart => exact ⟨0, Nat.zero_le _, rfl, Below.refl _ _⟩
  case round =>
    obtain ⟨k, hk, rfl, hbl⟩ := hrel
    by_cases hlt : k < l.length
    · obtain ⟨ad, rfl, _, hb, hat⟩ := (h.below (hbl.mono hB)).2 (by omega)
      obtain ⟨v0, v1, v2, v3, v4, ⟨c0, c1, c2, c3, c4⟩, hv⟩ := hat k hlt
      obtain ⟨ad', rfl, _, hb', hat'⟩ := (h'.below (hbl.mono hB')).2 (by omega)
      obtain ⟨u0, u1, u2, u3, u4, ⟨d0, d1, d2, d3, d4⟩, hu⟩ := hat' k hlt
      have hsz1 : inSz l[k] ≤ 1048576 := by have := sum_get inSz hlt; unfold insSz at hl; omega
      have hc := eqIns_c l[k] v0 v1 v2 v3 v4 u0 u1 u2 u3 u4 wr.drew L B L' B' (InV.keep (w := wr) (w' := wr.drew) hv (fun _ _ _ => rfl)) (InV.keep (w := wr) (w' := wr.drew) hu (fun _ _ _ => rfl)) (Nat.le_trans hB hbl.size) (Nat.le_trans hB' hbl.size) hsz1
      have Hc := Lib.hid hc
      clear hc hat hat'
      go_wp2
      go_still_tail 8, (by kernel_rfl)
      change wpList _ _ _ _ _ wr.drew
      go_wp2_with fail
      refine Hc.out.mono ?_
      rintro e w1 ⟨rfl, hb1⟩
      go_wp2
      go_roundw
      case rel => exact ⟨k + 1, by omega, by go_num, hbl.drew.trans (hb1.mono hbl.size)⟩
      case measure => simp [intOf]; omega
    · go_wp2
      go_ret
      exact ⟨rfl, hbl⟩

theorem eqUnit_c (f : Un) (v0 v1 v2 u0 u1 u2 : Value) (w : World) (L B L' B' : Nat) (hv : UnV w L B v0 v1 v2 f) (hu : UnV w L' B' u0 u1 u2 f) (hB : B ≤ w.heap.size) (hB' : B' ≤ w.heap.size) (hsz : unSz f ≤ 1048576) :
    Calls Tryd.prog 89 #[.agg #[v0, v1, v2], .agg #[u0, u1, u2]] w fun r w' => r = .returned (.bool true) ∧ Below w.heap.size w w' := by
  obtain ⟨rfl, rfl, A, c, rfl, hx⟩ := hv
  obtain ⟨rfl, rfl, D, d, rfl, hy⟩ := hu
  obtain ⟨pm, rg, l⟩ := f
  unfold unSz at hsz
  dsimp only at *
  have hb0 : Below w.heap.size w ((w.alloc (.cells #[.int .i64 pm, .int .i64 rg, .slice A l.length c] 102)).alloc (.cells #[.int .i64 pm, .int .i64 rg, .slice D l.length d] 102)) :=
    ((Below.refl _ _).alloc (Nat.le_refl _) _).alloc (by simp) _
  have hx0 := hx.below (hb0.mono hB)
  have hy0 := hy.below (hb0.mono hB')
  go_enter Tryd.func89, Tryd.ntmps89
  go_wp2_with fail
  refine (eqInsS_c l A D c d L B L' B' _ (by simp; omega) (by simp; omega) hsz hx0 hy0).mono ?_
  rintro e w2 ⟨rfl, hb2⟩
  go_wp2
  go_ret
  exact ⟨rfl, hb0.trans (hb2.mono hb0.size)⟩

end Cod
end Go.Proofs.YtebgigiakfjocaaDoor
