/-
  Codes: the laws' own size.
-/
import Derived.Test.YtebgigiakfjocaaDoorUnitSz
namespace Go.Proofs.YtebgigiakfjocaaDoor
open Go.RowKit
set_option linter.unusedVariables false
namespace Cod

set_option maxHeartbeats 1000000 in
theorem szUnitS_c (l : List Un) (A : Option Addr) (c L B : Nat) (left : Int) (w : World) (hB : B ≤ w.heap.size) (h0 : 0 ≤ left) (h1 : left ≤ 1048576) (h : UnL w L B A l) :
    Calls Tryd.prog 54 #[.slice A l.length c, .int .i64 left] w (SzA (unsSz l) left w) := by
  have hn := h.1
  unfold maxLen at hn
  by_cases hlt : left - l.length < 0
  · go_enter Tryd.func54, Tryd.ntmps54
    go_wp2
    go_ret
    exact ⟨-1, rfl, by omega, by omega, by omega, Below.refl _ _⟩
  have hge : 0 ≤ left - l.length := by omega
  clear hlt
  have htot := sumIn_all unSz l
  have Htot := Lib.hid htot
  clear htot
  go_enter Tryd.func54, Tryd.ntmps54
  go_wp2
  go_loopw [1, 5] (fun s i wr => ∃ (k : Nat) (r : Int), k ≤ l.length ∧ i = .int .i64 k ∧ s = .int .i64 r ∧ 0 ≤ r ∧ (l.length : Int) + sumIn unSz l k + r ≤ left ∧ Below w.heap.size w wr) (fun _ i _ => l.length - (intOf i).toNat)
  case atStart => exact ⟨0, left - l.length, Nat.zero_le _, rfl, rfl, by omega, by simp [sumIn]; omega, Below.refl _ _⟩
  case round =>
    obtain ⟨k, r, hk, rfl, rfl, hr0, hr1, hbl⟩ := hrel
    by_cases hlt : k < l.length
    · obtain ⟨ad, rfl, _, hb, hat⟩ := (h.below (hbl.mono hB)).2 (by omega)
      obtain ⟨v0, v1, v2, ⟨c0, c1, c2⟩, hv⟩ := hat k hlt
      have hst := sumIn_step unSz hlt
      have hr2 : r ≤ 1048576 := by omega
      have hc := szUnit_c l[k] v0 v1 v2 r wr L B hv (Nat.le_trans hB hbl.size) hr0 hr2
      have Hc := Lib.hid hc
      clear hc hat
      go_wp2_with fail
      refine Hc.out.mono ?_
      rintro e w1 ⟨r1, rfl, q1, q2, q3, hb1⟩
      have hbn := hbl.trans (hb1.mono hbl.size)
      by_cases hr : r1 < 0
      · clear hst q3
        go_wp2
        go_ret
        exact ⟨-1, rfl, by omega, by omega, by omega, hbn⟩
      · have hr' : 0 ≤ r1 := by omega
        have q4 := q3 hr'
        have hst' : (sumIn unSz l (k + 1) : Int) ≤ sumIn unSz l k + unSz l[k] := by omega
        clear hst q3 hr
        go_wp2
        go_roundw
        case rel => exact ⟨k + 1, r1, by omega, by go_num, rfl, by omega, by omega, hbn⟩
        case measure => simp [intOf]; omega
    · go_wp2
      go_ret
      have : k = l.length := by omega
      subst this
      exact ⟨r, rfl, by omega, by omega, fun _ => by have := Htot.out; unfold unsSz; omega, hbl⟩

set_option maxHeartbeats 1000000 in
theorem szCode_c (l : List Un) (A : Option Addr) (c L B : Nat) (left : Int) (w : World) (hB : B ≤ w.heap.size) (h0 : 0 ≤ left) (h1 : left ≤ 1048576) (h : UnL w L B A l) :
    Calls Tryd.prog 26 #[.agg #[.slice A l.length c], .int .i64 left] w (SzA (unsSz l) left w) := by
  have hbl : Below w.heap.size w (w.alloc (.cells #[.slice A l.length c] 51)) := (Below.refl _ _).alloc (Nat.le_refl _) _
  have hc := szUnitS_c l A c L B left (w.alloc (.cells #[.slice A l.length c] 51)) (by simp; omega) h0 h1 (h.below (hbl.mono hB))
  have Hc := Lib.hid hc
  clear hc
  go_enter Tryd.func26, Tryd.ntmps26
  go_wp2_with fail
  refine Hc.out.mono ?_
  rintro e w1 ⟨r1, rfl, q1, q2, q3, hb1⟩
  have hbn := hbl.trans (hb1.mono hbl.size)
  by_cases hr : r1 < 0
  · clear q3
    go_wp2
    go_ret
    exact ⟨-1, rfl, by omega, by omega, by omega, hbn⟩
  · have hr' : 0 ≤ r1 := by omega
    have q4 := q3 hr'
    clear q3 hr
    go_wp2
    go_ret
    exact ⟨r1, rfl, by omega, by omega, fun _ => by omega, hbn⟩
end Cod
end Go.Proofs.YtebgigiakfjocaaDoor
