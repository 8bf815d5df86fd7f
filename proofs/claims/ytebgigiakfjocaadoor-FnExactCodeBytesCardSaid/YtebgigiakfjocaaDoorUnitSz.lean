/-
  Units: the laws' own size.
-/
import Derived.Test.YtebgigiakfjocaaDoorCode
namespace Go.Proofs.YtebgigiakfjocaaDoor
open Go.RowKit
set_option linter.unusedVariables false
namespace Cod

set_option maxHeartbeats 400000 in
theorem szBytes_c (A : Option Addr) (n c : Nat) (left : Int) (w : World) (hn : n ≤ 9223372036854775807) (h0 : 0 ≤ left) (h1 : left ≤ 1048576) :
    Calls Tryd.prog 51 #[.slice A n c, .int .i64 left] w fun e w' => e = .returned (.int .i64 (lft left n)) ∧ w = w' := by
  rcases lft_cases left n with ⟨hlt, he⟩ | ⟨hge, he⟩
  all_goals
    rw [he]
    clear he
    go_enter Tryd.func51, Tryd.ntmps51
    go_wp2
    go_ret
    exact ⟨rfl, rfl⟩
set_option maxHeartbeats 1000000 in
theorem szIns_c (f : In) (v0 v1 v2 v3 v4 : Value) (left : Int) (w : World) (L B : Nat) (hv : InV w L B v0 v1 v2 v3 v4 f) (h0 : 0 ≤ left) (h1 : left ≤ 1048576) :
    Calls Tryd.prog 129 #[.agg #[v0, v1, v2, v3, v4], .int .i64 left] w (SzA (inSz f) left w) := by
  obtain ⟨rfl, rfl, rfl, rfl, A, c, rfl, hR, hm⟩ := hv
  unfold maxLen at hm
  unfold inSz
  have hs := szBytes_c A f.name.length c left (w.alloc (.cells #[.int .i64 f.op, .int .i64 f.a, .int .i64 f.b, .int .i64 f.c, .slice A f.name.length c] 181)) hm h0 h1
  have hbl : Below w.heap.size w (w.alloc (.cells #[.int .i64 f.op, .int .i64 f.a, .int .i64 f.b, .int .i64 f.c, .slice A f.name.length c] 181)) := (Below.refl _ _).alloc (Nat.le_refl _) _
  rcases lft_cases left f.name.length with ⟨hlt, he⟩ | ⟨hge, he⟩
  · rw [he] at hs
    have Hs := Lib.hid hs
    clear he hs
    go_enter Tryd.func129, Tryd.ntmps129
    go_wp2_with fail
    refine Hs.out.mono ?_
    rintro e w' ⟨rfl, rfl⟩
    go_wp2
    go_ret
    exact ⟨-1, rfl, by omega, by omega, by omega, hbl⟩
  · rw [he] at hs
    have Hs := Lib.hid hs
    clear he hs
    go_enter Tryd.func129, Tryd.ntmps129
    go_wp2_with fail
    refine Hs.out.mono ?_
    rintro e w' ⟨rfl, rfl⟩
    go_wp2
    go_ret
    exact ⟨left - f.name.length, rfl, by omega, by omega, fun _ => by omega, hbl⟩

set_option maxHeartbeats 1000000 in
theorem szInsS_c (l : List In) (A : Option Addr) (c L B : Nat) (left : Int) (w : World) (hB : B ≤ w.heap.size) (h0 : 0 ≤ left) (h1 : left ≤ 1048576) (h : InL w L B A l) :
    Calls Tryd.prog 106 #[.slice A l.length c, .int .i64 left] w (SzA (insSz l) left w) := by
  have hn := h.1
  unfold maxLen at hn
  by_cases hlt : left - l.length < 0
  · go_enter Tryd.func106, Tryd.ntmps106
    go_wp2
    go_ret
    exact ⟨-1, rfl, by omega, by omega, by omega, Below.refl _ _⟩
  have hge : 0 ≤ left - l.length := by omega
  clear hlt
  have htot := sumIn_all inSz l
  have Htot := Lib.hid htot
  clear htot
  go_enter Tryd.func106, Tryd.ntmps106
  go_wp2
  go_loopw [1, 5] (fun s i wr => ∃ (k : Nat) (r : Int), k ≤ l.length ∧ i = .int .i64 k ∧ s = .int .i64 r ∧ 0 ≤ r ∧ (l.length : Int) + sumIn inSz l k + r ≤ left ∧ Below w.heap.size w wr) (fun _ i _ => l.length - (intOf i).toNat)
  case atStart => exact ⟨0, left - l.length, Nat.zero_le _, rfl, rfl, by omega, by simp [sumIn]; omega, Below.refl _ _⟩
  case round =>
    obtain ⟨k, r, hk, rfl, rfl, hr0, hr1, hbl⟩ := hrel
    by_cases hlt : k < l.length
    · obtain ⟨ad, rfl, _, hb, hat⟩ := (h.below (hbl.mono hB)).2 (by omega)
      obtain ⟨v0, v1, v2, v3, v4, ⟨c0, c1, c2, c3, c4⟩, hv⟩ := hat k hlt
      have hst := sumIn_step inSz hlt
      have hr2 : r ≤ 1048576 := by omega
      have hc := szIns_c l[k] v0 v1 v2 v3 v4 r wr L B hv hr0 hr2
      have Hc := Lib.hid hc
      clear hc hat
      go_wp2_with fail
      refine Hc.out.mono ?_
      rintro e w1 ⟨r1, rfl, q1, q2, q3, hb1⟩
      have hbn := hbl.trans (hb1.mono hbl.size)
      by_cases hr : r1 < 0
      · clear hst q3
        go_wp2
        go_ret
        exact ⟨-1, rfl, by omega, by omega, by omega, hbn⟩
      · have hr' : 0 ≤ r1 := by omega
        have q4 := q3 hr'
        have hst' : (sumIn inSz l (k + 1) : Int) ≤ sumIn inSz l k + inSz l[k] := by omega
        clear hst q3 hr
        go_wp2
        go_roundw
        case rel => exact ⟨k + 1, r1, by omega, by go_num, rfl, by omega, by omega, hbn⟩
        case measure => simp [intOf]; omega
    · go_wp2
      go_ret
      have : k = l.length := by omega
      subst this
      exact ⟨r, rfl, by omega, by omega, fun _ => by have := Htot.out; unfold insSz; omega, hbl⟩

set_option maxHeartbeats 1000000 in
theorem szUnit_c (s : Un) (v0 v1 v2 : Value) (left : Int) (w : World) (L B : Nat) (hv : UnV w L B v0 v1 v2 s) (hB : B ≤ w.heap.size) (h0 : 0 ≤ left) (h1 : left ≤ 1048576) :
    Calls Tryd.prog 85 #[.agg #[v0, v1, v2], .int .i64 left] w (SzA (unSz s) left w) := by
  obtain ⟨rfl, rfl, A, c, rfl, hx⟩ := hv
  unfold unSz
  have hbl : Below w.heap.size w (w.alloc (.cells #[.int .i64 s.params, .int .i64 s.regs, .slice A s.l.length c] 139)) := (Below.refl _ _).alloc (Nat.le_refl _) _
  have hc := szInsS_c s.l A c L B left (w.alloc (.cells #[.int .i64 s.params, .int .i64 s.regs, .slice A s.l.length c] 139)) (by simp; omega) h0 h1 (hx.below (hbl.mono hB))
  have Hc := Lib.hid hc
  clear hc
  go_enter Tryd.func85, Tryd.ntmps85
  go_wp2_with fail
  refine Hc.out.mono ?_
  rintro e w1 ⟨r1, rfl, q1, q2, q3, hb1⟩
  have hbn := hbl.trans (hb1.mono hbl.size)
  by_cases hr : r1 < 0
  · clear q3
    go_wp2
    go_ret
    exact ⟨-1, rfl, by omega, by omega, by omega, hbn⟩
  · have hr' : 0 ≤ r1 := by omega
    have q4 := q3 hr'
    clear q3 hr
    go_wp2
    go_ret
    exact ⟨r1, rfl, by omega, by omega, fun _ => by omega, hbn⟩

end Cod
end Go.Proofs.YtebgigiakfjocaaDoor
