/-
  The program's room: a slot's head; values that are right.
-/
import Derived.Test.YtebgigiakfjocaaDoorRegion
import Derived.Test.YtebgigiakfjocaaDoorArnVal
namespace Go.Proofs.YtebgigiakfjocaaDoor
open Go.RowKit
set_option linter.unusedVariables false
set_option linter.unusedSimpArgs false

set_option maxRecDepth 100000 in
set_option maxHeartbeats 1000000 in
theorem headHolds_c (lv : Bool) (g c gen : Int) (w : World) :
    Calls Tryd.prog 154 #[.agg #[.bool lv, .int .i64 g, .int .i64 c], .int .i64 gen] w fun e w' => e = .returned (.bool (lv && g == gen)) ∧ Below w.heap.size w w' := by
  cases lv
  · go_enter Tryd.func154, Tryd.ntmps154
    go_wp2
    go_ret
    exact ⟨rfl, blw1 _ _⟩
  · go_enter Tryd.func154, Tryd.ntmps154
    go_wp2
    go_ret
    exact ⟨rfl, blw1 _ _⟩

set_option maxRecDepth 100000 in
set_option maxHeartbeats 1000000 in
theorem headHeld_c (lv : Bool) (g c gen : Int) (w : World) :
    Calls Tryd.prog 141 #[.agg #[.bool lv, .int .i64 g, .int .i64 c], .int .i64 gen] w fun e w' => e = .returned (.bool (decide (0 ≤ gen) && decide (gen ≤ g))) ∧ Below w.heap.size w w' := by
  by_cases h : 0 ≤ gen
  · rw [decide_eq_true h, Bool.true_and]
    go_enter Tryd.func141, Tryd.ntmps141
    go_wp2
    go_ret
    exact ⟨rfl, blw1 _ _⟩
  · have h' := decide_eq_false h
    rw [h', Bool.false_and]
    go_enter Tryd.func141, Tryd.ntmps141
    go_wp2
    go_ret
    exact ⟨rfl, blw1 _ _⟩

def bndH (lv : Bool) (g c : Int) : Bool := if lv then decide (1 ≤ g) && decide (g ≤ 1000000) && decide (1 ≤ c) && decide (c ≤ 1000000) else decide (0 ≤ g) && decide (g ≤ 1000000) && c == 0

set_option maxRecDepth 100000 in
set_option maxHeartbeats 4000000 in
theorem headBounded_c (lv : Bool) (g c : Int) (w : World) :
    Calls Tryd.prog 100 #[.agg #[.bool lv, .int .i64 g, .int .i64 c]] w fun e w' => e = .returned (.bool (bndH lv g c)) ∧ Below w.heap.size w w' := by
  cases lv
  · by_cases h1 : 0 ≤ g
    · by_cases h2 : g ≤ 1000000
      · have e : bndH false g c = (c == 0) := by simp [bndH, h1, h2]
        rw [e]
        clear e
        go_enter Tryd.func100, Tryd.ntmps100
        go_wp2
        go_ret
        exact ⟨rfl, blw1 _ _⟩
      · have e : bndH false g c = false := by simp [bndH, h1, h2]
        have h2' := decide_eq_false h2
        rw [e]
        clear e
        go_enter Tryd.func100, Tryd.ntmps100
        go_wp2
        go_ret
        exact ⟨rfl, blw1 _ _⟩
    · have e : bndH false g c = false := by simp [bndH, h1]
      have h1' := decide_eq_false h1
      rw [e]
      clear e
      go_enter Tryd.func100, Tryd.ntmps100
      go_wp2
      go_ret
      exact ⟨rfl, blw1 _ _⟩
  · by_cases h1 : 1 ≤ g
    · by_cases h2 : g ≤ 1000000
      · by_cases h3 : 1 ≤ c
        · have e : bndH true g c = decide (c ≤ 1000000) := by simp [bndH, h1, h2, h3]
          rw [e]
          clear e
          go_enter Tryd.func100, Tryd.ntmps100
          go_wp2
          go_ret
          exact ⟨rfl, blw1 _ _⟩
        · have e : bndH true g c = false := by simp [bndH, h1, h2, h3]
          have h3' := decide_eq_false h3
          rw [e]
          clear e
          go_enter Tryd.func100, Tryd.ntmps100
          go_wp2
          go_ret
          exact ⟨rfl, blw1 _ _⟩
      · have e : bndH true g c = false := by simp [bndH, h1, h2]
        have h2' := decide_eq_false h2
        rw [e]
        clear e
        go_enter Tryd.func100, Tryd.ntmps100
        go_wp2
        go_ret
        exact ⟨rfl, blw1 _ _⟩
    · have e : bndH true g c = false := by simp [bndH, h1]
      have h1' := decide_eq_false h1
      rw [e]
      clear e
      go_enter Tryd.func100, Tryd.ntmps100
      go_wp2
      go_ret
      exact ⟨rfl, blw1 _ _⟩

/-- a room, as it is handed about -/
def roomV (A0 : Option Addr) (n c0 : Nat) (v1 v2 v3 : Value) : Value := .agg #[.slice A0 n c0, v1, v2, v3]

set_option maxRecDepth 100000 in
set_option maxHeartbeats 1000000 in
theorem roomHas_c (A0 : Option Addr) (n c0 : Nat) (v1 v2 v3 : Value) (h1 : v1.cells = #[v1]) (h2 : v2.cells = #[v2]) (h3 : v3.cells = #[v3]) (x : Int) (w : World) (hn : n ≤ maxLen) :
    Calls Tryd.prog 140 #[.agg #[.slice A0 n c0, v1, v2, v3], .int .i64 x] w fun e w' => e = .returned (.bool (decide (0 ≤ x) && decide (x < n))) ∧ Below w.heap.size w w' := by
  unfold maxLen at hn
  by_cases h : 0 ≤ x
  · rw [decide_eq_true h, Bool.true_and]
    go_enter Tryd.func140, Tryd.ntmps140
    go_wp2
    go_ret
    exact ⟨rfl, blw1 _ _⟩
  · have h' := decide_eq_false h
    rw [h', Bool.false_and]
    go_enter Tryd.func140, Tryd.ntmps140
    go_wp2
    go_ret
    exact ⟨rfl, blw1 _ _⟩
end Go.Proofs.YtebgigiakfjocaaDoor
