/-
  The methods asks and blocks of the program's statements.
-/
import Derived.Test.YtofnkhejpkfokaaIface
namespace Go.Proofs.Ytofnkhejpkfokaa
open Go.RowKit
set_option linter.unusedVariables false

set_option maxHeartbeats 1000000 in
theorem havingAsks_c (xA xA' : Option Addr) (xa xc xa' xc' : Nat) (xk xn : Int) (w : World) :
    Calls Try.prog 151 #[.agg #[.int .i64 xk, .int .i64 xn, .slice xA xa xc, .slice xA' xa' xc']] w fun r w' => ∃ g, r = .returned (.slice (some ⟨g, 0, none⟩) 1 1) ∧ w.heap.size ≤ g ∧ Blk w' g 78 #[.int .i64 xk, .int .i64 xn, .slice xA xa xc, .slice xA' xa' xc'] ∧ Below w.heap.size w w' := by
  go_enter Try.func151, Try.ntmps151
  go_wp2
  go_ret
  refine ⟨_, rfl, by omega, ?_, ((Below.refl _ _).alloc (Nat.le_refl _) _).alloc (by simp) _⟩
  have := Blk.new (w.alloc (.cells #[.int .i64 xk, .int .i64 xn, .slice xA xa xc, .slice xA' xa' xc'] 113)) 78 #[.int .i64 xk, .int .i64 xn, .slice xA xa xc, .slice xA' xa' xc']
  simpa using this

set_option maxHeartbeats 1000000 in
theorem puttingAsks_c (xA xA' : Option Addr) (xa xc xa' xc' : Nat) (xk xn : Int) (yA yA' : Option Addr) (ya yc ya' yc' : Nat) (yk yn : Int) (A : Option Addr) (a c : Nat) (w : World) :
    Calls Try.prog 153 #[.agg #[.int .i64 xk, .int .i64 xn, .slice xA xa xc, .slice xA' xa' xc', .slice A a c, .int .i64 yk, .int .i64 yn, .slice yA ya yc, .slice yA' ya' yc']] w fun r w' => ∃ g, r = .returned (.slice (some ⟨g, 0, none⟩) 2 2) ∧ w.heap.size ≤ g ∧ Blk w' g 78 #[.int .i64 xk, .int .i64 xn, .slice xA xa xc, .slice xA' xa' xc', .int .i64 yk, .int .i64 yn, .slice yA ya yc, .slice yA' ya' yc'] ∧ Below w.heap.size w w' := by
  go_enter Try.func153, Try.ntmps153
  go_wp2
  go_ret
  refine ⟨_, rfl, by omega, ?_, ((Below.refl _ _).alloc (Nat.le_refl _) _).alloc (by simp) _⟩
  have := Blk.new (w.alloc (.cells #[.int .i64 xk, .int .i64 xn, .slice xA xa xc, .slice xA' xa' xc', .slice A a c, .int .i64 yk, .int .i64 yn, .slice yA ya yc, .slice yA' ya' yc'] 137)) 78 #[.int .i64 xk, .int .i64 xn, .slice xA xa xc, .slice xA' xa' xc', .int .i64 yk, .int .i64 yn, .slice yA ya yc, .slice yA' ya' yc']
  simpa using this

set_option maxHeartbeats 1000000 in
theorem havingBlocks_c (xA xA' : Option Addr) (xa xc xa' xc' : Nat) (xk xn : Int) (w : World) :
    Calls Try.prog 152 #[.agg #[.int .i64 xk, .int .i64 xn, .slice xA xa xc, .slice xA' xa' xc']] w fun r w' => r = .returned (.slice none 0 0) ∧ Below w.heap.size w w' := by
  go_enter Try.func152, Try.ntmps152
  go_wp2
  go_ret
  exact ⟨rfl, (Below.refl _ _).alloc (Nat.le_refl _) _⟩

set_option maxHeartbeats 1000000 in
theorem loopingBlocks_c (xA xA' : Option Addr) (xa xc xa' xc' : Nat) (xk xn : Int) (A1 : Option Addr) (a1 c1 : Nat) (w : World) :
    Calls Try.prog 155 #[.agg #[.int .i64 xk, .int .i64 xn, .slice xA xa xc, .slice xA' xa' xc', .slice A1 a1 c1]] w fun r w' => ∃ g, r = .returned (.slice (some ⟨g, 0, none⟩) 1 1) ∧ w.heap.size ≤ g ∧ Blk w' g 47 #[.slice A1 a1 c1] ∧ Below w.heap.size w w' := by
  go_enter Try.func155, Try.ntmps155
  go_wp2
  go_ret
  refine ⟨_, rfl, by omega, ?_, ((Below.refl _ _).alloc (Nat.le_refl _) _).alloc (by simp) _⟩
  have := Blk.new (w.alloc (.cells #[.int .i64 xk, .int .i64 xn, .slice xA xa xc, .slice xA' xa' xc', .slice A1 a1 c1] 144)) 47 #[.slice A1 a1 c1]
  simpa using this

set_option maxHeartbeats 1000000 in
theorem choosingBlocks_c (xA xA' : Option Addr) (xa xc xa' xc' : Nat) (xk xn : Int) (A1 A2 : Option Addr) (a1 c1 a2 c2 : Nat) (w : World) :
    Calls Try.prog 154 #[.agg #[.int .i64 xk, .int .i64 xn, .slice xA xa xc, .slice xA' xa' xc', .slice A1 a1 c1, .slice A2 a2 c2]] w fun r w' => ∃ g, r = .returned (.slice (some ⟨g, 0, none⟩) 2 2) ∧ w.heap.size ≤ g ∧ Blk w' g 47 #[.slice A1 a1 c1, .slice A2 a2 c2] ∧ Below w.heap.size w w' := by
  go_enter Try.func154, Try.ntmps154
  go_wp2
  go_ret
  refine ⟨_, rfl, by omega, ?_, ((Below.refl _ _).alloc (Nat.le_refl _) _).alloc (by simp) _⟩
  have := Blk.new (w.alloc (.cells #[.int .i64 xk, .int .i64 xn, .slice xA xa xc, .slice xA' xa' xc', .slice A1 a1 c1, .slice A2 a2 c2] 142)) 47 #[.slice A1 a1 c1, .slice A2 a2 c2]
  simpa using this

end Go.Proofs.Ytofnkhejpkfokaa
