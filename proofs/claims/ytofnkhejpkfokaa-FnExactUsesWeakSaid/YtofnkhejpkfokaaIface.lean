/-
  The program's statements as interface values: what statementOf makes; whom the methods' table names.
-/
import Derived.Test.YtofnkhejpkfokaaImplExs
namespace Go.Proofs.Ytofnkhejpkfokaa
open Go.RowKit
set_option linter.unusedVariables false

/-- a statement's interface value by its kind -/
def ifVal (k : Int) (nm e0 e1 e2 e3 f0 f1 f2 f3 b1 b2 : Value) : Value :=
  if k = 0 then .iface 115 (.agg #[e0, e1, e2, e3, nm])
  else if k = 1 then .iface 118 (.agg #[e0, e1, e2, e3, nm])
  else if k = 2 then .iface 137 (.agg #[e0, e1, e2, e3, nm, f0, f1, f2, f3])
  else if k = 3 then .iface 139 (.agg #[e0, e1, e2, e3])
  else if k = 4 then .iface 140 (.agg #[e0, e1, e2, e3])
  else if k = 5 then .iface 142 (.agg #[e0, e1, e2, e3, b1, b2])
  else if k = 6 then .iface 144 (.agg #[e0, e1, e2, e3, b1])
  else .iface 145 (.agg #[e0, e1, e2, e3])

section
variable (nm e0 e1 e2 e3 f0 f1 f2 f3 b1 b2 : Value)
theorem ifVal0 : ifVal 0 nm e0 e1 e2 e3 f0 f1 f2 f3 b1 b2 = .iface 115 (.agg #[e0, e1, e2, e3, nm]) := rfl
theorem ifVal1 : ifVal 1 nm e0 e1 e2 e3 f0 f1 f2 f3 b1 b2 = .iface 118 (.agg #[e0, e1, e2, e3, nm]) := rfl
theorem ifVal2 : ifVal 2 nm e0 e1 e2 e3 f0 f1 f2 f3 b1 b2 = .iface 137 (.agg #[e0, e1, e2, e3, nm, f0, f1, f2, f3]) := rfl
theorem ifVal3 : ifVal 3 nm e0 e1 e2 e3 f0 f1 f2 f3 b1 b2 = .iface 139 (.agg #[e0, e1, e2, e3]) := rfl
theorem ifVal4 : ifVal 4 nm e0 e1 e2 e3 f0 f1 f2 f3 b1 b2 = .iface 140 (.agg #[e0, e1, e2, e3]) := rfl
theorem ifVal5 : ifVal 5 nm e0 e1 e2 e3 f0 f1 f2 f3 b1 b2 = .iface 142 (.agg #[e0, e1, e2, e3, b1, b2]) := rfl
theorem ifVal6 : ifVal 6 nm e0 e1 e2 e3 f0 f1 f2 f3 b1 b2 = .iface 144 (.agg #[e0, e1, e2, e3, b1]) := rfl
theorem ifVal7 : ifVal 7 nm e0 e1 e2 e3 f0 f1 f2 f3 b1 b2 = .iface 145 (.agg #[e0, e1, e2, e3]) := rfl
end
set_option maxHeartbeats 4000000 in
theorem statementOf_c (k : Int) (A A1 A2 xA xA' yA yA' : Option Addr) (a c a1 c1 a2 c2 xa xc xa' xc' ya yc ya' yc' : Nat) (xk xn yk yn : Int) (w : World) (h0 : 0 ≤ k) (h7 : k ≤ 7) :
    Calls Try.prog 97 #[.agg #[.int .i64 k, .slice A a c, .int .i64 xk, .int .i64 xn, .slice xA xa xc, .slice xA' xa' xc', .int .i64 yk, .int .i64 yn, .slice yA ya yc, .slice yA' ya' yc', .slice A1 a1 c1, .slice A2 a2 c2]] w fun r w' =>
      r = .returned (ifVal k (.slice A a c) (.int .i64 xk) (.int .i64 xn) (.slice xA xa xc) (.slice xA' xa' xc') (.int .i64 yk) (.int .i64 yn) (.slice yA ya yc) (.slice yA' ya' yc') (.slice A1 a1 c1) (.slice A2 a2 c2)) ∧ Below w.heap.size w w' := by
  have hks : k = 0 ∨ k = 1 ∨ k = 2 ∨ k = 3 ∨ k = 4 ∨ k = 5 ∨ k = 6 ∨ k = 7 := by omega
  clear h0 h7
  rcases hks with rfl | rfl | rfl | rfl | rfl | rfl | rfl | rfl
  all_goals
    go_enter Try.func97, Try.ntmps97
    go_wp2
    go_ret
    exact ⟨rfl, ((Below.refl _ _).alloc (Nat.le_refl _) _).alloc (by simp) _⟩
end Go.Proofs.Ytofnkhejpkfokaa
