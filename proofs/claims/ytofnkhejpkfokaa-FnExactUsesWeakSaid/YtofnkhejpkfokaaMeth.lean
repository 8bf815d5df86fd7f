/-
  Whom the methods' table names for the program's statements.
-/
import Derived.Test.YtofnkhejpkfokaaAsks
namespace Go.Proofs.Ytofnkhejpkfokaa
open Go.RowKit
set_option linter.unusedVariables false

section
variable (nm e0 e1 e2 e3 f0 f1 f2 f3 b1 b2 : Value)
theorem m_asks0 : ∀ (n : Nat) (w : World), (method (n + 1) 115 (.agg #[e0, e1, e2, e3, nm]) "loop.example/g00547/impl.asks").run Try.prog w = .ok (151, .agg #[e0, e1, e2, e3]) w := fun n w => by kernel_rfl
theorem m_blocks0 : ∀ (n : Nat) (w : World), (method (n + 1) 115 (.agg #[e0, e1, e2, e3, nm]) "loop.example/g00547/impl.blocks").run Try.prog w = .ok (152, .agg #[e0, e1, e2, e3]) w := fun n w => by kernel_rfl
theorem m_asks1 : ∀ (n : Nat) (w : World), (method (n + 1) 118 (.agg #[e0, e1, e2, e3, nm]) "loop.example/g00547/impl.asks").run Try.prog w = .ok (151, .agg #[e0, e1, e2, e3]) w := fun n w => by kernel_rfl
theorem m_blocks1 : ∀ (n : Nat) (w : World), (method (n + 1) 118 (.agg #[e0, e1, e2, e3, nm]) "loop.example/g00547/impl.blocks").run Try.prog w = .ok (152, .agg #[e0, e1, e2, e3]) w := fun n w => by kernel_rfl
theorem m_asks2 : ∀ (n : Nat) (w : World), (method (n + 1) 137 (.agg #[e0, e1, e2, e3, nm, f0, f1, f2, f3]) "loop.example/g00547/impl.asks").run Try.prog w = .ok (153, .agg #[e0, e1, e2, e3, nm, f0, f1, f2, f3]) w := fun n w => by kernel_rfl
theorem m_blocks2 : ∀ (n : Nat) (w : World), (method (n + 1) 137 (.agg #[e0, e1, e2, e3, nm, f0, f1, f2, f3]) "loop.example/g00547/impl.blocks").run Try.prog w = .ok (152, .agg #[e0, e1, e2, e3]) w := fun n w => by kernel_rfl
theorem m_asks3 : ∀ (n : Nat) (w : World), (method (n + 1) 139 (.agg #[e0, e1, e2, e3]) "loop.example/g00547/impl.asks").run Try.prog w = .ok (151, .agg #[e0, e1, e2, e3]) w := fun n w => by kernel_rfl
theorem m_blocks3 : ∀ (n : Nat) (w : World), (method (n + 1) 139 (.agg #[e0, e1, e2, e3]) "loop.example/g00547/impl.blocks").run Try.prog w = .ok (152, .agg #[e0, e1, e2, e3]) w := fun n w => by kernel_rfl
theorem m_asks4 : ∀ (n : Nat) (w : World), (method (n + 1) 140 (.agg #[e0, e1, e2, e3]) "loop.example/g00547/impl.asks").run Try.prog w = .ok (151, .agg #[e0, e1, e2, e3]) w := fun n w => by kernel_rfl
theorem m_blocks4 : ∀ (n : Nat) (w : World), (method (n + 1) 140 (.agg #[e0, e1, e2, e3]) "loop.example/g00547/impl.blocks").run Try.prog w = .ok (152, .agg #[e0, e1, e2, e3]) w := fun n w => by kernel_rfl
theorem m_asks5 : ∀ (n : Nat) (w : World), (method (n + 1) 142 (.agg #[e0, e1, e2, e3, b1, b2]) "loop.example/g00547/impl.asks").run Try.prog w = .ok (151, .agg #[e0, e1, e2, e3]) w := fun n w => by kernel_rfl
theorem m_blocks5 : ∀ (n : Nat) (w : World), (method (n + 1) 142 (.agg #[e0, e1, e2, e3, b1, b2]) "loop.example/g00547/impl.blocks").run Try.prog w = .ok (154, .agg #[e0, e1, e2, e3, b1, b2]) w := fun n w => by kernel_rfl
theorem m_asks6 : ∀ (n : Nat) (w : World), (method (n + 1) 144 (.agg #[e0, e1, e2, e3, b1]) "loop.example/g00547/impl.asks").run Try.prog w = .ok (151, .agg #[e0, e1, e2, e3]) w := fun n w => by kernel_rfl
theorem m_blocks6 : ∀ (n : Nat) (w : World), (method (n + 1) 144 (.agg #[e0, e1, e2, e3, b1]) "loop.example/g00547/impl.blocks").run Try.prog w = .ok (155, .agg #[e0, e1, e2, e3, b1]) w := fun n w => by kernel_rfl
theorem m_asks7 : ∀ (n : Nat) (w : World), (method (n + 1) 145 (.agg #[e0, e1, e2, e3]) "loop.example/g00547/impl.asks").run Try.prog w = .ok (151, .agg #[e0, e1, e2, e3]) w := fun n w => by kernel_rfl
theorem m_blocks7 : ∀ (n : Nat) (w : World), (method (n + 1) 145 (.agg #[e0, e1, e2, e3]) "loop.example/g00547/impl.blocks").run Try.prog w = .ok (152, .agg #[e0, e1, e2, e3]) w := fun n w => by kernel_rfl
end
end Go.Proofs.Ytofnkhejpkfokaa
