/-
  Type assertions on statements: letting, setting.
-/
import Derived.Test.YtmejbmfopdfbjaaStParts
namespace Go.Proofs.Ytmejbmfopdfbjaa
open Go.RowKit
set_option linter.unusedVariables false

def notIf : TypeDesc → Bool
  | .interface _ => false
  | _ => true
theorem ta_yes {P : Program} {t xT : TypeId} (hn : (P.underlying t).map notIf = some true) (v : Value) (w : World) : (Instr.typeAssert (.iface t v) xT t true).run P w = .ok (.tuple #[v, .bool true]) w := by
  obtain ⟨u, hu, hn'⟩ := Option.map_eq_some_iff.1 hn
  cases u <;> first | (simp [notIf] at hn'; done) | simp [Instr.typeAssert, run_underlying hu, go_sem]
theorem ta_no {P : Program} {t a xT : TypeId} {z : Value} (hn : (P.underlying a).map notIf = some true) (hne : t ≠ a) (hz : (P.info? a).map (·.zero) = some (some z)) (v : Value) (w : World) : (Instr.typeAssert (.iface t v) xT a true).run P w = .ok (.tuple #[z, .bool false]) w := by
  obtain ⟨j, hj, hz'⟩ := Option.map_eq_some_iff.1 hz
  obtain ⟨u, hu, hn'⟩ := Option.map_eq_some_iff.1 hn
  cases u <;> first | (simp [notIf] at hn'; done) | simp [Instr.typeAssert, run_underlying hu, go_sem, hne, zeroValue, typeInfo, hj, hz', Result.andThen]
def zLet : Value := .agg #[.int .i64 0, .int .i64 0, .slice none 0 0, .slice none 0 0, .slice none 0 0]
theorem ta_let (v : Value) (w : World) : (Instr.typeAssert (.iface 136 v) 110 136 true).run Try.prog w = .ok (.tuple #[v, .bool true]) w :=
  ta_yes (by kernel_rfl) v w
theorem ta_let_no (t : TypeId) (ht : t ≠ 136) (v : Value) (w : World) : (Instr.typeAssert (.iface t v) 110 136 true).run Try.prog w = .ok (.tuple #[zLet, .bool false]) w :=
  ta_no (by kernel_rfl) ht (by kernel_rfl) v w
theorem ta_set (v : Value) (w : World) : (Instr.typeAssert (.iface 137 v) 110 137 true).run Try.prog w = .ok (.tuple #[v, .bool true]) w :=
  ta_yes (by kernel_rfl) v w
theorem ta_set_no (t : TypeId) (ht : t ≠ 137) (v : Value) (w : World) : (Instr.typeAssert (.iface t v) 110 137 true).run Try.prog w = .ok (.tuple #[zLet, .bool false]) w :=
  ta_no (by kernel_rfl) ht (by kernel_rfl) v w
end Go.Proofs.Ytmejbmfopdfbjaa
