/-
  NARROWER THAN 'FOR EVERY INPUT', by the rows' own cells (each row's printed sentence says how): FnExactUsesWeak: loops · FnExactProgOk: loops · FnExactFuncAt: loops · FnExactCountSts: loops · FnExactCountExs: loops · FnExactHasLoop: loops · FnExactCalls: loops · FnExactAllNames: loops.
  DERIVED. THE GIVEN ROWS OF THIS SEAT. 8 by the template 'for every input the law returns true; each argument reads behind the call as it read before'; 0 by the template 'total and deterministic' (their statements: YtglalpoalinieaaTotals.lean).
  GIVEN WITH THE SEED: the statements are not yours to turn. If you find one false, say at which input.
  Laid BY PROGRAM, IN A SANDBOX (cutbox-rows.mjs): the forced cells as the released guide's own fill.sh prints them over the translation 4d95091dc5dcd35e… (all of the seat's roots in one cut). By AI agents, Wed Nov 11 2026. No macro, syntax, notation, axiom, sorry.
-/
import Derived.Test.YtglalpoalinieaaChecked
import GoSem.Claim
import GoSem.ClaimJoined
import GoSem.ClaimMapViews
import Derived.JoinedTies
import Derived.KernelRfl
namespace Go.Proofs.Ytglalpoalinieaa
/- THE CELL 'sum', in the pinned program and in every row, IS THE sha256 OF THE DUMP (.gsa) THAT YtglalpoalinieaaProg.lean LOADS. Nothing in Lean hashes anything: it is a label: what it is worth is what the hold of that sum in a sandbox is worth. -/
noncomputable def Try.pinned : Pinned := { name := "ytglalpoalinieaa", sum := "4d95091dc5dcd35e25374e739ac28bf73c55c21f11c986e3ecd03671af4af63d", checked := Try.checked }
namespace Rows
def none {H : Type} : Left H := { results := [], args := [] }

/-- 'laws.FnExactUsesWeak': WHATEVER THE INPUT: true; the input reads as it did. -/
def fnExactUsesWeakSpec : ChangeSpec := { name := "fnExactUsesWeak", fn := fun _ => fun
  | [d] => { results := [.lit (.bool true)], args := [d] }
  | _ => none }
def fnExactUsesWeakRow : OpenClaim := { program := "ytglalpoalinieaa", sum := "4d95091dc5dcd35e25374e739ac28bf73c55c21f11c986e3ecd03671af4af63d", func := "loop.example/g00547/laws.FnExactUsesWeak", spec := "fnExactUsesWeak", unfollowed := true, recurses := true, loops := true, apart := false }
def FnExactUsesWeakSaid : Prop := fnExactUsesWeakRow.holds Try.pinned (OpenSpec.ofChange fnExactUsesWeakSpec)

/-- ITS FALSE NEIGHBOUR: 'it returns false'. Refute it at one input. -/
def fnExactUsesWeakWrong : ChangeSpec := { name := "fnExactUsesWeak", fn := fun _ => fun
  | [d] => { results := [.lit (.bool false)], args := [d] }
  | _ => none }
def FnExactUsesWeakWrongFalsely : Prop := fnExactUsesWeakRow.holds Try.pinned (OpenSpec.ofChange fnExactUsesWeakWrong)

/-- 'laws.FnExactProgOk': WHATEVER THE INPUT: true; the input reads as it did. -/
def fnExactProgOkSpec : ChangeSpec := { name := "fnExactProgOk", fn := fun _ => fun
  | [d] => { results := [.lit (.bool true)], args := [d] }
  | _ => none }
def fnExactProgOkRow : OpenClaim := { program := "ytglalpoalinieaa", sum := "4d95091dc5dcd35e25374e739ac28bf73c55c21f11c986e3ecd03671af4af63d", func := "loop.example/g00547/laws.FnExactProgOk", spec := "fnExactProgOk", unfollowed := true, recurses := true, loops := true, apart := false }
def FnExactProgOkSaid : Prop := fnExactProgOkRow.holds Try.pinned (OpenSpec.ofChange fnExactProgOkSpec)

/-- ITS FALSE NEIGHBOUR: 'it returns false'. Refute it at one input. -/
def fnExactProgOkWrong : ChangeSpec := { name := "fnExactProgOk", fn := fun _ => fun
  | [d] => { results := [.lit (.bool false)], args := [d] }
  | _ => none }
def FnExactProgOkWrongFalsely : Prop := fnExactProgOkRow.holds Try.pinned (OpenSpec.ofChange fnExactProgOkWrong)

/-- 'laws.FnExactFuncAt': WHATEVER THE INPUT: true; the input reads as it did. -/
def fnExactFuncAtSpec : ChangeSpec := { name := "fnExactFuncAt", fn := fun _ => fun
  | [d1, d2] => { results := [.lit (.bool true)], args := [d1, d2] }
  | _ => none }
def fnExactFuncAtRow : OpenClaim := { program := "ytglalpoalinieaa", sum := "4d95091dc5dcd35e25374e739ac28bf73c55c21f11c986e3ecd03671af4af63d", func := "loop.example/g00547/laws.FnExactFuncAt", spec := "fnExactFuncAt", unfollowed := true, recurses := true, loops := true, apart := false }
def FnExactFuncAtSaid : Prop := fnExactFuncAtRow.holds Try.pinned (OpenSpec.ofChange fnExactFuncAtSpec)

/-- ITS FALSE NEIGHBOUR: 'it returns false'. Refute it at one input. -/
def fnExactFuncAtWrong : ChangeSpec := { name := "fnExactFuncAt", fn := fun _ => fun
  | [d1, d2] => { results := [.lit (.bool false)], args := [d1, d2] }
  | _ => none }
def FnExactFuncAtWrongFalsely : Prop := fnExactFuncAtRow.holds Try.pinned (OpenSpec.ofChange fnExactFuncAtWrong)

/-- 'laws.FnExactCountSts': WHATEVER THE INPUT: true; the input reads as it did. -/
def fnExactCountStsSpec : ChangeSpec := { name := "fnExactCountSts", fn := fun _ => fun
  | [d1, d2] => { results := [.lit (.bool true)], args := [d1, d2] }
  | _ => none }
def fnExactCountStsRow : OpenClaim := { program := "ytglalpoalinieaa", sum := "4d95091dc5dcd35e25374e739ac28bf73c55c21f11c986e3ecd03671af4af63d", func := "loop.example/g00547/laws.FnExactCountSts", spec := "fnExactCountSts", unfollowed := true, recurses := true, loops := true, apart := false }
def FnExactCountStsSaid : Prop := fnExactCountStsRow.holds Try.pinned (OpenSpec.ofChange fnExactCountStsSpec)

/-- ITS FALSE NEIGHBOUR: 'it returns false'. Refute it at one input. -/
def fnExactCountStsWrong : ChangeSpec := { name := "fnExactCountSts", fn := fun _ => fun
  | [d1, d2] => { results := [.lit (.bool false)], args := [d1, d2] }
  | _ => none }
def FnExactCountStsWrongFalsely : Prop := fnExactCountStsRow.holds Try.pinned (OpenSpec.ofChange fnExactCountStsWrong)

/-- 'laws.FnExactCountExs': WHATEVER THE INPUT: true; the input reads as it did. -/
def fnExactCountExsSpec : ChangeSpec := { name := "fnExactCountExs", fn := fun _ => fun
  | [d1, d2] => { results := [.lit (.bool true)], args := [d1, d2] }
  | _ => none }
def fnExactCountExsRow : OpenClaim := { program := "ytglalpoalinieaa", sum := "4d95091dc5dcd35e25374e739ac28bf73c55c21f11c986e3ecd03671af4af63d", func := "loop.example/g00547/laws.FnExactCountExs", spec := "fnExactCountExs", unfollowed := true, recurses := true, loops := true, apart := false }
def FnExactCountExsSaid : Prop := fnExactCountExsRow.holds Try.pinned (OpenSpec.ofChange fnExactCountExsSpec)

/-- ITS FALSE NEIGHBOUR: 'it returns false'. Refute it at one input. -/
def fnExactCountExsWrong : ChangeSpec := { name := "fnExactCountExs", fn := fun _ => fun
  | [d1, d2] => { results := [.lit (.bool false)], args := [d1, d2] }
  | _ => none }
def FnExactCountExsWrongFalsely : Prop := fnExactCountExsRow.holds Try.pinned (OpenSpec.ofChange fnExactCountExsWrong)

/-- 'laws.FnExactHasLoop': WHATEVER THE INPUT: true; the input reads as it did. -/
def fnExactHasLoopSpec : ChangeSpec := { name := "fnExactHasLoop", fn := fun _ => fun
  | [d] => { results := [.lit (.bool true)], args := [d] }
  | _ => none }
def fnExactHasLoopRow : OpenClaim := { program := "ytglalpoalinieaa", sum := "4d95091dc5dcd35e25374e739ac28bf73c55c21f11c986e3ecd03671af4af63d", func := "loop.example/g00547/laws.FnExactHasLoop", spec := "fnExactHasLoop", unfollowed := true, recurses := true, loops := true, apart := false }
def FnExactHasLoopSaid : Prop := fnExactHasLoopRow.holds Try.pinned (OpenSpec.ofChange fnExactHasLoopSpec)

/-- ITS FALSE NEIGHBOUR: 'it returns false'. Refute it at one input. -/
def fnExactHasLoopWrong : ChangeSpec := { name := "fnExactHasLoop", fn := fun _ => fun
  | [d] => { results := [.lit (.bool false)], args := [d] }
  | _ => none }
def FnExactHasLoopWrongFalsely : Prop := fnExactHasLoopRow.holds Try.pinned (OpenSpec.ofChange fnExactHasLoopWrong)

/-- 'laws.FnExactCalls': WHATEVER THE INPUT: true; the input reads as it did. -/
def fnExactCallsSpec : ChangeSpec := { name := "fnExactCalls", fn := fun _ => fun
  | [d] => { results := [.lit (.bool true)], args := [d] }
  | _ => none }
def fnExactCallsRow : OpenClaim := { program := "ytglalpoalinieaa", sum := "4d95091dc5dcd35e25374e739ac28bf73c55c21f11c986e3ecd03671af4af63d", func := "loop.example/g00547/laws.FnExactCalls", spec := "fnExactCalls", unfollowed := true, recurses := true, loops := true, apart := false }
def FnExactCallsSaid : Prop := fnExactCallsRow.holds Try.pinned (OpenSpec.ofChange fnExactCallsSpec)

/-- ITS FALSE NEIGHBOUR: 'it returns false'. Refute it at one input. -/
def fnExactCallsWrong : ChangeSpec := { name := "fnExactCalls", fn := fun _ => fun
  | [d] => { results := [.lit (.bool false)], args := [d] }
  | _ => none }
def FnExactCallsWrongFalsely : Prop := fnExactCallsRow.holds Try.pinned (OpenSpec.ofChange fnExactCallsWrong)

/-- 'laws.FnExactAllNames': WHATEVER THE INPUT: true; the input reads as it did. -/
def fnExactAllNamesSpec : ChangeSpec := { name := "fnExactAllNames", fn := fun _ => fun
  | [d] => { results := [.lit (.bool true)], args := [d] }
  | _ => none }
def fnExactAllNamesRow : OpenClaim := { program := "ytglalpoalinieaa", sum := "4d95091dc5dcd35e25374e739ac28bf73c55c21f11c986e3ecd03671af4af63d", func := "loop.example/g00547/laws.FnExactAllNames", spec := "fnExactAllNames", unfollowed := true, recurses := true, loops := true, apart := false }
def FnExactAllNamesSaid : Prop := fnExactAllNamesRow.holds Try.pinned (OpenSpec.ofChange fnExactAllNamesSpec)

/-- ITS FALSE NEIGHBOUR: 'it returns false'. Refute it at one input. -/
def fnExactAllNamesWrong : ChangeSpec := { name := "fnExactAllNames", fn := fun _ => fun
  | [d] => { results := [.lit (.bool false)], args := [d] }
  | _ => none }
def FnExactAllNamesWrongFalsely : Prop := fnExactAllNamesRow.holds Try.pinned (OpenSpec.ofChange fnExactAllNamesWrong)

/- THE SECOND FORM. 'bulk': how many values and letters a reading holds, each counted each time it is reached (what is shared counts as often as it is met; a slice's spare places count too). A statement '..UptoSaid' is the law's where the arguments, and the package variables that the reading takes, are together of bulk at most 1048576: NARROWER than '..Said'. Prove '..Said' where nothing that the law and all that it calls make is longer than what came in: it says more and counts as full. Else prove '..UptoSaid'. A law counts once. -/
mutual
def uptoBulk {H : Type} : DataW H → Nat
  | .lit (.string bytes) => bytes.length + 1
  | .lit _ => 1
  | .nil => 1
  | .ptr d => uptoBulk d + 1
  | .slice elems spare => uptoBulkAll elems + uptoBulkAll spare + 1
  | .agg parts => uptoBulkAll parts + 1
  | .iface _ d => uptoBulk d + 1
  | .map entries => uptoBulkEntries entries + 1
  | .held _ => 1
def uptoBulkAll {H : Type} : List (DataW H) → Nat
  | [] => 0
  | d :: r => uptoBulk d + uptoBulkAll r
def uptoBulkEntries {H : Type} : List (Lit × DataW H) → Nat
  | [] => 0
  | x :: r => uptoBulkEntry x + uptoBulkEntries r
def uptoBulkEntry {H : Type} : Lit × DataW H → Nat
  | (.string bytes, d) => bytes.length + uptoBulk d + 1
  | (_, d) => uptoBulk d + 1
 end
def uptoSmall : (H : Type) → List (DataW H) → Bool := fun _ ds => decide (uptoBulkAll ds ≤ 1048576)
def OpenSpec.upto (s : _root_.Go.ChangeSpec) : _root_.Go.OpenSpec := { _root_.Go.OpenSpec.ofChange s with cond := some uptoSmall }

/-- 'laws.FnExactUsesWeak', WHERE WHAT IT READS IS OF BULK AT MOST 1048576: true; the input reads as it did. -/
def fnExactUsesWeakUptoRow : OpenClaim := { program := "ytglalpoalinieaa", sum := "4d95091dc5dcd35e25374e739ac28bf73c55c21f11c986e3ecd03671af4af63d", func := "loop.example/g00547/laws.FnExactUsesWeak", spec := "fnExactUsesWeak", unfollowed := true, recurses := true, loops := true, apart := false, narrowed := true }
def FnExactUsesWeakUptoSaid : Prop := fnExactUsesWeakUptoRow.holds Try.pinned (OpenSpec.upto fnExactUsesWeakSpec)

/-- 'laws.FnExactProgOk', WHERE WHAT IT READS IS OF BULK AT MOST 1048576: true; the input reads as it did. -/
def fnExactProgOkUptoRow : OpenClaim := { program := "ytglalpoalinieaa", sum := "4d95091dc5dcd35e25374e739ac28bf73c55c21f11c986e3ecd03671af4af63d", func := "loop.example/g00547/laws.FnExactProgOk", spec := "fnExactProgOk", unfollowed := true, recurses := true, loops := true, apart := false, narrowed := true }
def FnExactProgOkUptoSaid : Prop := fnExactProgOkUptoRow.holds Try.pinned (OpenSpec.upto fnExactProgOkSpec)

/-- 'laws.FnExactFuncAt', WHERE WHAT IT READS IS OF BULK AT MOST 1048576: true; the input reads as it did. -/
def fnExactFuncAtUptoRow : OpenClaim := { program := "ytglalpoalinieaa", sum := "4d95091dc5dcd35e25374e739ac28bf73c55c21f11c986e3ecd03671af4af63d", func := "loop.example/g00547/laws.FnExactFuncAt", spec := "fnExactFuncAt", unfollowed := true, recurses := true, loops := true, apart := false, narrowed := true }
def FnExactFuncAtUptoSaid : Prop := fnExactFuncAtUptoRow.holds Try.pinned (OpenSpec.upto fnExactFuncAtSpec)

/-- 'laws.FnExactCountSts', WHERE WHAT IT READS IS OF BULK AT MOST 1048576: true; the input reads as it did. -/
def fnExactCountStsUptoRow : OpenClaim := { program := "ytglalpoalinieaa", sum := "4d95091dc5dcd35e25374e739ac28bf73c55c21f11c986e3ecd03671af4af63d", func := "loop.example/g00547/laws.FnExactCountSts", spec := "fnExactCountSts", unfollowed := true, recurses := true, loops := true, apart := false, narrowed := true }
def FnExactCountStsUptoSaid : Prop := fnExactCountStsUptoRow.holds Try.pinned (OpenSpec.upto fnExactCountStsSpec)

/-- 'laws.FnExactCountExs', WHERE WHAT IT READS IS OF BULK AT MOST 1048576: true; the input reads as it did. -/
def fnExactCountExsUptoRow : OpenClaim := { program := "ytglalpoalinieaa", sum := "4d95091dc5dcd35e25374e739ac28bf73c55c21f11c986e3ecd03671af4af63d", func := "loop.example/g00547/laws.FnExactCountExs", spec := "fnExactCountExs", unfollowed := true, recurses := true, loops := true, apart := false, narrowed := true }
def FnExactCountExsUptoSaid : Prop := fnExactCountExsUptoRow.holds Try.pinned (OpenSpec.upto fnExactCountExsSpec)

/-- 'laws.FnExactHasLoop', WHERE WHAT IT READS IS OF BULK AT MOST 1048576: true; the input reads as it did. -/
def fnExactHasLoopUptoRow : OpenClaim := { program := "ytglalpoalinieaa", sum := "4d95091dc5dcd35e25374e739ac28bf73c55c21f11c986e3ecd03671af4af63d", func := "loop.example/g00547/laws.FnExactHasLoop", spec := "fnExactHasLoop", unfollowed := true, recurses := true, loops := true, apart := false, narrowed := true }
def FnExactHasLoopUptoSaid : Prop := fnExactHasLoopUptoRow.holds Try.pinned (OpenSpec.upto fnExactHasLoopSpec)

/-- 'laws.FnExactCalls', WHERE WHAT IT READS IS OF BULK AT MOST 1048576: true; the input reads as it did. -/
def fnExactCallsUptoRow : OpenClaim := { program := "ytglalpoalinieaa", sum := "4d95091dc5dcd35e25374e739ac28bf73c55c21f11c986e3ecd03671af4af63d", func := "loop.example/g00547/laws.FnExactCalls", spec := "fnExactCalls", unfollowed := true, recurses := true, loops := true, apart := false, narrowed := true }
def FnExactCallsUptoSaid : Prop := fnExactCallsUptoRow.holds Try.pinned (OpenSpec.upto fnExactCallsSpec)

/-- 'laws.FnExactAllNames', WHERE WHAT IT READS IS OF BULK AT MOST 1048576: true; the input reads as it did. -/
def fnExactAllNamesUptoRow : OpenClaim := { program := "ytglalpoalinieaa", sum := "4d95091dc5dcd35e25374e739ac28bf73c55c21f11c986e3ecd03671af4af63d", func := "loop.example/g00547/laws.FnExactAllNames", spec := "fnExactAllNames", unfollowed := true, recurses := true, loops := true, apart := false, narrowed := true }
def FnExactAllNamesUptoSaid : Prop := fnExactAllNamesUptoRow.holds Try.pinned (OpenSpec.upto fnExactAllNamesSpec)

end Rows
end Go.Proofs.Ytglalpoalinieaa
