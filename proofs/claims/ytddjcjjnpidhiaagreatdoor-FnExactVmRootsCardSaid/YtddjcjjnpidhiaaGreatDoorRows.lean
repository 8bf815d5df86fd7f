/-
  NARROWER THAN 'FOR EVERY INPUT', by the rows' own cells (each row's printed sentence says how): FnExactVmOk: laid · FnExactVmRoots: laid · FnExactDepth: laid · FnExactTopUnit: laid · FnExactRefRegs: laid.
  DERIVED. THE GIVEN ROWS OF THIS SEAT. 5 by the template 'for every input the law returns true; each argument reads behind the call as it read before'; 0 by the template 'total and deterministic' (their statements: YtddjcjjnpidhiaaGreatDoorTotals.lean).
  GIVEN WITH THE SEED: the statements are not yours to turn. If you find one false, say at which input.
  Laid BY PROGRAM, IN A SANDBOX (cutbox-rows.mjs): the forced cells as the released guide's own fill.sh prints them over the translation 20dabf36621c1bb9… (all of the seat's roots in one cut). By AI agents, Wed Nov 11 2026. No macro, syntax, notation, axiom, sorry.
-/
import Derived.Test.YtddjcjjnpidhiaaGreatDoorChecked
import GoSem.Claim
import GoSem.ClaimJoined
import GoSem.ClaimMapViews
import Derived.JoinedTies
import Derived.KernelRfl
namespace Go.Proofs.YtddjcjjnpidhiaaGreatDoor
/- THE CELL 'sum', in the pinned program and in every row, IS THE sha256 OF THE DUMP (.gsa) THAT YtddjcjjnpidhiaaGreatDoorProg.lean LOADS. Nothing in Lean hashes anything: it is a label: what it is worth is what the hold of that sum in a sandbox is worth. -/
noncomputable def Tryz.pinned : Pinned := { name := "ytddjcjjnpidhiaagreatdoor", sum := "20dabf36621c1bb96ae880781393f041e2eb46eee2002cff922452e5fc009cfb", checked := Tryz.checked }
namespace Rows
def none {H : Type} : Left H := { results := [], args := [] }

/- WHAT THE LISTED PACKAGE-LEVEL VARIABLES READ AS WHEN THE CALL BEGINS. Each datum BY PROGRAM (the guide's laid-datum.mjs) off the statement by which the dump's own 'gosem.cut.vars' lays the variable. In a bare row this is a premise. The card (YtddjcjjnpidhiaaGreatDoorCards.lean) ties it to the program's text. -/
def laid_loop_example_g00547_impl_orderForms {H : Type} : DataW H := .agg [.agg [.lit (.string [116, 105, 99, 107]), .lit (.int .i64 0), .lit (.int .i64 0), .lit (.int .i64 0), .lit (.bool false)], .agg [.lit (.string [110, 117, 109]), .lit (.int .i64 1), .lit (.int .i64 4), .lit (.int .i64 0), .lit (.bool false)], .agg [.lit (.string [110, 105, 108]), .lit (.int .i64 1), .lit (.int .i64 0), .lit (.int .i64 0), .lit (.bool false)], .agg [.lit (.string [109, 111, 118, 101]), .lit (.int .i64 1), .lit (.int .i64 1), .lit (.int .i64 0), .lit (.bool false)], .agg [.lit (.string [110, 101, 119]), .lit (.int .i64 1), .lit (.int .i64 0), .lit (.int .i64 0), .lit (.bool false)], .agg [.lit (.string [103, 101, 116]), .lit (.int .i64 1), .lit (.int .i64 1), .lit (.int .i64 0), .lit (.bool true)], .agg [.lit (.string [112, 117, 116]), .lit (.int .i64 1), .lit (.int .i64 1), .lit (.int .i64 0), .lit (.bool true)], .agg [.lit (.string [98, 105, 110]), .lit (.int .i64 2), .lit (.int .i64 1), .lit (.int .i64 5), .lit (.bool false)], .agg [.lit (.string [106, 117, 109, 112]), .lit (.int .i64 3), .lit (.int .i64 0), .lit (.int .i64 0), .lit (.bool false)], .agg [.lit (.string [122, 101, 114, 111]), .lit (.int .i64 1), .lit (.int .i64 3), .lit (.int .i64 0), .lit (.bool false)], .agg [.lit (.string [99, 97, 108, 108]), .lit (.int .i64 1), .lit (.int .i64 6), .lit (.int .i64 7), .lit (.bool false)], .agg [.lit (.string [98, 97, 99, 107]), .lit (.int .i64 1), .lit (.int .i64 0), .lit (.int .i64 0), .lit (.bool false)], .agg [.lit (.string [115, 104, 111, 119]), .lit (.int .i64 1), .lit (.int .i64 0), .lit (.int .i64 0), .lit (.bool false)], .agg [.lit (.string [119, 101, 97, 107]), .lit (.int .i64 1), .lit (.int .i64 1), .lit (.int .i64 0), .lit (.bool false)], .agg [.lit (.string [108, 105, 118, 101]), .lit (.int .i64 1), .lit (.int .i64 1), .lit (.int .i64 0), .lit (.bool false)]]

/-- 'laws.FnExactVmOk': WHATEVER THE INPUT: true; the input reads as it did. -/
def fnExactVmOkSpec : ChangeSpec := { name := "fnExactVmOk", vars := ["loop.example/g00547/impl.orderForms"], fn := fun _ => fun
  | [d, g1] => { results := [.lit (.bool true)], args := [d], vars := [g1] }
  | _ => none }
def fnExactVmOkRow : OpenClaim := { program := "ytddjcjjnpidhiaagreatdoor", sum := "20dabf36621c1bb96ae880781393f041e2eb46eee2002cff922452e5fc009cfb", func := "loop.example/g00547/laws.FnExactVmOk", spec := "fnExactVmOk", inPlace := ["slices.overlaps[int]", "internal/bytealg.Compare"], unfollowed := true, recurses := true, named := ["loop.example/g00547/impl.orderForms"], apart := false, laid := [("loop.example/g00547/impl.orderForms", laid_loop_example_g00547_impl_orderForms)] }
def FnExactVmOkSaid : Prop := fnExactVmOkRow.holds Tryz.pinned (OpenSpec.ofChange fnExactVmOkSpec)

/-- ITS FALSE NEIGHBOUR: 'it returns false'. Refute it at one input. -/
def fnExactVmOkWrong : ChangeSpec := { name := "fnExactVmOk", vars := ["loop.example/g00547/impl.orderForms"], fn := fun _ => fun
  | [d, g1] => { results := [.lit (.bool false)], args := [d], vars := [g1] }
  | _ => none }
def FnExactVmOkWrongFalsely : Prop := fnExactVmOkRow.holds Tryz.pinned (OpenSpec.ofChange fnExactVmOkWrong)

/-- 'laws.FnExactVmRoots': WHATEVER THE INPUT: true; the input reads as it did. -/
def fnExactVmRootsSpec : ChangeSpec := { name := "fnExactVmRoots", vars := ["loop.example/g00547/impl.orderForms"], fn := fun _ => fun
  | [d, g1] => { results := [.lit (.bool true)], args := [d], vars := [g1] }
  | _ => none }
def fnExactVmRootsRow : OpenClaim := { program := "ytddjcjjnpidhiaagreatdoor", sum := "20dabf36621c1bb96ae880781393f041e2eb46eee2002cff922452e5fc009cfb", func := "loop.example/g00547/laws.FnExactVmRoots", spec := "fnExactVmRoots", inPlace := ["slices.overlaps[int]", "internal/bytealg.Compare"], unfollowed := true, recurses := true, named := ["loop.example/g00547/impl.orderForms"], apart := false, laid := [("loop.example/g00547/impl.orderForms", laid_loop_example_g00547_impl_orderForms)] }
def FnExactVmRootsSaid : Prop := fnExactVmRootsRow.holds Tryz.pinned (OpenSpec.ofChange fnExactVmRootsSpec)

/-- ITS FALSE NEIGHBOUR: 'it returns false'. Refute it at one input. -/
def fnExactVmRootsWrong : ChangeSpec := { name := "fnExactVmRoots", vars := ["loop.example/g00547/impl.orderForms"], fn := fun _ => fun
  | [d, g1] => { results := [.lit (.bool false)], args := [d], vars := [g1] }
  | _ => none }
def FnExactVmRootsWrongFalsely : Prop := fnExactVmRootsRow.holds Tryz.pinned (OpenSpec.ofChange fnExactVmRootsWrong)

/-- 'laws.FnExactDepth': WHATEVER THE INPUT: true; the input reads as it did. -/
def fnExactDepthSpec : ChangeSpec := { name := "fnExactDepth", vars := ["loop.example/g00547/impl.orderForms"], fn := fun _ => fun
  | [d, g1] => { results := [.lit (.bool true)], args := [d], vars := [g1] }
  | _ => none }
def fnExactDepthRow : OpenClaim := { program := "ytddjcjjnpidhiaagreatdoor", sum := "20dabf36621c1bb96ae880781393f041e2eb46eee2002cff922452e5fc009cfb", func := "loop.example/g00547/laws.FnExactDepth", spec := "fnExactDepth", inPlace := ["slices.overlaps[int]", "internal/bytealg.Compare"], unfollowed := true, recurses := true, named := ["loop.example/g00547/impl.orderForms"], apart := false, laid := [("loop.example/g00547/impl.orderForms", laid_loop_example_g00547_impl_orderForms)] }
def FnExactDepthSaid : Prop := fnExactDepthRow.holds Tryz.pinned (OpenSpec.ofChange fnExactDepthSpec)

/-- ITS FALSE NEIGHBOUR: 'it returns false'. Refute it at one input. -/
def fnExactDepthWrong : ChangeSpec := { name := "fnExactDepth", vars := ["loop.example/g00547/impl.orderForms"], fn := fun _ => fun
  | [d, g1] => { results := [.lit (.bool false)], args := [d], vars := [g1] }
  | _ => none }
def FnExactDepthWrongFalsely : Prop := fnExactDepthRow.holds Tryz.pinned (OpenSpec.ofChange fnExactDepthWrong)

/-- 'laws.FnExactTopUnit': WHATEVER THE INPUT: true; the input reads as it did. -/
def fnExactTopUnitSpec : ChangeSpec := { name := "fnExactTopUnit", vars := ["loop.example/g00547/impl.orderForms"], fn := fun _ => fun
  | [d, g1] => { results := [.lit (.bool true)], args := [d], vars := [g1] }
  | _ => none }
def fnExactTopUnitRow : OpenClaim := { program := "ytddjcjjnpidhiaagreatdoor", sum := "20dabf36621c1bb96ae880781393f041e2eb46eee2002cff922452e5fc009cfb", func := "loop.example/g00547/laws.FnExactTopUnit", spec := "fnExactTopUnit", inPlace := ["slices.overlaps[int]", "internal/bytealg.Compare"], unfollowed := true, recurses := true, named := ["loop.example/g00547/impl.orderForms"], apart := false, laid := [("loop.example/g00547/impl.orderForms", laid_loop_example_g00547_impl_orderForms)] }
def FnExactTopUnitSaid : Prop := fnExactTopUnitRow.holds Tryz.pinned (OpenSpec.ofChange fnExactTopUnitSpec)

/-- ITS FALSE NEIGHBOUR: 'it returns false'. Refute it at one input. -/
def fnExactTopUnitWrong : ChangeSpec := { name := "fnExactTopUnit", vars := ["loop.example/g00547/impl.orderForms"], fn := fun _ => fun
  | [d, g1] => { results := [.lit (.bool false)], args := [d], vars := [g1] }
  | _ => none }
def FnExactTopUnitWrongFalsely : Prop := fnExactTopUnitRow.holds Tryz.pinned (OpenSpec.ofChange fnExactTopUnitWrong)

/-- 'laws.FnExactRefRegs': WHATEVER THE INPUT: true; the input reads as it did. -/
def fnExactRefRegsSpec : ChangeSpec := { name := "fnExactRefRegs", vars := ["loop.example/g00547/impl.orderForms"], fn := fun _ => fun
  | [d, g1] => { results := [.lit (.bool true)], args := [d], vars := [g1] }
  | _ => none }
def fnExactRefRegsRow : OpenClaim := { program := "ytddjcjjnpidhiaagreatdoor", sum := "20dabf36621c1bb96ae880781393f041e2eb46eee2002cff922452e5fc009cfb", func := "loop.example/g00547/laws.FnExactRefRegs", spec := "fnExactRefRegs", inPlace := ["slices.overlaps[int]", "internal/bytealg.Compare"], unfollowed := true, recurses := true, named := ["loop.example/g00547/impl.orderForms"], apart := false, laid := [("loop.example/g00547/impl.orderForms", laid_loop_example_g00547_impl_orderForms)] }
def FnExactRefRegsSaid : Prop := fnExactRefRegsRow.holds Tryz.pinned (OpenSpec.ofChange fnExactRefRegsSpec)

/-- ITS FALSE NEIGHBOUR: 'it returns false'. Refute it at one input. -/
def fnExactRefRegsWrong : ChangeSpec := { name := "fnExactRefRegs", vars := ["loop.example/g00547/impl.orderForms"], fn := fun _ => fun
  | [d, g1] => { results := [.lit (.bool false)], args := [d], vars := [g1] }
  | _ => none }
def FnExactRefRegsWrongFalsely : Prop := fnExactRefRegsRow.holds Tryz.pinned (OpenSpec.ofChange fnExactRefRegsWrong)

/- THE SECOND FORM. 'bulk': how many values and letters a reading holds, each counted each time it is reached (what is shared counts as often as it is met; a slice's spare places count too). A statement '..UptoSaid' is the law's where the arguments, and the package variables that the reading takes, are together of bulk at most 1048576: NARROWER than '..Said'. Prove '..Said' where nothing that the law and all that it calls make is longer than what came in: it says more and counts as full. Else prove '..UptoSaid'. A law counts once. -/
mutual
def uptoBulk {H : Type} : DataW H → Nat
  | .lit (.string bytes) => bytes.length + 1
  | .lit _ => 1
  | .nil => 1
  | .ptr d => uptoBulk d + 1
  | .slice elems spare => uptoBulkAll elems + uptoBulkAll spare + 1
  | .agg parts => uptoBulkAll parts + 1
  | .iface _ d => uptoBulk d + 1
  | .map entries => uptoBulkEntries entries + 1
  | .held _ => 1
def uptoBulkAll {H : Type} : List (DataW H) → Nat
  | [] => 0
  | d :: r => uptoBulk d + uptoBulkAll r
def uptoBulkEntries {H : Type} : List (Lit × DataW H) → Nat
  | [] => 0
  | x :: r => uptoBulkEntry x + uptoBulkEntries r
def uptoBulkEntry {H : Type} : Lit × DataW H → Nat
  | (.string bytes, d) => bytes.length + uptoBulk d + 1
  | (_, d) => uptoBulk d + 1
 end
def uptoSmall : (H : Type) → List (DataW H) → Bool := fun _ ds => decide (uptoBulkAll ds ≤ 1048576)
def OpenSpec.upto (s : _root_.Go.ChangeSpec) : _root_.Go.OpenSpec := { _root_.Go.OpenSpec.ofChange s with cond := some uptoSmall }

/-- 'laws.FnExactVmOk', WHERE WHAT IT READS IS OF BULK AT MOST 1048576: true; the input reads as it did. -/
def fnExactVmOkUptoRow : OpenClaim := { program := "ytddjcjjnpidhiaagreatdoor", sum := "20dabf36621c1bb96ae880781393f041e2eb46eee2002cff922452e5fc009cfb", func := "loop.example/g00547/laws.FnExactVmOk", spec := "fnExactVmOk", inPlace := ["slices.overlaps[int]", "internal/bytealg.Compare"], unfollowed := true, recurses := true, named := ["loop.example/g00547/impl.orderForms"], apart := false, laid := [("loop.example/g00547/impl.orderForms", laid_loop_example_g00547_impl_orderForms)], narrowed := true }
def FnExactVmOkUptoSaid : Prop := fnExactVmOkUptoRow.holds Tryz.pinned (OpenSpec.upto fnExactVmOkSpec)

/-- 'laws.FnExactVmRoots', WHERE WHAT IT READS IS OF BULK AT MOST 1048576: true; the input reads as it did. -/
def fnExactVmRootsUptoRow : OpenClaim := { program := "ytddjcjjnpidhiaagreatdoor", sum := "20dabf36621c1bb96ae880781393f041e2eb46eee2002cff922452e5fc009cfb", func := "loop.example/g00547/laws.FnExactVmRoots", spec := "fnExactVmRoots", inPlace := ["slices.overlaps[int]", "internal/bytealg.Compare"], unfollowed := true, recurses := true, named := ["loop.example/g00547/impl.orderForms"], apart := false, laid := [("loop.example/g00547/impl.orderForms", laid_loop_example_g00547_impl_orderForms)], narrowed := true }
def FnExactVmRootsUptoSaid : Prop := fnExactVmRootsUptoRow.holds Tryz.pinned (OpenSpec.upto fnExactVmRootsSpec)

/-- 'laws.FnExactDepth', WHERE WHAT IT READS IS OF BULK AT MOST 1048576: true; the input reads as it did. -/
def fnExactDepthUptoRow : OpenClaim := { program := "ytddjcjjnpidhiaagreatdoor", sum := "20dabf36621c1bb96ae880781393f041e2eb46eee2002cff922452e5fc009cfb", func := "loop.example/g00547/laws.FnExactDepth", spec := "fnExactDepth", inPlace := ["slices.overlaps[int]", "internal/bytealg.Compare"], unfollowed := true, recurses := true, named := ["loop.example/g00547/impl.orderForms"], apart := false, laid := [("loop.example/g00547/impl.orderForms", laid_loop_example_g00547_impl_orderForms)], narrowed := true }
def FnExactDepthUptoSaid : Prop := fnExactDepthUptoRow.holds Tryz.pinned (OpenSpec.upto fnExactDepthSpec)

/-- 'laws.FnExactTopUnit', WHERE WHAT IT READS IS OF BULK AT MOST 1048576: true; the input reads as it did. -/
def fnExactTopUnitUptoRow : OpenClaim := { program := "ytddjcjjnpidhiaagreatdoor", sum := "20dabf36621c1bb96ae880781393f041e2eb46eee2002cff922452e5fc009cfb", func := "loop.example/g00547/laws.FnExactTopUnit", spec := "fnExactTopUnit", inPlace := ["slices.overlaps[int]", "internal/bytealg.Compare"], unfollowed := true, recurses := true, named := ["loop.example/g00547/impl.orderForms"], apart := false, laid := [("loop.example/g00547/impl.orderForms", laid_loop_example_g00547_impl_orderForms)], narrowed := true }
def FnExactTopUnitUptoSaid : Prop := fnExactTopUnitUptoRow.holds Tryz.pinned (OpenSpec.upto fnExactTopUnitSpec)

/-- 'laws.FnExactRefRegs', WHERE WHAT IT READS IS OF BULK AT MOST 1048576: true; the input reads as it did. -/
def fnExactRefRegsUptoRow : OpenClaim := { program := "ytddjcjjnpidhiaagreatdoor", sum := "20dabf36621c1bb96ae880781393f041e2eb46eee2002cff922452e5fc009cfb", func := "loop.example/g00547/laws.FnExactRefRegs", spec := "fnExactRefRegs", inPlace := ["slices.overlaps[int]", "internal/bytealg.Compare"], unfollowed := true, recurses := true, named := ["loop.example/g00547/impl.orderForms"], apart := false, laid := [("loop.example/g00547/impl.orderForms", laid_loop_example_g00547_impl_orderForms)], narrowed := true }
def FnExactRefRegsUptoSaid : Prop := fnExactRefRegsUptoRow.holds Tryz.pinned (OpenSpec.upto fnExactRefRegsSpec)

end Rows
end Go.Proofs.YtddjcjjnpidhiaaGreatDoor
