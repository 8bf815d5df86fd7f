/-
  NARROWER THAN 'FOR EVERY INPUT', by the rows' own cells (each row's printed sentence says how): FnExactCodeOk: laid · FnExactSizeOf: laid · FnExactOpsOf: laid · FnExactUnitSizes: laid.
  DERIVED. THE GIVEN ROWS OF THIS SEAT. 4 by the template 'for every input the law returns true; each argument reads behind the call as it read before'; 0 by the template 'total and deterministic' (their statements: YtpepikjcbgkcfaaDoorTotals.lean).
  GIVEN WITH THE SEED: the statements are not yours to turn. If you find one false, say at which input.
  Laid BY PROGRAM, IN A SANDBOX (cutbox-rows.mjs): the forced cells as the released guide's own fill.sh prints them over the translation 7490b4401bde7396… (all of the seat's roots in one cut). By AI agents, Wed Nov 11 2026. No macro, syntax, notation, axiom, sorry.
-/
import Derived.Test.YtpepikjcbgkcfaaDoorChecked
import GoSem.Claim
import GoSem.ClaimJoined
import GoSem.ClaimMapViews
import Derived.JoinedTies
import Derived.KernelRfl
namespace Go.Proofs.YtpepikjcbgkcfaaDoor
/- THE CELL 'sum', in the pinned program and in every row, IS THE sha256 OF THE DUMP (.gsa) THAT YtpepikjcbgkcfaaDoorProg.lean LOADS. Nothing in Lean hashes anything: it is a label: what it is worth is what the hold of that sum in a sandbox is worth. -/
noncomputable def Tryd.pinned : Pinned := { name := "ytpepikjcbgkcfaadoor", sum := "7490b4401bde73960dced7d4da3d47bc6048a85231cb553e228d1e3c9e553233", checked := Tryd.checked }
namespace Rows
def none {H : Type} : Left H := { results := [], args := [] }

/- WHAT THE LISTED PACKAGE-LEVEL VARIABLES READ AS WHEN THE CALL BEGINS. Each datum BY PROGRAM (the guide's laid-datum.mjs) off the statement by which the dump's own 'gosem.cut.vars' lays the variable. In a bare row this is a premise. The card (YtpepikjcbgkcfaaDoorCards.lean) ties it to the program's text. -/
def laid_loop_example_g00547_impl_orderForms {H : Type} : DataW H := .agg [.agg [.lit (.string [116, 105, 99, 107]), .lit (.int .i64 0), .lit (.int .i64 0), .lit (.int .i64 0), .lit (.bool false)], .agg [.lit (.string [110, 117, 109]), .lit (.int .i64 1), .lit (.int .i64 4), .lit (.int .i64 0), .lit (.bool false)], .agg [.lit (.string [110, 105, 108]), .lit (.int .i64 1), .lit (.int .i64 0), .lit (.int .i64 0), .lit (.bool false)], .agg [.lit (.string [109, 111, 118, 101]), .lit (.int .i64 1), .lit (.int .i64 1), .lit (.int .i64 0), .lit (.bool false)], .agg [.lit (.string [110, 101, 119]), .lit (.int .i64 1), .lit (.int .i64 0), .lit (.int .i64 0), .lit (.bool false)], .agg [.lit (.string [103, 101, 116]), .lit (.int .i64 1), .lit (.int .i64 1), .lit (.int .i64 0), .lit (.bool true)], .agg [.lit (.string [112, 117, 116]), .lit (.int .i64 1), .lit (.int .i64 1), .lit (.int .i64 0), .lit (.bool true)], .agg [.lit (.string [98, 105, 110]), .lit (.int .i64 2), .lit (.int .i64 1), .lit (.int .i64 5), .lit (.bool false)], .agg [.lit (.string [106, 117, 109, 112]), .lit (.int .i64 3), .lit (.int .i64 0), .lit (.int .i64 0), .lit (.bool false)], .agg [.lit (.string [122, 101, 114, 111]), .lit (.int .i64 1), .lit (.int .i64 3), .lit (.int .i64 0), .lit (.bool false)], .agg [.lit (.string [99, 97, 108, 108]), .lit (.int .i64 1), .lit (.int .i64 6), .lit (.int .i64 7), .lit (.bool false)], .agg [.lit (.string [98, 97, 99, 107]), .lit (.int .i64 1), .lit (.int .i64 0), .lit (.int .i64 0), .lit (.bool false)], .agg [.lit (.string [115, 104, 111, 119]), .lit (.int .i64 1), .lit (.int .i64 0), .lit (.int .i64 0), .lit (.bool false)], .agg [.lit (.string [119, 101, 97, 107]), .lit (.int .i64 1), .lit (.int .i64 1), .lit (.int .i64 0), .lit (.bool false)], .agg [.lit (.string [108, 105, 118, 101]), .lit (.int .i64 1), .lit (.int .i64 1), .lit (.int .i64 0), .lit (.bool false)]]

/-- 'laws.FnExactCodeOk': WHATEVER THE INPUT: true; the input reads as it did. -/
def fnExactCodeOkSpec : ChangeSpec := { name := "fnExactCodeOk", vars := ["loop.example/g00547/impl.orderForms"], fn := fun _ => fun
  | [d, g1] => { results := [.lit (.bool true)], args := [d], vars := [g1] }
  | _ => none }
def fnExactCodeOkRow : OpenClaim := { program := "ytpepikjcbgkcfaadoor", sum := "7490b4401bde73960dced7d4da3d47bc6048a85231cb553e228d1e3c9e553233", func := "loop.example/g00547/laws.FnExactCodeOk", spec := "fnExactCodeOk", unfollowed := true, recurses := true, named := ["loop.example/g00547/impl.orderForms"], apart := false, laid := [("loop.example/g00547/impl.orderForms", laid_loop_example_g00547_impl_orderForms)] }
def FnExactCodeOkSaid : Prop := fnExactCodeOkRow.holds Tryd.pinned (OpenSpec.ofChange fnExactCodeOkSpec)

/-- ITS FALSE NEIGHBOUR: 'it returns false'. Refute it at one input. -/
def fnExactCodeOkWrong : ChangeSpec := { name := "fnExactCodeOk", vars := ["loop.example/g00547/impl.orderForms"], fn := fun _ => fun
  | [d, g1] => { results := [.lit (.bool false)], args := [d], vars := [g1] }
  | _ => none }
def FnExactCodeOkWrongFalsely : Prop := fnExactCodeOkRow.holds Tryd.pinned (OpenSpec.ofChange fnExactCodeOkWrong)

/-- 'laws.FnExactSizeOf': WHATEVER THE INPUT: true; the input reads as it did. -/
def fnExactSizeOfSpec : ChangeSpec := { name := "fnExactSizeOf", vars := ["loop.example/g00547/impl.orderForms"], fn := fun _ => fun
  | [d, g1] => { results := [.lit (.bool true)], args := [d], vars := [g1] }
  | _ => none }
def fnExactSizeOfRow : OpenClaim := { program := "ytpepikjcbgkcfaadoor", sum := "7490b4401bde73960dced7d4da3d47bc6048a85231cb553e228d1e3c9e553233", func := "loop.example/g00547/laws.FnExactSizeOf", spec := "fnExactSizeOf", unfollowed := true, recurses := true, named := ["loop.example/g00547/impl.orderForms"], apart := false, laid := [("loop.example/g00547/impl.orderForms", laid_loop_example_g00547_impl_orderForms)] }
def FnExactSizeOfSaid : Prop := fnExactSizeOfRow.holds Tryd.pinned (OpenSpec.ofChange fnExactSizeOfSpec)

/-- ITS FALSE NEIGHBOUR: 'it returns false'. Refute it at one input. -/
def fnExactSizeOfWrong : ChangeSpec := { name := "fnExactSizeOf", vars := ["loop.example/g00547/impl.orderForms"], fn := fun _ => fun
  | [d, g1] => { results := [.lit (.bool false)], args := [d], vars := [g1] }
  | _ => none }
def FnExactSizeOfWrongFalsely : Prop := fnExactSizeOfRow.holds Tryd.pinned (OpenSpec.ofChange fnExactSizeOfWrong)

/-- 'laws.FnExactOpsOf': WHATEVER THE INPUT: true; the input reads as it did. -/
def fnExactOpsOfSpec : ChangeSpec := { name := "fnExactOpsOf", vars := ["loop.example/g00547/impl.orderForms"], fn := fun _ => fun
  | [d1, d2, g1] => { results := [.lit (.bool true)], args := [d1, d2], vars := [g1] }
  | _ => none }
def fnExactOpsOfRow : OpenClaim := { program := "ytpepikjcbgkcfaadoor", sum := "7490b4401bde73960dced7d4da3d47bc6048a85231cb553e228d1e3c9e553233", func := "loop.example/g00547/laws.FnExactOpsOf", spec := "fnExactOpsOf", unfollowed := true, recurses := true, named := ["loop.example/g00547/impl.orderForms"], apart := false, laid := [("loop.example/g00547/impl.orderForms", laid_loop_example_g00547_impl_orderForms)] }
def FnExactOpsOfSaid : Prop := fnExactOpsOfRow.holds Tryd.pinned (OpenSpec.ofChange fnExactOpsOfSpec)

/-- ITS FALSE NEIGHBOUR: 'it returns false'. Refute it at one input. -/
def fnExactOpsOfWrong : ChangeSpec := { name := "fnExactOpsOf", vars := ["loop.example/g00547/impl.orderForms"], fn := fun _ => fun
  | [d1, d2, g1] => { results := [.lit (.bool false)], args := [d1, d2], vars := [g1] }
  | _ => none }
def FnExactOpsOfWrongFalsely : Prop := fnExactOpsOfRow.holds Tryd.pinned (OpenSpec.ofChange fnExactOpsOfWrong)

/-- 'laws.FnExactUnitSizes': WHATEVER THE INPUT: true; the input reads as it did. -/
def fnExactUnitSizesSpec : ChangeSpec := { name := "fnExactUnitSizes", vars := ["loop.example/g00547/impl.orderForms"], fn := fun _ => fun
  | [d, g1] => { results := [.lit (.bool true)], args := [d], vars := [g1] }
  | _ => none }
def fnExactUnitSizesRow : OpenClaim := { program := "ytpepikjcbgkcfaadoor", sum := "7490b4401bde73960dced7d4da3d47bc6048a85231cb553e228d1e3c9e553233", func := "loop.example/g00547/laws.FnExactUnitSizes", spec := "fnExactUnitSizes", unfollowed := true, recurses := true, named := ["loop.example/g00547/impl.orderForms"], apart := false, laid := [("loop.example/g00547/impl.orderForms", laid_loop_example_g00547_impl_orderForms)] }
def FnExactUnitSizesSaid : Prop := fnExactUnitSizesRow.holds Tryd.pinned (OpenSpec.ofChange fnExactUnitSizesSpec)

/-- ITS FALSE NEIGHBOUR: 'it returns false'. Refute it at one input. -/
def fnExactUnitSizesWrong : ChangeSpec := { name := "fnExactUnitSizes", vars := ["loop.example/g00547/impl.orderForms"], fn := fun _ => fun
  | [d, g1] => { results := [.lit (.bool false)], args := [d], vars := [g1] }
  | _ => none }
def FnExactUnitSizesWrongFalsely : Prop := fnExactUnitSizesRow.holds Tryd.pinned (OpenSpec.ofChange fnExactUnitSizesWrong)

/- THE SECOND FORM. 'bulk': how many values and letters a reading holds, each counted each time it is reached (what is shared counts as often as it is met; a slice's spare places count too). A statement '..UptoSaid' is the law's where the arguments, and the package variables that the reading takes, are together of bulk at most 1048576: NARROWER than '..Said'. Prove '..Said' where nothing that the law and all that it calls make is longer than what came in: it says more and counts as full. Else prove '..UptoSaid'. A law counts once. -/
mutual
def uptoBulk {H : Type} : DataW H → Nat
  | .lit (.string bytes) => bytes.length + 1
  | .lit _ => 1
  | .nil => 1
  | .ptr d => uptoBulk d + 1
  | .slice elems spare => uptoBulkAll elems + uptoBulkAll spare + 1
  | .agg parts => uptoBulkAll parts + 1
  | .iface _ d => uptoBulk d + 1
  | .map entries => uptoBulkEntries entries + 1
  | .held _ => 1
def uptoBulkAll {H : Type} : List (DataW H) → Nat
  | [] => 0
  | d :: r => uptoBulk d + uptoBulkAll r
def uptoBulkEntries {H : Type} : List (Lit × DataW H) → Nat
  | [] => 0
  | x :: r => uptoBulkEntry x + uptoBulkEntries r
def uptoBulkEntry {H : Type} : Lit × DataW H → Nat
  | (.string bytes, d) => bytes.length + uptoBulk d + 1
  | (_, d) => uptoBulk d + 1
 end
def uptoSmall : (H : Type) → List (DataW H) → Bool := fun _ ds => decide (uptoBulkAll ds ≤ 1048576)
def OpenSpec.upto (s : _root_.Go.ChangeSpec) : _root_.Go.OpenSpec := { _root_.Go.OpenSpec.ofChange s with cond := some uptoSmall }

/-- 'laws.FnExactCodeOk', WHERE WHAT IT READS IS OF BULK AT MOST 1048576: true; the input reads as it did. -/
def fnExactCodeOkUptoRow : OpenClaim := { program := "ytpepikjcbgkcfaadoor", sum := "7490b4401bde73960dced7d4da3d47bc6048a85231cb553e228d1e3c9e553233", func := "loop.example/g00547/laws.FnExactCodeOk", spec := "fnExactCodeOk", unfollowed := true, recurses := true, named := ["loop.example/g00547/impl.orderForms"], apart := false, laid := [("loop.example/g00547/impl.orderForms", laid_loop_example_g00547_impl_orderForms)], narrowed := true }
def FnExactCodeOkUptoSaid : Prop := fnExactCodeOkUptoRow.holds Tryd.pinned (OpenSpec.upto fnExactCodeOkSpec)

/-- 'laws.FnExactSizeOf', WHERE WHAT IT READS IS OF BULK AT MOST 1048576: true; the input reads as it did. -/
def fnExactSizeOfUptoRow : OpenClaim := { program := "ytpepikjcbgkcfaadoor", sum := "7490b4401bde73960dced7d4da3d47bc6048a85231cb553e228d1e3c9e553233", func := "loop.example/g00547/laws.FnExactSizeOf", spec := "fnExactSizeOf", unfollowed := true, recurses := true, named := ["loop.example/g00547/impl.orderForms"], apart := false, laid := [("loop.example/g00547/impl.orderForms", laid_loop_example_g00547_impl_orderForms)], narrowed := true }
def FnExactSizeOfUptoSaid : Prop := fnExactSizeOfUptoRow.holds Tryd.pinned (OpenSpec.upto fnExactSizeOfSpec)

/-- 'laws.FnExactOpsOf', WHERE WHAT IT READS IS OF BULK AT MOST 1048576: true; the input reads as it did. -/
def fnExactOpsOfUptoRow : OpenClaim := { program := "ytpepikjcbgkcfaadoor", sum := "7490b4401bde73960dced7d4da3d47bc6048a85231cb553e228d1e3c9e553233", func := "loop.example/g00547/laws.FnExactOpsOf", spec := "fnExactOpsOf", unfollowed := true, recurses := true, named := ["loop.example/g00547/impl.orderForms"], apart := false, laid := [("loop.example/g00547/impl.orderForms", laid_loop_example_g00547_impl_orderForms)], narrowed := true }
def FnExactOpsOfUptoSaid : Prop := fnExactOpsOfUptoRow.holds Tryd.pinned (OpenSpec.upto fnExactOpsOfSpec)

/-- 'laws.FnExactUnitSizes', WHERE WHAT IT READS IS OF BULK AT MOST 1048576: true; the input reads as it did. -/
def fnExactUnitSizesUptoRow : OpenClaim := { program := "ytpepikjcbgkcfaadoor", sum := "7490b4401bde73960dced7d4da3d47bc6048a85231cb553e228d1e3c9e553233", func := "loop.example/g00547/laws.FnExactUnitSizes", spec := "fnExactUnitSizes", unfollowed := true, recurses := true, named := ["loop.example/g00547/impl.orderForms"], apart := false, laid := [("loop.example/g00547/impl.orderForms", laid_loop_example_g00547_impl_orderForms)], narrowed := true }
def FnExactUnitSizesUptoSaid : Prop := fnExactUnitSizesUptoRow.holds Tryd.pinned (OpenSpec.upto fnExactUnitSizesSpec)

end Rows
end Go.Proofs.YtpepikjcbgkcfaaDoor
