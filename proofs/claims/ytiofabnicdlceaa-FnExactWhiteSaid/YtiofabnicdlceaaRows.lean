/-
  No cell of these rows narrows 'for every input' (looked for: loops, veiled, ifaces, maps, wideKeys, modest, calm, conditions, laid).
  DERIVED. THE GIVEN ROWS OF THIS SEAT. 5 by the template 'for every input the law returns true; each argument reads behind the call as it read before'; 0 by the template 'total and deterministic' (their statements: YtiofabnicdlceaaTotals.lean).
  GIVEN WITH THE SEED: the statements are not yours to turn. If you find one false, say at which input.
  Laid BY PROGRAM, IN A SANDBOX (cutbox-rows.mjs): the forced cells as the released guide's own fill.sh prints them over the translation f4e275e0839723c6… (all of the seat's roots in one cut). By AI agents, Wed Nov 11 2026. No macro, syntax, notation, axiom, sorry.
-/
import Derived.Test.YtiofabnicdlceaaChecked
import GoSem.Claim
import GoSem.ClaimJoined
import GoSem.ClaimMapViews
import Derived.JoinedTies
import Derived.KernelRfl
namespace Go.Proofs.Ytiofabnicdlceaa
/- THE CELL 'sum', in the pinned program and in every row, IS THE sha256 OF THE DUMP (.gsa) THAT YtiofabnicdlceaaProg.lean LOADS. Nothing in Lean hashes anything: it is a label: what it is worth is what the hold of that sum in a sandbox is worth. -/
noncomputable def Try.pinned : Pinned := { name := "ytiofabnicdlceaa", sum := "f4e275e0839723c6f5f2a07abf1ae689df8adef527c185e0dfe4e96fece90320", checked := Try.checked }
namespace Rows
def none {H : Type} : Left H := { results := [], args := [] }

/-- 'laws.FnExactGarbage': WHATEVER THE INPUT: true; the input reads as it did. -/
def fnExactGarbageSpec : ChangeSpec := { name := "fnExactGarbage", fn := fun _ => fun
  | [d1, d2] => { results := [.lit (.bool true)], args := [d1, d2] }
  | _ => none }
def fnExactGarbageRow : OpenClaim := { program := "ytiofabnicdlceaa", sum := "f4e275e0839723c6f5f2a07abf1ae689df8adef527c185e0dfe4e96fece90320", func := "loop.example/g00547/laws.FnExactGarbage", spec := "fnExactGarbage", inPlace := ["slices.overlaps[int]", "internal/bytealg.Compare"], unfollowed := true, recurses := true, apart := false }
def FnExactGarbageSaid : Prop := fnExactGarbageRow.holds Try.pinned (OpenSpec.ofChange fnExactGarbageSpec)

/-- ITS FALSE NEIGHBOUR: 'it returns false'. Refute it at one input. -/
def fnExactGarbageWrong : ChangeSpec := { name := "fnExactGarbage", fn := fun _ => fun
  | [d1, d2] => { results := [.lit (.bool false)], args := [d1, d2] }
  | _ => none }
def FnExactGarbageWrongFalsely : Prop := fnExactGarbageRow.holds Try.pinned (OpenSpec.ofChange fnExactGarbageWrong)

/-- 'laws.FnExactGray': WHATEVER THE INPUT: true; the input reads as it did. -/
def fnExactGraySpec : ChangeSpec := { name := "fnExactGray", fn := fun _ => fun
  | [d] => { results := [.lit (.bool true)], args := [d] }
  | _ => none }
def fnExactGrayRow : OpenClaim := { program := "ytiofabnicdlceaa", sum := "f4e275e0839723c6f5f2a07abf1ae689df8adef527c185e0dfe4e96fece90320", func := "loop.example/g00547/laws.FnExactGray", spec := "fnExactGray", inPlace := ["slices.overlaps[int]", "internal/bytealg.Compare"], unfollowed := true, recurses := true, apart := false }
def FnExactGraySaid : Prop := fnExactGrayRow.holds Try.pinned (OpenSpec.ofChange fnExactGraySpec)

/-- ITS FALSE NEIGHBOUR: 'it returns false'. Refute it at one input. -/
def fnExactGrayWrong : ChangeSpec := { name := "fnExactGray", fn := fun _ => fun
  | [d] => { results := [.lit (.bool false)], args := [d] }
  | _ => none }
def FnExactGrayWrongFalsely : Prop := fnExactGrayRow.holds Try.pinned (OpenSpec.ofChange fnExactGrayWrong)

/-- 'laws.FnExactTrial': WHATEVER THE INPUT: true; the input reads as it did. -/
def fnExactTrialSpec : ChangeSpec := { name := "fnExactTrial", fn := fun _ => fun
  | [d] => { results := [.lit (.bool true)], args := [d] }
  | _ => none }
def fnExactTrialRow : OpenClaim := { program := "ytiofabnicdlceaa", sum := "f4e275e0839723c6f5f2a07abf1ae689df8adef527c185e0dfe4e96fece90320", func := "loop.example/g00547/laws.FnExactTrial", spec := "fnExactTrial", inPlace := ["slices.overlaps[int]", "internal/bytealg.Compare"], unfollowed := true, recurses := true, apart := false }
def FnExactTrialSaid : Prop := fnExactTrialRow.holds Try.pinned (OpenSpec.ofChange fnExactTrialSpec)

/-- ITS FALSE NEIGHBOUR: 'it returns false'. Refute it at one input. -/
def fnExactTrialWrong : ChangeSpec := { name := "fnExactTrial", fn := fun _ => fun
  | [d] => { results := [.lit (.bool false)], args := [d] }
  | _ => none }
def FnExactTrialWrongFalsely : Prop := fnExactTrialRow.holds Try.pinned (OpenSpec.ofChange fnExactTrialWrong)

/-- 'laws.FnExactWhite': WHATEVER THE INPUT: true; the input reads as it did. -/
def fnExactWhiteSpec : ChangeSpec := { name := "fnExactWhite", fn := fun _ => fun
  | [d] => { results := [.lit (.bool true)], args := [d] }
  | _ => none }
def fnExactWhiteRow : OpenClaim := { program := "ytiofabnicdlceaa", sum := "f4e275e0839723c6f5f2a07abf1ae689df8adef527c185e0dfe4e96fece90320", func := "loop.example/g00547/laws.FnExactWhite", spec := "fnExactWhite", inPlace := ["slices.overlaps[int]", "internal/bytealg.Compare"], unfollowed := true, recurses := true, apart := false }
def FnExactWhiteSaid : Prop := fnExactWhiteRow.holds Try.pinned (OpenSpec.ofChange fnExactWhiteSpec)

/-- ITS FALSE NEIGHBOUR: 'it returns false'. Refute it at one input. -/
def fnExactWhiteWrong : ChangeSpec := { name := "fnExactWhite", fn := fun _ => fun
  | [d] => { results := [.lit (.bool false)], args := [d] }
  | _ => none }
def FnExactWhiteWrongFalsely : Prop := fnExactWhiteRow.holds Try.pinned (OpenSpec.ofChange fnExactWhiteWrong)

/-- 'laws.FnExactDrain': WHATEVER THE INPUT: true; the input reads as it did. -/
def fnExactDrainSpec : ChangeSpec := { name := "fnExactDrain", fn := fun _ => fun
  | [d] => { results := [.lit (.bool true)], args := [d] }
  | _ => none }
def fnExactDrainRow : OpenClaim := { program := "ytiofabnicdlceaa", sum := "f4e275e0839723c6f5f2a07abf1ae689df8adef527c185e0dfe4e96fece90320", func := "loop.example/g00547/laws.FnExactDrain", spec := "fnExactDrain", inPlace := ["slices.overlaps[int]", "internal/bytealg.Compare"], unfollowed := true, recurses := true, apart := false }
def FnExactDrainSaid : Prop := fnExactDrainRow.holds Try.pinned (OpenSpec.ofChange fnExactDrainSpec)

/-- ITS FALSE NEIGHBOUR: 'it returns false'. Refute it at one input. -/
def fnExactDrainWrong : ChangeSpec := { name := "fnExactDrain", fn := fun _ => fun
  | [d] => { results := [.lit (.bool false)], args := [d] }
  | _ => none }
def FnExactDrainWrongFalsely : Prop := fnExactDrainRow.holds Try.pinned (OpenSpec.ofChange fnExactDrainWrong)

/- THE SECOND FORM. 'bulk': how many values and letters a reading holds, each counted each time it is reached (what is shared counts as often as it is met; a slice's spare places count too). A statement '..UptoSaid' is the law's where the arguments, and the package variables that the reading takes, are together of bulk at most 1048576: NARROWER than '..Said'. Prove '..Said' where nothing that the law and all that it calls make is longer than what came in: it says more and counts as full. Else prove '..UptoSaid'. A law counts once. -/
mutual
def uptoBulk {H : Type} : DataW H → Nat
  | .lit (.string bytes) => bytes.length + 1
  | .lit _ => 1
  | .nil => 1
  | .ptr d => uptoBulk d + 1
  | .slice elems spare => uptoBulkAll elems + uptoBulkAll spare + 1
  | .agg parts => uptoBulkAll parts + 1
  | .iface _ d => uptoBulk d + 1
  | .map entries => uptoBulkEntries entries + 1
  | .held _ => 1
def uptoBulkAll {H : Type} : List (DataW H) → Nat
  | [] => 0
  | d :: r => uptoBulk d + uptoBulkAll r
def uptoBulkEntries {H : Type} : List (Lit × DataW H) → Nat
  | [] => 0
  | x :: r => uptoBulkEntry x + uptoBulkEntries r
def uptoBulkEntry {H : Type} : Lit × DataW H → Nat
  | (.string bytes, d) => bytes.length + uptoBulk d + 1
  | (_, d) => uptoBulk d + 1
 end
def uptoSmall : (H : Type) → List (DataW H) → Bool := fun _ ds => decide (uptoBulkAll ds ≤ 1048576)
def OpenSpec.upto (s : _root_.Go.ChangeSpec) : _root_.Go.OpenSpec := { _root_.Go.OpenSpec.ofChange s with cond := some uptoSmall }

/-- 'laws.FnExactGarbage', WHERE WHAT IT READS IS OF BULK AT MOST 1048576: true; the input reads as it did. -/
def fnExactGarbageUptoRow : OpenClaim := { program := "ytiofabnicdlceaa", sum := "f4e275e0839723c6f5f2a07abf1ae689df8adef527c185e0dfe4e96fece90320", func := "loop.example/g00547/laws.FnExactGarbage", spec := "fnExactGarbage", inPlace := ["slices.overlaps[int]", "internal/bytealg.Compare"], unfollowed := true, recurses := true, apart := false, narrowed := true }
def FnExactGarbageUptoSaid : Prop := fnExactGarbageUptoRow.holds Try.pinned (OpenSpec.upto fnExactGarbageSpec)

/-- 'laws.FnExactGray', WHERE WHAT IT READS IS OF BULK AT MOST 1048576: true; the input reads as it did. -/
def fnExactGrayUptoRow : OpenClaim := { program := "ytiofabnicdlceaa", sum := "f4e275e0839723c6f5f2a07abf1ae689df8adef527c185e0dfe4e96fece90320", func := "loop.example/g00547/laws.FnExactGray", spec := "fnExactGray", inPlace := ["slices.overlaps[int]", "internal/bytealg.Compare"], unfollowed := true, recurses := true, apart := false, narrowed := true }
def FnExactGrayUptoSaid : Prop := fnExactGrayUptoRow.holds Try.pinned (OpenSpec.upto fnExactGraySpec)

/-- 'laws.FnExactTrial', WHERE WHAT IT READS IS OF BULK AT MOST 1048576: true; the input reads as it did. -/
def fnExactTrialUptoRow : OpenClaim := { program := "ytiofabnicdlceaa", sum := "f4e275e0839723c6f5f2a07abf1ae689df8adef527c185e0dfe4e96fece90320", func := "loop.example/g00547/laws.FnExactTrial", spec := "fnExactTrial", inPlace := ["slices.overlaps[int]", "internal/bytealg.Compare"], unfollowed := true, recurses := true, apart := false, narrowed := true }
def FnExactTrialUptoSaid : Prop := fnExactTrialUptoRow.holds Try.pinned (OpenSpec.upto fnExactTrialSpec)

/-- 'laws.FnExactWhite', WHERE WHAT IT READS IS OF BULK AT MOST 1048576: true; the input reads as it did. -/
def fnExactWhiteUptoRow : OpenClaim := { program := "ytiofabnicdlceaa", sum := "f4e275e0839723c6f5f2a07abf1ae689df8adef527c185e0dfe4e96fece90320", func := "loop.example/g00547/laws.FnExactWhite", spec := "fnExactWhite", inPlace := ["slices.overlaps[int]", "internal/bytealg.Compare"], unfollowed := true, recurses := true, apart := false, narrowed := true }
def FnExactWhiteUptoSaid : Prop := fnExactWhiteUptoRow.holds Try.pinned (OpenSpec.upto fnExactWhiteSpec)

/-- 'laws.FnExactDrain', WHERE WHAT IT READS IS OF BULK AT MOST 1048576: true; the input reads as it did. -/
def fnExactDrainUptoRow : OpenClaim := { program := "ytiofabnicdlceaa", sum := "f4e275e0839723c6f5f2a07abf1ae689df8adef527c185e0dfe4e96fece90320", func := "loop.example/g00547/laws.FnExactDrain", spec := "fnExactDrain", inPlace := ["slices.overlaps[int]", "internal/bytealg.Compare"], unfollowed := true, recurses := true, apart := false, narrowed := true }
def FnExactDrainUptoSaid : Prop := fnExactDrainUptoRow.holds Try.pinned (OpenSpec.upto fnExactDrainSpec)

end Rows
end Go.Proofs.Ytiofabnicdlceaa
