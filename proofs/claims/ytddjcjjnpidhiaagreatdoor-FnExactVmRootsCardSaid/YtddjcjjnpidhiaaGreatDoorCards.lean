/-
  DERIVED. GIVEN WITH THE SEED: THE CARDS: each row of YtddjcjjnpidhiaaGreatDoorRows.lean that lists a variable, with what it lists TIED to the program's text (the seventh form; the later family's looks); each row that meets fmt, with fmt's text TOLD by the authors' own Lean function (tested against real Go, not proved from fmt's source: count such statements apart). THE CARD IS WHAT COUNTS. Prove the row's statement (the work); the ties are given (YtddjcjjnpidhiaaGreatDoorTie.lean); close each card by the builder's one call (the guide's Derived/Test/ToyasCard.lean, 'card_holds'). Laid BY PROGRAM, IN A SANDBOX (cutbox-door.mjs). By AI agents, Wed Nov 11 2026. No macro, syntax, notation, axiom, sorry.
-/
import Derived.Test.YtddjcjjnpidhiaaGreatDoorRows
import GoSem.ClaimSeven
namespace Go.Proofs.YtddjcjjnpidhiaaGreatDoor
namespace Rows

/-- THE TIED CARD OF 'laws.FnExactVmOk'. -/
def fnExactVmOkCard : Claim7 := { stood := { row := fnExactVmOkRow, standIns := [], harness := (true, "83a5d1c7f5d6a40292444d0b512aab3984864c02b7cae7bcf640d715f52b8030"), looks := false }, kinds := [], alts := [], laidByText := true, laidKinds := [.data], laidTests := true, laidLooks := .later }
def FnExactVmOkCardSaid : Prop := Claim7.holds Tryz.pinned (.plain (OpenSpec.ofChange fnExactVmOkSpec)) fnExactVmOkCard

/-- THE TIED CARD OF 'laws.FnExactVmRoots'. -/
def fnExactVmRootsCard : Claim7 := { stood := { row := fnExactVmRootsRow, standIns := [], harness := (true, "83a5d1c7f5d6a40292444d0b512aab3984864c02b7cae7bcf640d715f52b8030"), looks := false }, kinds := [], alts := [], laidByText := true, laidKinds := [.data], laidTests := true, laidLooks := .later }
def FnExactVmRootsCardSaid : Prop := Claim7.holds Tryz.pinned (.plain (OpenSpec.ofChange fnExactVmRootsSpec)) fnExactVmRootsCard

/-- THE TIED CARD OF 'laws.FnExactDepth'. -/
def fnExactDepthCard : Claim7 := { stood := { row := fnExactDepthRow, standIns := [], harness := (true, "83a5d1c7f5d6a40292444d0b512aab3984864c02b7cae7bcf640d715f52b8030"), looks := false }, kinds := [], alts := [], laidByText := true, laidKinds := [.data], laidTests := true, laidLooks := .later }
def FnExactDepthCardSaid : Prop := Claim7.holds Tryz.pinned (.plain (OpenSpec.ofChange fnExactDepthSpec)) fnExactDepthCard

/-- THE TIED CARD OF 'laws.FnExactTopUnit'. -/
def fnExactTopUnitCard : Claim7 := { stood := { row := fnExactTopUnitRow, standIns := [], harness := (true, "83a5d1c7f5d6a40292444d0b512aab3984864c02b7cae7bcf640d715f52b8030"), looks := false }, kinds := [], alts := [], laidByText := true, laidKinds := [.data], laidTests := true, laidLooks := .later }
def FnExactTopUnitCardSaid : Prop := Claim7.holds Tryz.pinned (.plain (OpenSpec.ofChange fnExactTopUnitSpec)) fnExactTopUnitCard

/-- THE TIED CARD OF 'laws.FnExactRefRegs'. -/
def fnExactRefRegsCard : Claim7 := { stood := { row := fnExactRefRegsRow, standIns := [], harness := (true, "83a5d1c7f5d6a40292444d0b512aab3984864c02b7cae7bcf640d715f52b8030"), looks := false }, kinds := [], alts := [], laidByText := true, laidKinds := [.data], laidTests := true, laidLooks := .later }
def FnExactRefRegsCardSaid : Prop := Claim7.holds Tryz.pinned (.plain (OpenSpec.ofChange fnExactRefRegsSpec)) fnExactRefRegsCard

/-- THE SECOND FORM's CARD OF 'laws.FnExactVmOk'. -/
def fnExactVmOkUptoCard : Claim7 := { stood := { row := fnExactVmOkUptoRow, standIns := [], harness := (true, "83a5d1c7f5d6a40292444d0b512aab3984864c02b7cae7bcf640d715f52b8030"), looks := false }, kinds := [], alts := [], laidByText := true, laidKinds := [.data], laidTests := true, laidLooks := .later }
def FnExactVmOkUptoCardSaid : Prop := Claim7.holds Tryz.pinned (.plain (OpenSpec.upto fnExactVmOkSpec)) fnExactVmOkUptoCard

/-- THE SECOND FORM's CARD OF 'laws.FnExactVmRoots'. -/
def fnExactVmRootsUptoCard : Claim7 := { stood := { row := fnExactVmRootsUptoRow, standIns := [], harness := (true, "83a5d1c7f5d6a40292444d0b512aab3984864c02b7cae7bcf640d715f52b8030"), looks := false }, kinds := [], alts := [], laidByText := true, laidKinds := [.data], laidTests := true, laidLooks := .later }
def FnExactVmRootsUptoCardSaid : Prop := Claim7.holds Tryz.pinned (.plain (OpenSpec.upto fnExactVmRootsSpec)) fnExactVmRootsUptoCard

/-- THE SECOND FORM's CARD OF 'laws.FnExactDepth'. -/
def fnExactDepthUptoCard : Claim7 := { stood := { row := fnExactDepthUptoRow, standIns := [], harness := (true, "83a5d1c7f5d6a40292444d0b512aab3984864c02b7cae7bcf640d715f52b8030"), looks := false }, kinds := [], alts := [], laidByText := true, laidKinds := [.data], laidTests := true, laidLooks := .later }
def FnExactDepthUptoCardSaid : Prop := Claim7.holds Tryz.pinned (.plain (OpenSpec.upto fnExactDepthSpec)) fnExactDepthUptoCard

/-- THE SECOND FORM's CARD OF 'laws.FnExactTopUnit'. -/
def fnExactTopUnitUptoCard : Claim7 := { stood := { row := fnExactTopUnitUptoRow, standIns := [], harness := (true, "83a5d1c7f5d6a40292444d0b512aab3984864c02b7cae7bcf640d715f52b8030"), looks := false }, kinds := [], alts := [], laidByText := true, laidKinds := [.data], laidTests := true, laidLooks := .later }
def FnExactTopUnitUptoCardSaid : Prop := Claim7.holds Tryz.pinned (.plain (OpenSpec.upto fnExactTopUnitSpec)) fnExactTopUnitUptoCard

/-- THE SECOND FORM's CARD OF 'laws.FnExactRefRegs'. -/
def fnExactRefRegsUptoCard : Claim7 := { stood := { row := fnExactRefRegsUptoRow, standIns := [], harness := (true, "83a5d1c7f5d6a40292444d0b512aab3984864c02b7cae7bcf640d715f52b8030"), looks := false }, kinds := [], alts := [], laidByText := true, laidKinds := [.data], laidTests := true, laidLooks := .later }
def FnExactRefRegsUptoCardSaid : Prop := Claim7.holds Tryz.pinned (.plain (OpenSpec.upto fnExactRefRegsSpec)) fnExactRefRegsUptoCard
end Rows
end Go.Proofs.YtddjcjjnpidhiaaGreatDoor
