/-
  DERIVED. GIVEN WITH THE SEED: THE CARDS: each row of YtpepikjcbgkcfaaDoorRows.lean that lists a variable, with what it lists TIED to the program's text (the seventh form; the later family's looks); each row that meets fmt, with fmt's text TOLD by the authors' own Lean function (tested against real Go, not proved from fmt's source: count such statements apart). THE CARD IS WHAT COUNTS. Prove the row's statement (the work); the ties are given (YtpepikjcbgkcfaaDoorTie.lean); close each card by the builder's one call (the guide's Derived/Test/ToyasCard.lean, 'card_holds'). Laid BY PROGRAM, IN A SANDBOX (cutbox-door.mjs). By AI agents, Wed Nov 11 2026. No macro, syntax, notation, axiom, sorry.
-/
import Derived.Test.YtpepikjcbgkcfaaDoorRows
import GoSem.ClaimSeven
namespace Go.Proofs.YtpepikjcbgkcfaaDoor
namespace Rows

/-- THE TIED CARD OF 'laws.FnExactCodeOk'. -/
def fnExactCodeOkCard : Claim7 := { stood := { row := fnExactCodeOkRow, standIns := [], harness := (true, "c6f9f9ea3c5594e4e5853431f370d5f3cc7a3f26ad4e9e792df632577b752595"), looks := false }, kinds := [], alts := [], laidByText := true, laidKinds := [.data], laidTests := true, laidLooks := .later }
def FnExactCodeOkCardSaid : Prop := Claim7.holds Tryd.pinned (.plain (OpenSpec.ofChange fnExactCodeOkSpec)) fnExactCodeOkCard

/-- THE TIED CARD OF 'laws.FnExactSizeOf'. -/
def fnExactSizeOfCard : Claim7 := { stood := { row := fnExactSizeOfRow, standIns := [], harness := (true, "c6f9f9ea3c5594e4e5853431f370d5f3cc7a3f26ad4e9e792df632577b752595"), looks := false }, kinds := [], alts := [], laidByText := true, laidKinds := [.data], laidTests := true, laidLooks := .later }
def FnExactSizeOfCardSaid : Prop := Claim7.holds Tryd.pinned (.plain (OpenSpec.ofChange fnExactSizeOfSpec)) fnExactSizeOfCard

/-- THE TIED CARD OF 'laws.FnExactOpsOf'. -/
def fnExactOpsOfCard : Claim7 := { stood := { row := fnExactOpsOfRow, standIns := [], harness := (true, "c6f9f9ea3c5594e4e5853431f370d5f3cc7a3f26ad4e9e792df632577b752595"), looks := false }, kinds := [], alts := [], laidByText := true, laidKinds := [.data], laidTests := true, laidLooks := .later }
def FnExactOpsOfCardSaid : Prop := Claim7.holds Tryd.pinned (.plain (OpenSpec.ofChange fnExactOpsOfSpec)) fnExactOpsOfCard

/-- THE TIED CARD OF 'laws.FnExactUnitSizes'. -/
def fnExactUnitSizesCard : Claim7 := { stood := { row := fnExactUnitSizesRow, standIns := [], harness := (true, "c6f9f9ea3c5594e4e5853431f370d5f3cc7a3f26ad4e9e792df632577b752595"), looks := false }, kinds := [], alts := [], laidByText := true, laidKinds := [.data], laidTests := true, laidLooks := .later }
def FnExactUnitSizesCardSaid : Prop := Claim7.holds Tryd.pinned (.plain (OpenSpec.ofChange fnExactUnitSizesSpec)) fnExactUnitSizesCard

/-- THE SECOND FORM's CARD OF 'laws.FnExactCodeOk'. -/
def fnExactCodeOkUptoCard : Claim7 := { stood := { row := fnExactCodeOkUptoRow, standIns := [], harness := (true, "c6f9f9ea3c5594e4e5853431f370d5f3cc7a3f26ad4e9e792df632577b752595"), looks := false }, kinds := [], alts := [], laidByText := true, laidKinds := [.data], laidTests := true, laidLooks := .later }
def FnExactCodeOkUptoCardSaid : Prop := Claim7.holds Tryd.pinned (.plain (OpenSpec.upto fnExactCodeOkSpec)) fnExactCodeOkUptoCard

/-- THE SECOND FORM's CARD OF 'laws.FnExactSizeOf'. -/
def fnExactSizeOfUptoCard : Claim7 := { stood := { row := fnExactSizeOfUptoRow, standIns := [], harness := (true, "c6f9f9ea3c5594e4e5853431f370d5f3cc7a3f26ad4e9e792df632577b752595"), looks := false }, kinds := [], alts := [], laidByText := true, laidKinds := [.data], laidTests := true, laidLooks := .later }
def FnExactSizeOfUptoCardSaid : Prop := Claim7.holds Tryd.pinned (.plain (OpenSpec.upto fnExactSizeOfSpec)) fnExactSizeOfUptoCard

/-- THE SECOND FORM's CARD OF 'laws.FnExactOpsOf'. -/
def fnExactOpsOfUptoCard : Claim7 := { stood := { row := fnExactOpsOfUptoRow, standIns := [], harness := (true, "c6f9f9ea3c5594e4e5853431f370d5f3cc7a3f26ad4e9e792df632577b752595"), looks := false }, kinds := [], alts := [], laidByText := true, laidKinds := [.data], laidTests := true, laidLooks := .later }
def FnExactOpsOfUptoCardSaid : Prop := Claim7.holds Tryd.pinned (.plain (OpenSpec.upto fnExactOpsOfSpec)) fnExactOpsOfUptoCard

/-- THE SECOND FORM's CARD OF 'laws.FnExactUnitSizes'. -/
def fnExactUnitSizesUptoCard : Claim7 := { stood := { row := fnExactUnitSizesUptoRow, standIns := [], harness := (true, "c6f9f9ea3c5594e4e5853431f370d5f3cc7a3f26ad4e9e792df632577b752595"), looks := false }, kinds := [], alts := [], laidByText := true, laidKinds := [.data], laidTests := true, laidLooks := .later }
def FnExactUnitSizesUptoCardSaid : Prop := Claim7.holds Tryd.pinned (.plain (OpenSpec.upto fnExactUnitSizesSpec)) fnExactUnitSizesUptoCard
end Rows
end Go.Proofs.YtpepikjcbgkcfaaDoor
