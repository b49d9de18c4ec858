/-
  DERIVED. GIVEN WITH THE SEED: THE CARDS: each row of YtlmhifdilmnlnaaDoorRows.lean that lists a variable, with what it lists TIED to the program's text (the seventh form; the later family's looks); each row that meets fmt, with fmt's text TOLD by the authors' own Lean function (tested against real Go, not proved from fmt's source: count such statements apart). THE CARD IS WHAT COUNTS. Prove the row's statement (the work); the ties are given (YtlmhifdilmnlnaaDoorTie.lean); close each card by the builder's one call (the guide's Derived/Test/ToyasCard.lean, 'card_holds'). Laid BY PROGRAM, IN A SANDBOX (cutbox-door.mjs). By AI agents, Wed Nov 11 2026. No macro, syntax, notation, axiom, sorry.
-/
import Derived.Test.YtlmhifdilmnlnaaDoorRows
import GoSem.ClaimSeven
namespace Go.Proofs.YtlmhifdilmnlnaaDoor
namespace Rows

/-- THE TIED CARD OF 'quittancelaw11.ProrateDues'. -/
def prorateDuesCard : Claim7 := { stood := { row := prorateDuesRow, standIns := [], harness := (true, "fd440465ceed19beb4b889f4212c4df85dc9c959ee0791374f6791f41c574433"), looks := false }, kinds := [], alts := [], laidByText := true, laidKinds := [.data], laidTests := true, laidLooks := .later }
def ProrateDuesCardSaid : Prop := Claim7.holds Tryd.pinned (.plain (OpenSpec.ofChange prorateDuesSpec)) prorateDuesCard

/-- THE TIED CARD OF 'quittancelaw11.ProrateChanges'. -/
def prorateChangesCard : Claim7 := { stood := { row := prorateChangesRow, standIns := [], harness := (true, "fd440465ceed19beb4b889f4212c4df85dc9c959ee0791374f6791f41c574433"), looks := false }, kinds := [], alts := [], laidByText := true, laidKinds := [.data], laidTests := true, laidLooks := .later }
def ProrateChangesCardSaid : Prop := Claim7.holds Tryd.pinned (.plain (OpenSpec.ofChange prorateChangesSpec)) prorateChangesCard

/-- THE TIED CARD OF 'quittancelaw11.ProrateMonths'. -/
def prorateMonthsCard : Claim7 := { stood := { row := prorateMonthsRow, standIns := [], harness := (true, "fd440465ceed19beb4b889f4212c4df85dc9c959ee0791374f6791f41c574433"), looks := false }, kinds := [], alts := [], laidByText := true, laidKinds := [.data], laidTests := true, laidLooks := .later }
def ProrateMonthsCardSaid : Prop := Claim7.holds Tryd.pinned (.plain (OpenSpec.ofChange prorateMonthsSpec)) prorateMonthsCard

/-- THE TIED CARD OF 'quittancelaw11.ProrateWhole'. -/
def prorateWholeCard : Claim7 := { stood := { row := prorateWholeRow, standIns := [], harness := (true, "fd440465ceed19beb4b889f4212c4df85dc9c959ee0791374f6791f41c574433"), looks := false }, kinds := [], alts := [], laidByText := true, laidKinds := [.data], laidTests := true, laidLooks := .later }
def ProrateWholeCardSaid : Prop := Claim7.holds Tryd.pinned (.plain (OpenSpec.ofChange prorateWholeSpec)) prorateWholeCard

/-- THE TIED CARD OF 'quittancelaw11.ProrateSides'. -/
def prorateSidesCard : Claim7 := { stood := { row := prorateSidesRow, standIns := [], harness := (true, "fd440465ceed19beb4b889f4212c4df85dc9c959ee0791374f6791f41c574433"), looks := false }, kinds := [], alts := [], laidByText := true, laidKinds := [.data], laidTests := true, laidLooks := .later }
def ProrateSidesCardSaid : Prop := Claim7.holds Tryd.pinned (.plain (OpenSpec.ofChange prorateSidesSpec)) prorateSidesCard

/-- THE TIED CARD OF 'quittancelaw11.ProrateTerm'. -/
def prorateTermCard : Claim7 := { stood := { row := prorateTermRow, standIns := [], harness := (true, "fd440465ceed19beb4b889f4212c4df85dc9c959ee0791374f6791f41c574433"), looks := false }, kinds := [], alts := [], laidByText := true, laidKinds := [.data], laidTests := true, laidLooks := .later }
def ProrateTermCardSaid : Prop := Claim7.holds Tryd.pinned (.plain (OpenSpec.ofChange prorateTermSpec)) prorateTermCard

/-- THE TIED CARD OF 'quittancelaw09.AnchorAts'. -/
def anchorAtsCard : Claim7 := { stood := { row := anchorAtsRow, standIns := [], harness := (true, "fd440465ceed19beb4b889f4212c4df85dc9c959ee0791374f6791f41c574433"), looks := false }, kinds := [], alts := [], laidByText := true, laidKinds := [.data], laidTests := true, laidLooks := .later }
def AnchorAtsCardSaid : Prop := Claim7.holds Tryd.pinned (.plain (OpenSpec.ofChange anchorAtsSpec)) anchorAtsCard

/-- THE TIED CARD OF 'quittancelaw09.AnchorBounds'. -/
def anchorBoundsCard : Claim7 := { stood := { row := anchorBoundsRow, standIns := [], harness := (true, "fd440465ceed19beb4b889f4212c4df85dc9c959ee0791374f6791f41c574433"), looks := false }, kinds := [], alts := [], laidByText := true, laidKinds := [.data], laidTests := true, laidLooks := .later }
def AnchorBoundsCardSaid : Prop := Claim7.holds Tryd.pinned (.plain (OpenSpec.ofChange anchorBoundsSpec)) anchorBoundsCard

/-- THE TIED CARD OF 'quittancelaw09.AnchorFinds'. -/
def anchorFindsCard : Claim7 := { stood := { row := anchorFindsRow, standIns := [], harness := (true, "fd440465ceed19beb4b889f4212c4df85dc9c959ee0791374f6791f41c574433"), looks := false }, kinds := [], alts := [], laidByText := true, laidKinds := [.data], laidTests := true, laidLooks := .later }
def AnchorFindsCardSaid : Prop := Claim7.holds Tryd.pinned (.plain (OpenSpec.ofChange anchorFindsSpec)) anchorFindsCard

/-- THE TIED CARD OF 'quittancelaw09.AnchorRises'. -/
def anchorRisesCard : Claim7 := { stood := { row := anchorRisesRow, standIns := [], harness := (true, "fd440465ceed19beb4b889f4212c4df85dc9c959ee0791374f6791f41c574433"), looks := false }, kinds := [], alts := [], laidByText := true, laidKinds := [.data], laidTests := true, laidLooks := .later }
def AnchorRisesCardSaid : Prop := Claim7.holds Tryd.pinned (.plain (OpenSpec.ofChange anchorRisesSpec)) anchorRisesCard

/-- THE TIED CARD OF 'quittancelaw09.AnchorLong'. -/
def anchorLongCard : Claim7 := { stood := { row := anchorLongRow, standIns := [], harness := (true, "fd440465ceed19beb4b889f4212c4df85dc9c959ee0791374f6791f41c574433"), looks := false }, kinds := [], alts := [], laidByText := true, laidKinds := [.data], laidTests := true, laidLooks := .later }
def AnchorLongCardSaid : Prop := Claim7.holds Tryd.pinned (.plain (OpenSpec.ofChange anchorLongSpec)) anchorLongCard

/-- THE SECOND FORM's CARD OF 'quittancelaw11.ProrateDues'. -/
def prorateDuesUptoCard : Claim7 := { stood := { row := prorateDuesUptoRow, standIns := [], harness := (true, "fd440465ceed19beb4b889f4212c4df85dc9c959ee0791374f6791f41c574433"), looks := false }, kinds := [], alts := [], laidByText := true, laidKinds := [.data], laidTests := true, laidLooks := .later }
def ProrateDuesUptoCardSaid : Prop := Claim7.holds Tryd.pinned (.plain (OpenSpec.upto prorateDuesSpec)) prorateDuesUptoCard

/-- THE SECOND FORM's CARD OF 'quittancelaw11.ProrateChanges'. -/
def prorateChangesUptoCard : Claim7 := { stood := { row := prorateChangesUptoRow, standIns := [], harness := (true, "fd440465ceed19beb4b889f4212c4df85dc9c959ee0791374f6791f41c574433"), looks := false }, kinds := [], alts := [], laidByText := true, laidKinds := [.data], laidTests := true, laidLooks := .later }
def ProrateChangesUptoCardSaid : Prop := Claim7.holds Tryd.pinned (.plain (OpenSpec.upto prorateChangesSpec)) prorateChangesUptoCard

/-- THE SECOND FORM's CARD OF 'quittancelaw11.ProrateMonths'. -/
def prorateMonthsUptoCard : Claim7 := { stood := { row := prorateMonthsUptoRow, standIns := [], harness := (true, "fd440465ceed19beb4b889f4212c4df85dc9c959ee0791374f6791f41c574433"), looks := false }, kinds := [], alts := [], laidByText := true, laidKinds := [.data], laidTests := true, laidLooks := .later }
def ProrateMonthsUptoCardSaid : Prop := Claim7.holds Tryd.pinned (.plain (OpenSpec.upto prorateMonthsSpec)) prorateMonthsUptoCard

/-- THE SECOND FORM's CARD OF 'quittancelaw11.ProrateWhole'. -/
def prorateWholeUptoCard : Claim7 := { stood := { row := prorateWholeUptoRow, standIns := [], harness := (true, "fd440465ceed19beb4b889f4212c4df85dc9c959ee0791374f6791f41c574433"), looks := false }, kinds := [], alts := [], laidByText := true, laidKinds := [.data], laidTests := true, laidLooks := .later }
def ProrateWholeUptoCardSaid : Prop := Claim7.holds Tryd.pinned (.plain (OpenSpec.upto prorateWholeSpec)) prorateWholeUptoCard

/-- THE SECOND FORM's CARD OF 'quittancelaw11.ProrateSides'. -/
def prorateSidesUptoCard : Claim7 := { stood := { row := prorateSidesUptoRow, standIns := [], harness := (true, "fd440465ceed19beb4b889f4212c4df85dc9c959ee0791374f6791f41c574433"), looks := false }, kinds := [], alts := [], laidByText := true, laidKinds := [.data], laidTests := true, laidLooks := .later }
def ProrateSidesUptoCardSaid : Prop := Claim7.holds Tryd.pinned (.plain (OpenSpec.upto prorateSidesSpec)) prorateSidesUptoCard

/-- THE SECOND FORM's CARD OF 'quittancelaw11.ProrateTerm'. -/
def prorateTermUptoCard : Claim7 := { stood := { row := prorateTermUptoRow, standIns := [], harness := (true, "fd440465ceed19beb4b889f4212c4df85dc9c959ee0791374f6791f41c574433"), looks := false }, kinds := [], alts := [], laidByText := true, laidKinds := [.data], laidTests := true, laidLooks := .later }
def ProrateTermUptoCardSaid : Prop := Claim7.holds Tryd.pinned (.plain (OpenSpec.upto prorateTermSpec)) prorateTermUptoCard

/-- THE SECOND FORM's CARD OF 'quittancelaw09.AnchorAts'. -/
def anchorAtsUptoCard : Claim7 := { stood := { row := anchorAtsUptoRow, standIns := [], harness := (true, "fd440465ceed19beb4b889f4212c4df85dc9c959ee0791374f6791f41c574433"), looks := false }, kinds := [], alts := [], laidByText := true, laidKinds := [.data], laidTests := true, laidLooks := .later }
def AnchorAtsUptoCardSaid : Prop := Claim7.holds Tryd.pinned (.plain (OpenSpec.upto anchorAtsSpec)) anchorAtsUptoCard

/-- THE SECOND FORM's CARD OF 'quittancelaw09.AnchorBounds'. -/
def anchorBoundsUptoCard : Claim7 := { stood := { row := anchorBoundsUptoRow, standIns := [], harness := (true, "fd440465ceed19beb4b889f4212c4df85dc9c959ee0791374f6791f41c574433"), looks := false }, kinds := [], alts := [], laidByText := true, laidKinds := [.data], laidTests := true, laidLooks := .later }
def AnchorBoundsUptoCardSaid : Prop := Claim7.holds Tryd.pinned (.plain (OpenSpec.upto anchorBoundsSpec)) anchorBoundsUptoCard

/-- THE SECOND FORM's CARD OF 'quittancelaw09.AnchorFinds'. -/
def anchorFindsUptoCard : Claim7 := { stood := { row := anchorFindsUptoRow, standIns := [], harness := (true, "fd440465ceed19beb4b889f4212c4df85dc9c959ee0791374f6791f41c574433"), looks := false }, kinds := [], alts := [], laidByText := true, laidKinds := [.data], laidTests := true, laidLooks := .later }
def AnchorFindsUptoCardSaid : Prop := Claim7.holds Tryd.pinned (.plain (OpenSpec.upto anchorFindsSpec)) anchorFindsUptoCard

/-- THE SECOND FORM's CARD OF 'quittancelaw09.AnchorRises'. -/
def anchorRisesUptoCard : Claim7 := { stood := { row := anchorRisesUptoRow, standIns := [], harness := (true, "fd440465ceed19beb4b889f4212c4df85dc9c959ee0791374f6791f41c574433"), looks := false }, kinds := [], alts := [], laidByText := true, laidKinds := [.data], laidTests := true, laidLooks := .later }
def AnchorRisesUptoCardSaid : Prop := Claim7.holds Tryd.pinned (.plain (OpenSpec.upto anchorRisesSpec)) anchorRisesUptoCard

/-- THE SECOND FORM's CARD OF 'quittancelaw09.AnchorLong'. -/
def anchorLongUptoCard : Claim7 := { stood := { row := anchorLongUptoRow, standIns := [], harness := (true, "fd440465ceed19beb4b889f4212c4df85dc9c959ee0791374f6791f41c574433"), looks := false }, kinds := [], alts := [], laidByText := true, laidKinds := [.data], laidTests := true, laidLooks := .later }
def AnchorLongUptoCardSaid : Prop := Claim7.holds Tryd.pinned (.plain (OpenSpec.upto anchorLongSpec)) anchorLongUptoCard
end Rows
end Go.Proofs.YtlmhifdilmnlnaaDoor
