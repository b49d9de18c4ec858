/-
  DERIVED. GIVEN WITH THE SEED: THE CARDS: each row of YtkgjbidkdbjfpaaDoorRows.lean that lists a variable, with what it lists TIED to the program's text (the seventh form; the later family's looks); each row that meets fmt, with fmt's text TOLD by the authors' own Lean function (tested against real Go, not proved from fmt's source: count such statements apart). THE CARD IS WHAT COUNTS. Prove the row's statement (the work); the ties are given (YtkgjbidkdbjfpaaDoorTie.lean); close each card by the builder's one call (the guide's Derived/Test/ToyasCard.lean, 'card_holds'). Laid BY PROGRAM, IN A SANDBOX (cutbox-door.mjs). By AI agents, Wed Nov 11 2026. No macro, syntax, notation, axiom, sorry.
-/
import Derived.Test.YtkgjbidkdbjfpaaDoorRows
import GoSem.ClaimSeven
namespace Go.Proofs.YtkgjbidkdbjfpaaDoor
namespace Rows

/-- THE TIED CARD OF 'quittancelaw09.AnchorAts'. -/
def anchorAtsCard : Claim7 := { stood := { row := anchorAtsRow, standIns := [], harness := (true, "168892420e5987c788a19b5e9abcf4b73f3d9bb242647c2da7dbe19ae88149d6"), looks := false }, kinds := [], alts := [], laidByText := true, laidKinds := [.data], laidTests := true, laidLooks := .later }
def AnchorAtsCardSaid : Prop := Claim7.holds Tryd.pinned (.plain (OpenSpec.ofChange anchorAtsSpec)) anchorAtsCard

/-- THE TIED CARD OF 'quittancelaw09.AnchorBounds'. -/
def anchorBoundsCard : Claim7 := { stood := { row := anchorBoundsRow, standIns := [], harness := (true, "168892420e5987c788a19b5e9abcf4b73f3d9bb242647c2da7dbe19ae88149d6"), looks := false }, kinds := [], alts := [], laidByText := true, laidKinds := [.data], laidTests := true, laidLooks := .later }
def AnchorBoundsCardSaid : Prop := Claim7.holds Tryd.pinned (.plain (OpenSpec.ofChange anchorBoundsSpec)) anchorBoundsCard

/-- THE TIED CARD OF 'quittancelaw09.AnchorFinds'. -/
def anchorFindsCard : Claim7 := { stood := { row := anchorFindsRow, standIns := [], harness := (true, "168892420e5987c788a19b5e9abcf4b73f3d9bb242647c2da7dbe19ae88149d6"), looks := false }, kinds := [], alts := [], laidByText := true, laidKinds := [.data], laidTests := true, laidLooks := .later }
def AnchorFindsCardSaid : Prop := Claim7.holds Tryd.pinned (.plain (OpenSpec.ofChange anchorFindsSpec)) anchorFindsCard

/-- THE TIED CARD OF 'quittancelaw09.AnchorRises'. -/
def anchorRisesCard : Claim7 := { stood := { row := anchorRisesRow, standIns := [], harness := (true, "168892420e5987c788a19b5e9abcf4b73f3d9bb242647c2da7dbe19ae88149d6"), looks := false }, kinds := [], alts := [], laidByText := true, laidKinds := [.data], laidTests := true, laidLooks := .later }
def AnchorRisesCardSaid : Prop := Claim7.holds Tryd.pinned (.plain (OpenSpec.ofChange anchorRisesSpec)) anchorRisesCard

/-- THE TIED CARD OF 'quittancelaw09.AnchorLong'. -/
def anchorLongCard : Claim7 := { stood := { row := anchorLongRow, standIns := [], harness := (true, "168892420e5987c788a19b5e9abcf4b73f3d9bb242647c2da7dbe19ae88149d6"), looks := false }, kinds := [], alts := [], laidByText := true, laidKinds := [.data], laidTests := true, laidLooks := .later }
def AnchorLongCardSaid : Prop := Claim7.holds Tryd.pinned (.plain (OpenSpec.ofChange anchorLongSpec)) anchorLongCard

/-- THE TIED CARD OF 'quittancelaw24.InvoicesTell'. -/
def invoicesTellCard : Claim7 := { stood := { row := invoicesTellRow, standIns := [], harness := (true, "168892420e5987c788a19b5e9abcf4b73f3d9bb242647c2da7dbe19ae88149d6"), looks := false }, kinds := [], alts := [], laidByText := true, laidKinds := [.data], laidTests := true, laidLooks := .later }
def InvoicesTellCardSaid : Prop := Claim7.holds Tryd.pinned (.plain (OpenSpec.ofChange invoicesTellSpec)) invoicesTellCard

/-- THE TIED CARD OF 'quittancelaw24.InvoicesAge'. -/
def invoicesAgeCard : Claim7 := { stood := { row := invoicesAgeRow, standIns := [], harness := (true, "168892420e5987c788a19b5e9abcf4b73f3d9bb242647c2da7dbe19ae88149d6"), looks := false }, kinds := [], alts := [], laidByText := true, laidKinds := [.data], laidTests := true, laidLooks := .later }
def InvoicesAgeCardSaid : Prop := Claim7.holds Tryd.pinned (.plain (OpenSpec.ofChange invoicesAgeSpec)) invoicesAgeCard

/-- THE TIED CARD OF 'quittancelaw24.InvoicesWhole'. -/
def invoicesWholeCard : Claim7 := { stood := { row := invoicesWholeRow, standIns := [], harness := (true, "168892420e5987c788a19b5e9abcf4b73f3d9bb242647c2da7dbe19ae88149d6"), looks := false }, kinds := [], alts := [], laidByText := true, laidKinds := [.data], laidTests := true, laidLooks := .later }
def InvoicesWholeCardSaid : Prop := Claim7.holds Tryd.pinned (.plain (OpenSpec.ofChange invoicesWholeSpec)) invoicesWholeCard

/-- THE TIED CARD OF 'quittancelaw24.InvoicesOlder'. -/
def invoicesOlderCard : Claim7 := { stood := { row := invoicesOlderRow, standIns := [], harness := (true, "168892420e5987c788a19b5e9abcf4b73f3d9bb242647c2da7dbe19ae88149d6"), looks := false }, kinds := [], alts := [], laidByText := true, laidKinds := [.data], laidTests := true, laidLooks := .later }
def InvoicesOlderCardSaid : Prop := Claim7.holds Tryd.pinned (.plain (OpenSpec.ofChange invoicesOlderSpec)) invoicesOlderCard

/-- THE TIED CARD OF 'quittancelaw27.DunningRuns'. -/
def dunningRunsCard : Claim7 := { stood := { row := dunningRunsRow, standIns := [], harness := (true, "168892420e5987c788a19b5e9abcf4b73f3d9bb242647c2da7dbe19ae88149d6"), looks := false }, kinds := [], alts := [], laidByText := true, laidKinds := [.data], laidTests := true, laidLooks := .later }
def DunningRunsCardSaid : Prop := Claim7.holds Tryd.pinned (.plain (OpenSpec.ofChange dunningRunsSpec)) dunningRunsCard

/-- THE TIED CARD OF 'quittancelaw27.DunningStages'. -/
def dunningStagesCard : Claim7 := { stood := { row := dunningStagesRow, standIns := [], harness := (true, "168892420e5987c788a19b5e9abcf4b73f3d9bb242647c2da7dbe19ae88149d6"), looks := false }, kinds := [], alts := [], laidByText := true, laidKinds := [.data], laidTests := true, laidLooks := .later }
def DunningStagesCardSaid : Prop := Claim7.holds Tryd.pinned (.plain (OpenSpec.ofChange dunningStagesSpec)) dunningStagesCard

/-- THE TIED CARD OF 'quittancelaw27.DunningAgain'. -/
def dunningAgainCard : Claim7 := { stood := { row := dunningAgainRow, standIns := [], harness := (true, "168892420e5987c788a19b5e9abcf4b73f3d9bb242647c2da7dbe19ae88149d6"), looks := false }, kinds := [], alts := [], laidByText := true, laidKinds := [.data], laidTests := true, laidLooks := .later }
def DunningAgainCardSaid : Prop := Claim7.holds Tryd.pinned (.plain (OpenSpec.ofChange dunningAgainSpec)) dunningAgainCard

/-- THE SECOND FORM's CARD OF 'quittancelaw09.AnchorAts'. -/
def anchorAtsUptoCard : Claim7 := { stood := { row := anchorAtsUptoRow, standIns := [], harness := (true, "168892420e5987c788a19b5e9abcf4b73f3d9bb242647c2da7dbe19ae88149d6"), looks := false }, kinds := [], alts := [], laidByText := true, laidKinds := [.data], laidTests := true, laidLooks := .later }
def AnchorAtsUptoCardSaid : Prop := Claim7.holds Tryd.pinned (.plain (OpenSpec.upto anchorAtsSpec)) anchorAtsUptoCard

/-- THE SECOND FORM's CARD OF 'quittancelaw09.AnchorBounds'. -/
def anchorBoundsUptoCard : Claim7 := { stood := { row := anchorBoundsUptoRow, standIns := [], harness := (true, "168892420e5987c788a19b5e9abcf4b73f3d9bb242647c2da7dbe19ae88149d6"), looks := false }, kinds := [], alts := [], laidByText := true, laidKinds := [.data], laidTests := true, laidLooks := .later }
def AnchorBoundsUptoCardSaid : Prop := Claim7.holds Tryd.pinned (.plain (OpenSpec.upto anchorBoundsSpec)) anchorBoundsUptoCard

/-- THE SECOND FORM's CARD OF 'quittancelaw09.AnchorFinds'. -/
def anchorFindsUptoCard : Claim7 := { stood := { row := anchorFindsUptoRow, standIns := [], harness := (true, "168892420e5987c788a19b5e9abcf4b73f3d9bb242647c2da7dbe19ae88149d6"), looks := false }, kinds := [], alts := [], laidByText := true, laidKinds := [.data], laidTests := true, laidLooks := .later }
def AnchorFindsUptoCardSaid : Prop := Claim7.holds Tryd.pinned (.plain (OpenSpec.upto anchorFindsSpec)) anchorFindsUptoCard

/-- THE SECOND FORM's CARD OF 'quittancelaw09.AnchorRises'. -/
def anchorRisesUptoCard : Claim7 := { stood := { row := anchorRisesUptoRow, standIns := [], harness := (true, "168892420e5987c788a19b5e9abcf4b73f3d9bb242647c2da7dbe19ae88149d6"), looks := false }, kinds := [], alts := [], laidByText := true, laidKinds := [.data], laidTests := true, laidLooks := .later }
def AnchorRisesUptoCardSaid : Prop := Claim7.holds Tryd.pinned (.plain (OpenSpec.upto anchorRisesSpec)) anchorRisesUptoCard

/-- THE SECOND FORM's CARD OF 'quittancelaw09.AnchorLong'. -/
def anchorLongUptoCard : Claim7 := { stood := { row := anchorLongUptoRow, standIns := [], harness := (true, "168892420e5987c788a19b5e9abcf4b73f3d9bb242647c2da7dbe19ae88149d6"), looks := false }, kinds := [], alts := [], laidByText := true, laidKinds := [.data], laidTests := true, laidLooks := .later }
def AnchorLongUptoCardSaid : Prop := Claim7.holds Tryd.pinned (.plain (OpenSpec.upto anchorLongSpec)) anchorLongUptoCard

/-- THE SECOND FORM's CARD OF 'quittancelaw24.InvoicesTell'. -/
def invoicesTellUptoCard : Claim7 := { stood := { row := invoicesTellUptoRow, standIns := [], harness := (true, "168892420e5987c788a19b5e9abcf4b73f3d9bb242647c2da7dbe19ae88149d6"), looks := false }, kinds := [], alts := [], laidByText := true, laidKinds := [.data], laidTests := true, laidLooks := .later }
def InvoicesTellUptoCardSaid : Prop := Claim7.holds Tryd.pinned (.plain (OpenSpec.upto invoicesTellSpec)) invoicesTellUptoCard

/-- THE SECOND FORM's CARD OF 'quittancelaw24.InvoicesAge'. -/
def invoicesAgeUptoCard : Claim7 := { stood := { row := invoicesAgeUptoRow, standIns := [], harness := (true, "168892420e5987c788a19b5e9abcf4b73f3d9bb242647c2da7dbe19ae88149d6"), looks := false }, kinds := [], alts := [], laidByText := true, laidKinds := [.data], laidTests := true, laidLooks := .later }
def InvoicesAgeUptoCardSaid : Prop := Claim7.holds Tryd.pinned (.plain (OpenSpec.upto invoicesAgeSpec)) invoicesAgeUptoCard

/-- THE SECOND FORM's CARD OF 'quittancelaw24.InvoicesWhole'. -/
def invoicesWholeUptoCard : Claim7 := { stood := { row := invoicesWholeUptoRow, standIns := [], harness := (true, "168892420e5987c788a19b5e9abcf4b73f3d9bb242647c2da7dbe19ae88149d6"), looks := false }, kinds := [], alts := [], laidByText := true, laidKinds := [.data], laidTests := true, laidLooks := .later }
def InvoicesWholeUptoCardSaid : Prop := Claim7.holds Tryd.pinned (.plain (OpenSpec.upto invoicesWholeSpec)) invoicesWholeUptoCard

/-- THE SECOND FORM's CARD OF 'quittancelaw24.InvoicesOlder'. -/
def invoicesOlderUptoCard : Claim7 := { stood := { row := invoicesOlderUptoRow, standIns := [], harness := (true, "168892420e5987c788a19b5e9abcf4b73f3d9bb242647c2da7dbe19ae88149d6"), looks := false }, kinds := [], alts := [], laidByText := true, laidKinds := [.data], laidTests := true, laidLooks := .later }
def InvoicesOlderUptoCardSaid : Prop := Claim7.holds Tryd.pinned (.plain (OpenSpec.upto invoicesOlderSpec)) invoicesOlderUptoCard

/-- THE SECOND FORM's CARD OF 'quittancelaw27.DunningRuns'. -/
def dunningRunsUptoCard : Claim7 := { stood := { row := dunningRunsUptoRow, standIns := [], harness := (true, "168892420e5987c788a19b5e9abcf4b73f3d9bb242647c2da7dbe19ae88149d6"), looks := false }, kinds := [], alts := [], laidByText := true, laidKinds := [.data], laidTests := true, laidLooks := .later }
def DunningRunsUptoCardSaid : Prop := Claim7.holds Tryd.pinned (.plain (OpenSpec.upto dunningRunsSpec)) dunningRunsUptoCard

/-- THE SECOND FORM's CARD OF 'quittancelaw27.DunningStages'. -/
def dunningStagesUptoCard : Claim7 := { stood := { row := dunningStagesUptoRow, standIns := [], harness := (true, "168892420e5987c788a19b5e9abcf4b73f3d9bb242647c2da7dbe19ae88149d6"), looks := false }, kinds := [], alts := [], laidByText := true, laidKinds := [.data], laidTests := true, laidLooks := .later }
def DunningStagesUptoCardSaid : Prop := Claim7.holds Tryd.pinned (.plain (OpenSpec.upto dunningStagesSpec)) dunningStagesUptoCard

/-- THE SECOND FORM's CARD OF 'quittancelaw27.DunningAgain'. -/
def dunningAgainUptoCard : Claim7 := { stood := { row := dunningAgainUptoRow, standIns := [], harness := (true, "168892420e5987c788a19b5e9abcf4b73f3d9bb242647c2da7dbe19ae88149d6"), looks := false }, kinds := [], alts := [], laidByText := true, laidKinds := [.data], laidTests := true, laidLooks := .later }
def DunningAgainUptoCardSaid : Prop := Claim7.holds Tryd.pinned (.plain (OpenSpec.upto dunningAgainSpec)) dunningAgainUptoCard
end Rows
end Go.Proofs.YtkgjbidkdbjfpaaDoor
