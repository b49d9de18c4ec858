/-
  DERIVED. GIVEN WITH THE SEED: THE CARDS: each row of YtehofpmkplkaaabDoorRows.lean that lists a variable, with what it lists TIED to the program's text (the seventh form; the later family's looks); each row that meets fmt, with fmt's text TOLD by the authors' own Lean function (tested against real Go, not proved from fmt's source: count such statements apart). THE CARD IS WHAT COUNTS. Prove the row's statement (the work); the ties are given (YtehofpmkplkaaabDoorTie.lean); close each card by the builder's one call (the guide's Derived/Test/ToyasCard.lean, 'card_holds'). Laid BY PROGRAM, IN A SANDBOX (cutbox-door.mjs). By AI agents, Wed Nov 11 2026. No macro, syntax, notation, axiom, sorry.
-/
import Derived.Test.YtehofpmkplkaaabDoorRows
import GoSem.ClaimSeven
namespace Go.Proofs.YtehofpmkplkaaabDoor
namespace Rows

/-- THE TIED CARD OF 'quittancelaw08.CivilDates'. -/
def civilDatesCard : Claim7 := { stood := { row := civilDatesRow, standIns := [], harness := (true, "f54e7cbbf2ee93f62f67b6ef0c226bb5d281a0d4d23278bfaf005b02f3f68022"), looks := false }, kinds := [], alts := [], laidByText := true, laidKinds := [.data], laidTests := true, laidLooks := .later }
def CivilDatesCardSaid : Prop := Claim7.holds Tryd.pinned (.plain (OpenSpec.ofChange civilDatesSpec)) civilDatesCard

/-- THE TIED CARD OF 'quittancelaw08.CivilMonths'. -/
def civilMonthsCard : Claim7 := { stood := { row := civilMonthsRow, standIns := [], harness := (true, "f54e7cbbf2ee93f62f67b6ef0c226bb5d281a0d4d23278bfaf005b02f3f68022"), looks := false }, kinds := [], alts := [], laidByText := true, laidKinds := [.data], laidTests := true, laidLooks := .later }
def CivilMonthsCardSaid : Prop := Claim7.holds Tryd.pinned (.plain (OpenSpec.ofChange civilMonthsSpec)) civilMonthsCard

/-- THE TIED CARD OF 'quittancelaw08.CivilBack'. -/
def civilBackCard : Claim7 := { stood := { row := civilBackRow, standIns := [], harness := (true, "f54e7cbbf2ee93f62f67b6ef0c226bb5d281a0d4d23278bfaf005b02f3f68022"), looks := false }, kinds := [], alts := [], laidByText := true, laidKinds := [.data], laidTests := true, laidLooks := .later }
def CivilBackCardSaid : Prop := Claim7.holds Tryd.pinned (.plain (OpenSpec.ofChange civilBackSpec)) civilBackCard

/-- THE TIED CARD OF 'quittancelaw08.CivilOrder'. -/
def civilOrderCard : Claim7 := { stood := { row := civilOrderRow, standIns := [], harness := (true, "f54e7cbbf2ee93f62f67b6ef0c226bb5d281a0d4d23278bfaf005b02f3f68022"), looks := false }, kinds := [], alts := [], laidByText := true, laidKinds := [.data], laidTests := true, laidLooks := .later }
def CivilOrderCardSaid : Prop := Claim7.holds Tryd.pinned (.plain (OpenSpec.ofChange civilOrderSpec)) civilOrderCard

/-- THE TIED CARD OF 'quittancelaw08.CivilGaps'. -/
def civilGapsCard : Claim7 := { stood := { row := civilGapsRow, standIns := [], harness := (true, "f54e7cbbf2ee93f62f67b6ef0c226bb5d281a0d4d23278bfaf005b02f3f68022"), looks := false }, kinds := [], alts := [], laidByText := true, laidKinds := [.data], laidTests := true, laidLooks := .later }
def CivilGapsCardSaid : Prop := Claim7.holds Tryd.pinned (.plain (OpenSpec.ofChange civilGapsSpec)) civilGapsCard

/-- THE SECOND FORM's CARD OF 'quittancelaw08.CivilDates'. -/
def civilDatesUptoCard : Claim7 := { stood := { row := civilDatesUptoRow, standIns := [], harness := (true, "f54e7cbbf2ee93f62f67b6ef0c226bb5d281a0d4d23278bfaf005b02f3f68022"), looks := false }, kinds := [], alts := [], laidByText := true, laidKinds := [.data], laidTests := true, laidLooks := .later }
def CivilDatesUptoCardSaid : Prop := Claim7.holds Tryd.pinned (.plain (OpenSpec.upto civilDatesSpec)) civilDatesUptoCard

/-- THE SECOND FORM's CARD OF 'quittancelaw08.CivilMonths'. -/
def civilMonthsUptoCard : Claim7 := { stood := { row := civilMonthsUptoRow, standIns := [], harness := (true, "f54e7cbbf2ee93f62f67b6ef0c226bb5d281a0d4d23278bfaf005b02f3f68022"), looks := false }, kinds := [], alts := [], laidByText := true, laidKinds := [.data], laidTests := true, laidLooks := .later }
def CivilMonthsUptoCardSaid : Prop := Claim7.holds Tryd.pinned (.plain (OpenSpec.upto civilMonthsSpec)) civilMonthsUptoCard

/-- THE SECOND FORM's CARD OF 'quittancelaw08.CivilBack'. -/
def civilBackUptoCard : Claim7 := { stood := { row := civilBackUptoRow, standIns := [], harness := (true, "f54e7cbbf2ee93f62f67b6ef0c226bb5d281a0d4d23278bfaf005b02f3f68022"), looks := false }, kinds := [], alts := [], laidByText := true, laidKinds := [.data], laidTests := true, laidLooks := .later }
def CivilBackUptoCardSaid : Prop := Claim7.holds Tryd.pinned (.plain (OpenSpec.upto civilBackSpec)) civilBackUptoCard

/-- THE SECOND FORM's CARD OF 'quittancelaw08.CivilOrder'. -/
def civilOrderUptoCard : Claim7 := { stood := { row := civilOrderUptoRow, standIns := [], harness := (true, "f54e7cbbf2ee93f62f67b6ef0c226bb5d281a0d4d23278bfaf005b02f3f68022"), looks := false }, kinds := [], alts := [], laidByText := true, laidKinds := [.data], laidTests := true, laidLooks := .later }
def CivilOrderUptoCardSaid : Prop := Claim7.holds Tryd.pinned (.plain (OpenSpec.upto civilOrderSpec)) civilOrderUptoCard

/-- THE SECOND FORM's CARD OF 'quittancelaw08.CivilGaps'. -/
def civilGapsUptoCard : Claim7 := { stood := { row := civilGapsUptoRow, standIns := [], harness := (true, "f54e7cbbf2ee93f62f67b6ef0c226bb5d281a0d4d23278bfaf005b02f3f68022"), looks := false }, kinds := [], alts := [], laidByText := true, laidKinds := [.data], laidTests := true, laidLooks := .later }
def CivilGapsUptoCardSaid : Prop := Claim7.holds Tryd.pinned (.plain (OpenSpec.upto civilGapsSpec)) civilGapsUptoCard
end Rows
end Go.Proofs.YtehofpmkplkaaabDoor
