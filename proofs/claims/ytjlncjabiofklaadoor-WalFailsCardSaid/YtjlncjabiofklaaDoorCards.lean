/-
  DERIVED. GIVEN WITH THE SEED: THE CARDS: each row of YtjlncjabiofklaaDoorRows.lean that lists a variable, with what it lists TIED to the program's text (the seventh form; the later family's looks); each row that meets fmt, with fmt's text TOLD by the authors' own Lean function (tested against real Go, not proved from fmt's source: count such statements apart). THE CARD IS WHAT COUNTS. Prove the row's statement (the work); the ties are given (YtjlncjabiofklaaDoorTie.lean); close each card by the builder's one call (the guide's Derived/Test/ToyasCard.lean, 'card_holds'). Laid BY PROGRAM, IN A SANDBOX (cutbox-door.mjs). By AI agents, Wed Nov 11 2026. No macro, syntax, notation, axiom, sorry.
-/
import Derived.Test.YtjlncjabiofklaaDoorRows
import GoSem.ClaimSeven
namespace Go.Proofs.YtjlncjabiofklaaDoor
namespace Rows

/-- THE TIED CARD OF 'quittancelaw06.WalFails'. -/
def walFailsCard : Claim7 := { stood := { row := walFailsRow, standIns := [], harness := (true, "43ae96f95231ded1620612092589d945ff85d2c48e49dc31bf0bdcba4903c957"), looks := false }, kinds := [], alts := [], laidByText := true, laidKinds := [.data, .pinned], laidTests := true, laidLooks := .later }
def WalFailsCardSaid : Prop := Claim7.holds Tryd.pinned (.plain (OpenSpec.ofChange walFailsSpec)) walFailsCard

/-- THE SECOND FORM's CARD OF 'quittancelaw06.WalFails'. -/
def walFailsUptoCard : Claim7 := { stood := { row := walFailsUptoRow, standIns := [], harness := (true, "43ae96f95231ded1620612092589d945ff85d2c48e49dc31bf0bdcba4903c957"), looks := false }, kinds := [], alts := [], laidByText := true, laidKinds := [.data, .pinned], laidTests := true, laidLooks := .later }
def WalFailsUptoCardSaid : Prop := Claim7.holds Tryd.pinned (.plain (OpenSpec.upto walFailsSpec)) walFailsUptoCard
end Rows
end Go.Proofs.YtjlncjabiofklaaDoor
