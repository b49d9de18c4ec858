/-
  DERIVED. GIVEN WITH THE SEED: THE CARDS: each row of YtnfjgmdpokpbbaaDoorRows.lean that lists a variable, with what it lists TIED to the program's text (the seventh form; the later family's looks); each row that meets fmt, with fmt's text TOLD by the authors' own Lean function (tested against real Go, not proved from fmt's source: count such statements apart). THE CARD IS WHAT COUNTS. Prove the row's statement (the work); the ties are given (YtnfjgmdpokpbbaaDoorTie.lean); close each card by the builder's one call (the guide's Derived/Test/ToyasCard.lean, 'card_holds'). Laid BY PROGRAM, IN A SANDBOX (cutbox-door.mjs). By AI agents, Wed Nov 11 2026. No macro, syntax, notation, axiom, sorry.
-/
import Derived.Test.YtnfjgmdpokpbbaaDoorRows
import GoSem.ClaimSeven
namespace Go.Proofs.YtnfjgmdpokpbbaaDoor
namespace Rows

/-- THE TIED CARD OF 'quittancelaw05.RowTells'. -/
def rowTellsCard : Claim7 := { stood := { row := rowTellsRow, standIns := [], harness := (true, "92c9aade147ca23279f6b99eb2a209d9757ef6ea72ef6734ededf9a50e91c97d"), looks := false }, kinds := [], alts := [], laidByText := true, laidKinds := [.data, .pinned], laidTests := true, laidLooks := .later }
def RowTellsCardSaid : Prop := Claim7.holds Tryd.pinned (.plain (OpenSpec.ofChange rowTellsSpec)) rowTellsCard

/-- THE TIED CARD OF 'quittancelaw05.RowOpens'. -/
def rowOpensCard : Claim7 := { stood := { row := rowOpensRow, standIns := [], harness := (true, "92c9aade147ca23279f6b99eb2a209d9757ef6ea72ef6734ededf9a50e91c97d"), looks := false }, kinds := [], alts := [], laidByText := true, laidKinds := [.data, .pinned], laidTests := true, laidLooks := .later }
def RowOpensCardSaid : Prop := Claim7.holds Tryd.pinned (.plain (OpenSpec.ofChange rowOpensSpec)) rowOpensCard

/-- THE TIED CARD OF 'quittancelaw05.RowFails'. -/
def rowFailsCard : Claim7 := { stood := { row := rowFailsRow, standIns := [], harness := (true, "92c9aade147ca23279f6b99eb2a209d9757ef6ea72ef6734ededf9a50e91c97d"), looks := false }, kinds := [], alts := [], laidByText := true, laidKinds := [.data, .pinned], laidTests := true, laidLooks := .later }
def RowFailsCardSaid : Prop := Claim7.holds Tryd.pinned (.plain (OpenSpec.ofChange rowFailsSpec)) rowFailsCard

/-- THE SECOND FORM's CARD OF 'quittancelaw05.RowTells'. -/
def rowTellsUptoCard : Claim7 := { stood := { row := rowTellsUptoRow, standIns := [], harness := (true, "92c9aade147ca23279f6b99eb2a209d9757ef6ea72ef6734ededf9a50e91c97d"), looks := false }, kinds := [], alts := [], laidByText := true, laidKinds := [.data, .pinned], laidTests := true, laidLooks := .later }
def RowTellsUptoCardSaid : Prop := Claim7.holds Tryd.pinned (.plain (OpenSpec.upto rowTellsSpec)) rowTellsUptoCard

/-- THE SECOND FORM's CARD OF 'quittancelaw05.RowOpens'. -/
def rowOpensUptoCard : Claim7 := { stood := { row := rowOpensUptoRow, standIns := [], harness := (true, "92c9aade147ca23279f6b99eb2a209d9757ef6ea72ef6734ededf9a50e91c97d"), looks := false }, kinds := [], alts := [], laidByText := true, laidKinds := [.data, .pinned], laidTests := true, laidLooks := .later }
def RowOpensUptoCardSaid : Prop := Claim7.holds Tryd.pinned (.plain (OpenSpec.upto rowOpensSpec)) rowOpensUptoCard

/-- THE SECOND FORM's CARD OF 'quittancelaw05.RowFails'. -/
def rowFailsUptoCard : Claim7 := { stood := { row := rowFailsUptoRow, standIns := [], harness := (true, "92c9aade147ca23279f6b99eb2a209d9757ef6ea72ef6734ededf9a50e91c97d"), looks := false }, kinds := [], alts := [], laidByText := true, laidKinds := [.data, .pinned], laidTests := true, laidLooks := .later }
def RowFailsUptoCardSaid : Prop := Claim7.holds Tryd.pinned (.plain (OpenSpec.upto rowFailsSpec)) rowFailsUptoCard
end Rows
end Go.Proofs.YtnfjgmdpokpbbaaDoor
