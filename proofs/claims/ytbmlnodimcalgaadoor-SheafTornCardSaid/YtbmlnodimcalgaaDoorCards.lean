/-
  DERIVED. GIVEN WITH THE SEED: THE CARDS: each row of YtbmlnodimcalgaaDoorRows.lean that lists a variable, with what it lists TIED to the program's text (the seventh form; the later family's looks); each row that meets fmt, with fmt's text TOLD by the authors' own Lean function (tested against real Go, not proved from fmt's source: count such statements apart). THE CARD IS WHAT COUNTS. Prove the row's statement (the work); the ties are given (YtbmlnodimcalgaaDoorTie.lean); close each card by the builder's one call (the guide's Derived/Test/ToyasCard.lean, 'card_holds'). Laid BY PROGRAM, IN A SANDBOX (cutbox-door.mjs). By AI agents, Wed Nov 11 2026. No macro, syntax, notation, axiom, sorry.
-/
import Derived.Test.YtbmlnodimcalgaaDoorRows
import GoSem.ClaimSeven
namespace Go.Proofs.YtbmlnodimcalgaaDoor
namespace Rows

/-- THE TIED CARD OF 'quittancelaw04.SheafPuts'. -/
def sheafPutsCard : Claim7 := { stood := { row := sheafPutsRow, standIns := [], harness := (true, "66395134cef5138a7ce7b5d140a0ee1af9a5e0891a341eb18a5b52334190c293"), looks := false }, kinds := [], alts := [], laidByText := true, laidKinds := [.data, .pinned], laidTests := true, laidLooks := .later }
def SheafPutsCardSaid : Prop := Claim7.holds Tryd.pinned (.plain (OpenSpec.ofChange sheafPutsSpec)) sheafPutsCard

/-- THE TIED CARD OF 'quittancelaw04.SheafGets'. -/
def sheafGetsCard : Claim7 := { stood := { row := sheafGetsRow, standIns := [], harness := (true, "66395134cef5138a7ce7b5d140a0ee1af9a5e0891a341eb18a5b52334190c293"), looks := false }, kinds := [], alts := [], laidByText := true, laidKinds := [.data, .pinned], laidTests := true, laidLooks := .later }
def SheafGetsCardSaid : Prop := Claim7.holds Tryd.pinned (.plain (OpenSpec.ofChange sheafGetsSpec)) sheafGetsCard

/-- THE TIED CARD OF 'quittancelaw04.SheafBack'. -/
def sheafBackCard : Claim7 := { stood := { row := sheafBackRow, standIns := [], harness := (true, "66395134cef5138a7ce7b5d140a0ee1af9a5e0891a341eb18a5b52334190c293"), looks := false }, kinds := [], alts := [], laidByText := true, laidKinds := [.data, .pinned], laidTests := true, laidLooks := .later }
def SheafBackCardSaid : Prop := Claim7.holds Tryd.pinned (.plain (OpenSpec.ofChange sheafBackSpec)) sheafBackCard

/-- THE TIED CARD OF 'quittancelaw04.SheafTorn'. -/
def sheafTornCard : Claim7 := { stood := { row := sheafTornRow, standIns := [], harness := (true, "66395134cef5138a7ce7b5d140a0ee1af9a5e0891a341eb18a5b52334190c293"), looks := false }, kinds := [], alts := [], laidByText := true, laidKinds := [.data, .pinned], laidTests := true, laidLooks := .later }
def SheafTornCardSaid : Prop := Claim7.holds Tryd.pinned (.plain (OpenSpec.ofChange sheafTornSpec)) sheafTornCard

/-- THE SECOND FORM's CARD OF 'quittancelaw04.SheafPuts'. -/
def sheafPutsUptoCard : Claim7 := { stood := { row := sheafPutsUptoRow, standIns := [], harness := (true, "66395134cef5138a7ce7b5d140a0ee1af9a5e0891a341eb18a5b52334190c293"), looks := false }, kinds := [], alts := [], laidByText := true, laidKinds := [.data, .pinned], laidTests := true, laidLooks := .later }
def SheafPutsUptoCardSaid : Prop := Claim7.holds Tryd.pinned (.plain (OpenSpec.upto sheafPutsSpec)) sheafPutsUptoCard

/-- THE SECOND FORM's CARD OF 'quittancelaw04.SheafGets'. -/
def sheafGetsUptoCard : Claim7 := { stood := { row := sheafGetsUptoRow, standIns := [], harness := (true, "66395134cef5138a7ce7b5d140a0ee1af9a5e0891a341eb18a5b52334190c293"), looks := false }, kinds := [], alts := [], laidByText := true, laidKinds := [.data, .pinned], laidTests := true, laidLooks := .later }
def SheafGetsUptoCardSaid : Prop := Claim7.holds Tryd.pinned (.plain (OpenSpec.upto sheafGetsSpec)) sheafGetsUptoCard

/-- THE SECOND FORM's CARD OF 'quittancelaw04.SheafBack'. -/
def sheafBackUptoCard : Claim7 := { stood := { row := sheafBackUptoRow, standIns := [], harness := (true, "66395134cef5138a7ce7b5d140a0ee1af9a5e0891a341eb18a5b52334190c293"), looks := false }, kinds := [], alts := [], laidByText := true, laidKinds := [.data, .pinned], laidTests := true, laidLooks := .later }
def SheafBackUptoCardSaid : Prop := Claim7.holds Tryd.pinned (.plain (OpenSpec.upto sheafBackSpec)) sheafBackUptoCard

/-- THE SECOND FORM's CARD OF 'quittancelaw04.SheafTorn'. -/
def sheafTornUptoCard : Claim7 := { stood := { row := sheafTornUptoRow, standIns := [], harness := (true, "66395134cef5138a7ce7b5d140a0ee1af9a5e0891a341eb18a5b52334190c293"), looks := false }, kinds := [], alts := [], laidByText := true, laidKinds := [.data, .pinned], laidTests := true, laidLooks := .later }
def SheafTornUptoCardSaid : Prop := Claim7.holds Tryd.pinned (.plain (OpenSpec.upto sheafTornSpec)) sheafTornUptoCard
end Rows
end Go.Proofs.YtbmlnodimcalgaaDoor
