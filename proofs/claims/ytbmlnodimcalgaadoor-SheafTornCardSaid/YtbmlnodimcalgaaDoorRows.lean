/-
  NARROWER THAN 'FOR EVERY INPUT', by the rows' own cells (each row's printed sentence says how): SheafPuts: laid · SheafGets: laid · SheafBack: laid · SheafTorn: laid.
  DERIVED. THE GIVEN ROWS OF THIS SEAT. 4 by the template 'for every input the law returns true; each argument reads behind the call as it read before'; 0 by the template 'total and deterministic' (their statements: YtbmlnodimcalgaaDoorTotals.lean).
  GIVEN WITH THE SEED: the statements are not yours to turn. If you find one false, say at which input.
  Laid BY PROGRAM, IN A SANDBOX (cutbox-rows.mjs): the forced cells as the released guide's own fill.sh prints them over the translation 897cd0adb9465140… (all of the seat's roots in one cut). By AI agents, Wed Nov 11 2026. No macro, syntax, notation, axiom, sorry.
-/
import Derived.Test.YtbmlnodimcalgaaDoorChecked
import GoSem.PinnedTables
import GoSem.Claim
import GoSem.ClaimJoined
import GoSem.ClaimMapViews
import Derived.JoinedTies
import Derived.KernelRfl
namespace Go.Proofs.YtbmlnodimcalgaaDoor
/- THE CELL 'sum', in the pinned program and in every row, IS THE sha256 OF THE DUMP (.gsa) THAT YtbmlnodimcalgaaDoorProg.lean LOADS. Nothing in Lean hashes anything: it is a label: what it is worth is what the hold of that sum in a sandbox is worth. -/
noncomputable def Tryd.pinned : Pinned := { name := "ytbmlnodimcalgaadoor", sum := "897cd0adb946514025c3b9919a5b54c714a8422d0d516ea893c536ba5b5a63eb", checked := Tryd.checked }
namespace Rows
def none {H : Type} : Left H := { results := [], args := [] }

/- WHAT THE LISTED PACKAGE-LEVEL VARIABLES READ AS WHEN THE CALL BEGINS. Each datum BY PROGRAM (the guide's laid-datum.mjs) off the statement by which the dump's own 'gosem.cut.vars' lays the variable. In a bare row this is a premise. The card (YtbmlnodimcalgaaDoorCards.lean) ties it to the program's text. -/
def laid_unicode_utf8_acceptRanges {H : Type} : DataW H := .agg [.agg [.lit (.int .u8 128), .lit (.int .u8 191)], .agg [.lit (.int .u8 160), .lit (.int .u8 191)], .agg [.lit (.int .u8 128), .lit (.int .u8 159)], .agg [.lit (.int .u8 144), .lit (.int .u8 191)], .agg [.lit (.int .u8 128), .lit (.int .u8 143)], .agg [.lit (.int .u8 0), .lit (.int .u8 0)], .agg [.lit (.int .u8 0), .lit (.int .u8 0)], .agg [.lit (.int .u8 0), .lit (.int .u8 0)], .agg [.lit (.int .u8 0), .lit (.int .u8 0)], .agg [.lit (.int .u8 0), .lit (.int .u8 0)], .agg [.lit (.int .u8 0), .lit (.int .u8 0)], .agg [.lit (.int .u8 0), .lit (.int .u8 0)], .agg [.lit (.int .u8 0), .lit (.int .u8 0)], .agg [.lit (.int .u8 0), .lit (.int .u8 0)], .agg [.lit (.int .u8 0), .lit (.int .u8 0)], .agg [.lit (.int .u8 0), .lit (.int .u8 0)]]
/-- One of Go's own tables, pinned by name: the form's constant. -/
def laid_unicode_utf8_first : DataW Unit := Go.Pinned.utf8First

/-- 'quittancelaw04.SheafPuts': WHATEVER THE INPUT: true; the input reads as it did. -/
def sheafPutsSpec : ChangeSpec := { name := "sheafPuts", fn := fun _ => fun
  | [d1, d2, d3] => { results := [.lit (.bool true)], args := [d1, d2, d3] }
  | _ => none }
def sheafPutsRow : OpenClaim := { program := "ytbmlnodimcalgaadoor", sum := "897cd0adb946514025c3b9919a5b54c714a8422d0d516ea893c536ba5b5a63eb", func := "quittance/quittancelaw04.SheafPuts", spec := "sheafPuts", inPlace := ["internal/abi.NoEscape", "internal/bytealg.IndexByteString", "internal/bytealg.IndexString"], unfollowed := true, recurses := true, named := ["unicode/utf8.first", "unicode/utf8.acceptRanges", "internal/bytealg.MaxLen"], apart := false, laid := [("unicode/utf8.acceptRanges", laid_unicode_utf8_acceptRanges), ("unicode/utf8.first", laid_unicode_utf8_first)] }
def SheafPutsSaid : Prop := sheafPutsRow.holds Tryd.pinned (OpenSpec.ofChange sheafPutsSpec)

/-- ITS FALSE NEIGHBOUR: 'it returns false'. Refute it at one input. -/
def sheafPutsWrong : ChangeSpec := { name := "sheafPuts", fn := fun _ => fun
  | [d1, d2, d3] => { results := [.lit (.bool false)], args := [d1, d2, d3] }
  | _ => none }
def SheafPutsWrongFalsely : Prop := sheafPutsRow.holds Tryd.pinned (OpenSpec.ofChange sheafPutsWrong)

/-- 'quittancelaw04.SheafGets': WHATEVER THE INPUT: true; the input reads as it did. -/
def sheafGetsSpec : ChangeSpec := { name := "sheafGets", fn := fun _ => fun
  | [d] => { results := [.lit (.bool true)], args := [d] }
  | _ => none }
def sheafGetsRow : OpenClaim := { program := "ytbmlnodimcalgaadoor", sum := "897cd0adb946514025c3b9919a5b54c714a8422d0d516ea893c536ba5b5a63eb", func := "quittance/quittancelaw04.SheafGets", spec := "sheafGets", inPlace := ["internal/abi.NoEscape", "internal/bytealg.IndexByteString", "internal/bytealg.IndexString"], unfollowed := true, recurses := true, named := ["unicode/utf8.first", "unicode/utf8.acceptRanges", "internal/bytealg.MaxLen"], apart := false, laid := [("unicode/utf8.acceptRanges", laid_unicode_utf8_acceptRanges), ("unicode/utf8.first", laid_unicode_utf8_first)] }
def SheafGetsSaid : Prop := sheafGetsRow.holds Tryd.pinned (OpenSpec.ofChange sheafGetsSpec)

/-- ITS FALSE NEIGHBOUR: 'it returns false'. Refute it at one input. -/
def sheafGetsWrong : ChangeSpec := { name := "sheafGets", fn := fun _ => fun
  | [d] => { results := [.lit (.bool false)], args := [d] }
  | _ => none }
def SheafGetsWrongFalsely : Prop := sheafGetsRow.holds Tryd.pinned (OpenSpec.ofChange sheafGetsWrong)

/-- 'quittancelaw04.SheafBack': WHATEVER THE INPUT: true; the input reads as it did. -/
def sheafBackSpec : ChangeSpec := { name := "sheafBack", fn := fun _ => fun
  | [d1, d2, d3] => { results := [.lit (.bool true)], args := [d1, d2, d3] }
  | _ => none }
def sheafBackRow : OpenClaim := { program := "ytbmlnodimcalgaadoor", sum := "897cd0adb946514025c3b9919a5b54c714a8422d0d516ea893c536ba5b5a63eb", func := "quittance/quittancelaw04.SheafBack", spec := "sheafBack", inPlace := ["internal/abi.NoEscape", "internal/bytealg.IndexByteString", "internal/bytealg.IndexString"], unfollowed := true, recurses := true, named := ["unicode/utf8.first", "unicode/utf8.acceptRanges", "internal/bytealg.MaxLen"], apart := false, laid := [("unicode/utf8.acceptRanges", laid_unicode_utf8_acceptRanges), ("unicode/utf8.first", laid_unicode_utf8_first)] }
def SheafBackSaid : Prop := sheafBackRow.holds Tryd.pinned (OpenSpec.ofChange sheafBackSpec)

/-- ITS FALSE NEIGHBOUR: 'it returns false'. Refute it at one input. -/
def sheafBackWrong : ChangeSpec := { name := "sheafBack", fn := fun _ => fun
  | [d1, d2, d3] => { results := [.lit (.bool false)], args := [d1, d2, d3] }
  | _ => none }
def SheafBackWrongFalsely : Prop := sheafBackRow.holds Tryd.pinned (OpenSpec.ofChange sheafBackWrong)

/-- 'quittancelaw04.SheafTorn': WHATEVER THE INPUT: true; the input reads as it did. -/
def sheafTornSpec : ChangeSpec := { name := "sheafTorn", fn := fun _ => fun
  | [d] => { results := [.lit (.bool true)], args := [d] }
  | _ => none }
def sheafTornRow : OpenClaim := { program := "ytbmlnodimcalgaadoor", sum := "897cd0adb946514025c3b9919a5b54c714a8422d0d516ea893c536ba5b5a63eb", func := "quittance/quittancelaw04.SheafTorn", spec := "sheafTorn", inPlace := ["internal/abi.NoEscape", "internal/bytealg.IndexByteString", "internal/bytealg.IndexString"], unfollowed := true, recurses := true, named := ["unicode/utf8.first", "unicode/utf8.acceptRanges", "internal/bytealg.MaxLen"], apart := false, laid := [("unicode/utf8.acceptRanges", laid_unicode_utf8_acceptRanges), ("unicode/utf8.first", laid_unicode_utf8_first)] }
def SheafTornSaid : Prop := sheafTornRow.holds Tryd.pinned (OpenSpec.ofChange sheafTornSpec)

/-- ITS FALSE NEIGHBOUR: 'it returns false'. Refute it at one input. -/
def sheafTornWrong : ChangeSpec := { name := "sheafTorn", fn := fun _ => fun
  | [d] => { results := [.lit (.bool false)], args := [d] }
  | _ => none }
def SheafTornWrongFalsely : Prop := sheafTornRow.holds Tryd.pinned (OpenSpec.ofChange sheafTornWrong)

/- THE SECOND FORM. 'bulk': how many values and letters a reading holds, each counted each time it is reached (what is shared counts as often as it is met; a slice's spare places count too). A statement '..UptoSaid' is the law's where the arguments, and the package variables that the reading takes, are together of bulk at most 1048576: NARROWER than '..Said'. Prove '..Said' where nothing that the law and all that it calls make is longer than what came in: it says more and counts as full. Else prove '..UptoSaid'. A law counts once. -/
mutual
def uptoBulk {H : Type} : DataW H → Nat
  | .lit (.string bytes) => bytes.length + 1
  | .lit _ => 1
  | .nil => 1
  | .ptr d => uptoBulk d + 1
  | .slice elems spare => uptoBulkAll elems + uptoBulkAll spare + 1
  | .agg parts => uptoBulkAll parts + 1
  | .iface _ d => uptoBulk d + 1
  | .map entries => uptoBulkEntries entries + 1
  | .held _ => 1
def uptoBulkAll {H : Type} : List (DataW H) → Nat
  | [] => 0
  | d :: r => uptoBulk d + uptoBulkAll r
def uptoBulkEntries {H : Type} : List (Lit × DataW H) → Nat
  | [] => 0
  | x :: r => uptoBulkEntry x + uptoBulkEntries r
def uptoBulkEntry {H : Type} : Lit × DataW H → Nat
  | (.string bytes, d) => bytes.length + uptoBulk d + 1
  | (_, d) => uptoBulk d + 1
 end
def uptoSmall : (H : Type) → List (DataW H) → Bool := fun _ ds => decide (uptoBulkAll ds ≤ 1048576)
def OpenSpec.upto (s : _root_.Go.ChangeSpec) : _root_.Go.OpenSpec := { _root_.Go.OpenSpec.ofChange s with cond := some uptoSmall }

/-- 'quittancelaw04.SheafPuts', WHERE WHAT IT READS IS OF BULK AT MOST 1048576: true; the input reads as it did. -/
def sheafPutsUptoRow : OpenClaim := { program := "ytbmlnodimcalgaadoor", sum := "897cd0adb946514025c3b9919a5b54c714a8422d0d516ea893c536ba5b5a63eb", func := "quittance/quittancelaw04.SheafPuts", spec := "sheafPuts", inPlace := ["internal/abi.NoEscape", "internal/bytealg.IndexByteString", "internal/bytealg.IndexString"], unfollowed := true, recurses := true, named := ["unicode/utf8.first", "unicode/utf8.acceptRanges", "internal/bytealg.MaxLen"], apart := false, laid := [("unicode/utf8.acceptRanges", laid_unicode_utf8_acceptRanges), ("unicode/utf8.first", laid_unicode_utf8_first)], narrowed := true }
def SheafPutsUptoSaid : Prop := sheafPutsUptoRow.holds Tryd.pinned (OpenSpec.upto sheafPutsSpec)

/-- 'quittancelaw04.SheafGets', WHERE WHAT IT READS IS OF BULK AT MOST 1048576: true; the input reads as it did. -/
def sheafGetsUptoRow : OpenClaim := { program := "ytbmlnodimcalgaadoor", sum := "897cd0adb946514025c3b9919a5b54c714a8422d0d516ea893c536ba5b5a63eb", func := "quittance/quittancelaw04.SheafGets", spec := "sheafGets", inPlace := ["internal/abi.NoEscape", "internal/bytealg.IndexByteString", "internal/bytealg.IndexString"], unfollowed := true, recurses := true, named := ["unicode/utf8.first", "unicode/utf8.acceptRanges", "internal/bytealg.MaxLen"], apart := false, laid := [("unicode/utf8.acceptRanges", laid_unicode_utf8_acceptRanges), ("unicode/utf8.first", laid_unicode_utf8_first)], narrowed := true }
def SheafGetsUptoSaid : Prop := sheafGetsUptoRow.holds Tryd.pinned (OpenSpec.upto sheafGetsSpec)

/-- 'quittancelaw04.SheafBack', WHERE WHAT IT READS IS OF BULK AT MOST 1048576: true; the input reads as it did. -/
def sheafBackUptoRow : OpenClaim := { program := "ytbmlnodimcalgaadoor", sum := "897cd0adb946514025c3b9919a5b54c714a8422d0d516ea893c536ba5b5a63eb", func := "quittance/quittancelaw04.SheafBack", spec := "sheafBack", inPlace := ["internal/abi.NoEscape", "internal/bytealg.IndexByteString", "internal/bytealg.IndexString"], unfollowed := true, recurses := true, named := ["unicode/utf8.first", "unicode/utf8.acceptRanges", "internal/bytealg.MaxLen"], apart := false, laid := [("unicode/utf8.acceptRanges", laid_unicode_utf8_acceptRanges), ("unicode/utf8.first", laid_unicode_utf8_first)], narrowed := true }
def SheafBackUptoSaid : Prop := sheafBackUptoRow.holds Tryd.pinned (OpenSpec.upto sheafBackSpec)

/-- 'quittancelaw04.SheafTorn', WHERE WHAT IT READS IS OF BULK AT MOST 1048576: true; the input reads as it did. -/
def sheafTornUptoRow : OpenClaim := { program := "ytbmlnodimcalgaadoor", sum := "897cd0adb946514025c3b9919a5b54c714a8422d0d516ea893c536ba5b5a63eb", func := "quittance/quittancelaw04.SheafTorn", spec := "sheafTorn", inPlace := ["internal/abi.NoEscape", "internal/bytealg.IndexByteString", "internal/bytealg.IndexString"], unfollowed := true, recurses := true, named := ["unicode/utf8.first", "unicode/utf8.acceptRanges", "internal/bytealg.MaxLen"], apart := false, laid := [("unicode/utf8.acceptRanges", laid_unicode_utf8_acceptRanges), ("unicode/utf8.first", laid_unicode_utf8_first)], narrowed := true }
def SheafTornUptoSaid : Prop := sheafTornUptoRow.holds Tryd.pinned (OpenSpec.upto sheafTornSpec)

end Rows
end Go.Proofs.YtbmlnodimcalgaaDoor
