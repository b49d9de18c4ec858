/-
  NARROWER THAN 'FOR EVERY INPUT', by the rows' own cells (each row's printed sentence says how): AnchorAts: laid · AnchorBounds: laid · AnchorFinds: laid · AnchorRises: laid · AnchorLong: laid · InvoicesTell: laid · InvoicesAge: laid · InvoicesWhole: laid · InvoicesOlder: laid · DunningRuns: laid · DunningStages: laid · DunningAgain: laid.
  DERIVED. THE GIVEN ROWS OF THIS SEAT. 12 by the template 'for every input the law returns true; each argument reads behind the call as it read before'; 0 by the template 'total and deterministic' (their statements: YtkgjbidkdbjfpaaDoorTotals.lean).
  GIVEN WITH THE SEED: the statements are not yours to turn. If you find one false, say at which input.
  Laid BY PROGRAM, IN A SANDBOX (cutbox-rows.mjs): the forced cells as the released guide's own fill.sh prints them over the translation 89af613e898cac1d… (all of the seat's roots in one cut). By AI agents, Wed Nov 11 2026. No macro, syntax, notation, axiom, sorry.
-/
import Derived.Test.YtkgjbidkdbjfpaaDoorChecked
import GoSem.Claim
import GoSem.ClaimJoined
import GoSem.ClaimMapViews
import Derived.JoinedTies
import Derived.KernelRfl
namespace Go.Proofs.YtkgjbidkdbjfpaaDoor
/- THE CELL 'sum', in the pinned program and in every row, IS THE sha256 OF THE DUMP (.gsa) THAT YtkgjbidkdbjfpaaDoorProg.lean LOADS. Nothing in Lean hashes anything: it is a label: what it is worth is what the hold of that sum in a sandbox is worth. -/
noncomputable def Tryd.pinned : Pinned := { name := "ytkgjbidkdbjfpaadoor", sum := "89af613e898cac1ded4c9e6cba55af7d3d2c562be90d50bb5ca10bbcd08d49bc", checked := Tryd.checked }
namespace Rows
def none {H : Type} : Left H := { results := [], args := [] }

/- WHAT THE LISTED PACKAGE-LEVEL VARIABLES READ AS WHEN THE CALL BEGINS. Each datum BY PROGRAM (the guide's laid-datum.mjs) off the statement by which the dump's own 'gosem.cut.vars' lays the variable. In a bare row this is a premise. The card (YtkgjbidkdbjfpaaDoorCards.lean) ties it to the program's text. -/
def laid_quittance_civil_ahead {H : Type} : DataW H := .agg [.lit (.int .i64 0), .lit (.int .i64 31), .lit (.int .i64 59), .lit (.int .i64 90), .lit (.int .i64 120), .lit (.int .i64 151), .lit (.int .i64 181), .lit (.int .i64 212), .lit (.int .i64 243), .lit (.int .i64 273), .lit (.int .i64 304), .lit (.int .i64 334), .lit (.int .i64 365)]
def laid_quittance_invoices_bounds {H : Type} : DataW H := .agg [.lit (.int .i64 0), .lit (.int .i64 30), .lit (.int .i64 60), .lit (.int .i64 90)]

/-- 'quittancelaw09.AnchorAts': WHATEVER THE INPUT: true; the input reads as it did. -/
def anchorAtsSpec : ChangeSpec := { name := "anchorAts", fn := fun _ => fun
  | [d1, d2, d3] => { results := [.lit (.bool true)], args := [d1, d2, d3] }
  | _ => none }
def anchorAtsRow : OpenClaim := { program := "ytkgjbidkdbjfpaadoor", sum := "89af613e898cac1ded4c9e6cba55af7d3d2c562be90d50bb5ca10bbcd08d49bc", func := "quittance/quittancelaw09.AnchorAts", spec := "anchorAts", unfollowed := true, recurses := true, named := ["quittance/civil.ahead"], plainKeys := false, apart := false, laid := [("quittance/civil.ahead", laid_quittance_civil_ahead)] }
def AnchorAtsSaid : Prop := anchorAtsRow.holds Tryd.pinned (OpenSpec.ofChange anchorAtsSpec)

/-- ITS FALSE NEIGHBOUR: 'it returns false'. Refute it at one input. -/
def anchorAtsWrong : ChangeSpec := { name := "anchorAts", fn := fun _ => fun
  | [d1, d2, d3] => { results := [.lit (.bool false)], args := [d1, d2, d3] }
  | _ => none }
def AnchorAtsWrongFalsely : Prop := anchorAtsRow.holds Tryd.pinned (OpenSpec.ofChange anchorAtsWrong)

/-- 'quittancelaw09.AnchorBounds': WHATEVER THE INPUT: true; the input reads as it did. -/
def anchorBoundsSpec : ChangeSpec := { name := "anchorBounds", fn := fun _ => fun
  | [d1, d2] => { results := [.lit (.bool true)], args := [d1, d2] }
  | _ => none }
def anchorBoundsRow : OpenClaim := { program := "ytkgjbidkdbjfpaadoor", sum := "89af613e898cac1ded4c9e6cba55af7d3d2c562be90d50bb5ca10bbcd08d49bc", func := "quittance/quittancelaw09.AnchorBounds", spec := "anchorBounds", unfollowed := true, recurses := true, named := ["quittance/civil.ahead"], plainKeys := false, apart := false, laid := [("quittance/civil.ahead", laid_quittance_civil_ahead)] }
def AnchorBoundsSaid : Prop := anchorBoundsRow.holds Tryd.pinned (OpenSpec.ofChange anchorBoundsSpec)

/-- ITS FALSE NEIGHBOUR: 'it returns false'. Refute it at one input. -/
def anchorBoundsWrong : ChangeSpec := { name := "anchorBounds", fn := fun _ => fun
  | [d1, d2] => { results := [.lit (.bool false)], args := [d1, d2] }
  | _ => none }
def AnchorBoundsWrongFalsely : Prop := anchorBoundsRow.holds Tryd.pinned (OpenSpec.ofChange anchorBoundsWrong)

/-- 'quittancelaw09.AnchorFinds': WHATEVER THE INPUT: true; the input reads as it did. -/
def anchorFindsSpec : ChangeSpec := { name := "anchorFinds", fn := fun _ => fun
  | [d1, d2] => { results := [.lit (.bool true)], args := [d1, d2] }
  | _ => none }
def anchorFindsRow : OpenClaim := { program := "ytkgjbidkdbjfpaadoor", sum := "89af613e898cac1ded4c9e6cba55af7d3d2c562be90d50bb5ca10bbcd08d49bc", func := "quittance/quittancelaw09.AnchorFinds", spec := "anchorFinds", unfollowed := true, recurses := true, named := ["quittance/civil.ahead"], plainKeys := false, apart := false, laid := [("quittance/civil.ahead", laid_quittance_civil_ahead)] }
def AnchorFindsSaid : Prop := anchorFindsRow.holds Tryd.pinned (OpenSpec.ofChange anchorFindsSpec)

/-- ITS FALSE NEIGHBOUR: 'it returns false'. Refute it at one input. -/
def anchorFindsWrong : ChangeSpec := { name := "anchorFinds", fn := fun _ => fun
  | [d1, d2] => { results := [.lit (.bool false)], args := [d1, d2] }
  | _ => none }
def AnchorFindsWrongFalsely : Prop := anchorFindsRow.holds Tryd.pinned (OpenSpec.ofChange anchorFindsWrong)

/-- 'quittancelaw09.AnchorRises': WHATEVER THE INPUT: true; the input reads as it did. -/
def anchorRisesSpec : ChangeSpec := { name := "anchorRises", fn := fun _ => fun
  | [d1, d2, d3] => { results := [.lit (.bool true)], args := [d1, d2, d3] }
  | _ => none }
def anchorRisesRow : OpenClaim := { program := "ytkgjbidkdbjfpaadoor", sum := "89af613e898cac1ded4c9e6cba55af7d3d2c562be90d50bb5ca10bbcd08d49bc", func := "quittance/quittancelaw09.AnchorRises", spec := "anchorRises", unfollowed := true, recurses := true, named := ["quittance/civil.ahead"], plainKeys := false, apart := false, laid := [("quittance/civil.ahead", laid_quittance_civil_ahead)] }
def AnchorRisesSaid : Prop := anchorRisesRow.holds Tryd.pinned (OpenSpec.ofChange anchorRisesSpec)

/-- ITS FALSE NEIGHBOUR: 'it returns false'. Refute it at one input. -/
def anchorRisesWrong : ChangeSpec := { name := "anchorRises", fn := fun _ => fun
  | [d1, d2, d3] => { results := [.lit (.bool false)], args := [d1, d2, d3] }
  | _ => none }
def AnchorRisesWrongFalsely : Prop := anchorRisesRow.holds Tryd.pinned (OpenSpec.ofChange anchorRisesWrong)

/-- 'quittancelaw09.AnchorLong': WHATEVER THE INPUT: true; the input reads as it did. -/
def anchorLongSpec : ChangeSpec := { name := "anchorLong", fn := fun _ => fun
  | [d1, d2, d3] => { results := [.lit (.bool true)], args := [d1, d2, d3] }
  | _ => none }
def anchorLongRow : OpenClaim := { program := "ytkgjbidkdbjfpaadoor", sum := "89af613e898cac1ded4c9e6cba55af7d3d2c562be90d50bb5ca10bbcd08d49bc", func := "quittance/quittancelaw09.AnchorLong", spec := "anchorLong", unfollowed := true, recurses := true, named := ["quittance/civil.ahead"], plainKeys := false, apart := false, laid := [("quittance/civil.ahead", laid_quittance_civil_ahead)] }
def AnchorLongSaid : Prop := anchorLongRow.holds Tryd.pinned (OpenSpec.ofChange anchorLongSpec)

/-- ITS FALSE NEIGHBOUR: 'it returns false'. Refute it at one input. -/
def anchorLongWrong : ChangeSpec := { name := "anchorLong", fn := fun _ => fun
  | [d1, d2, d3] => { results := [.lit (.bool false)], args := [d1, d2, d3] }
  | _ => none }
def AnchorLongWrongFalsely : Prop := anchorLongRow.holds Tryd.pinned (OpenSpec.ofChange anchorLongWrong)

/-- 'quittancelaw24.InvoicesTell': WHATEVER THE INPUT: true; the input reads as it did. -/
def invoicesTellSpec : ChangeSpec := { name := "invoicesTell", fn := fun _ => fun
  | [d1, d2] => { results := [.lit (.bool true)], args := [d1, d2] }
  | _ => none }
def invoicesTellRow : OpenClaim := { program := "ytkgjbidkdbjfpaadoor", sum := "89af613e898cac1ded4c9e6cba55af7d3d2c562be90d50bb5ca10bbcd08d49bc", func := "quittance/quittancelaw24.InvoicesTell", spec := "invoicesTell", unfollowed := true, recurses := true, named := ["quittance/invoices.bounds"], plainKeys := false, apart := false, laid := [("quittance/invoices.bounds", laid_quittance_invoices_bounds)] }
def InvoicesTellSaid : Prop := invoicesTellRow.holds Tryd.pinned (OpenSpec.ofChange invoicesTellSpec)

/-- ITS FALSE NEIGHBOUR: 'it returns false'. Refute it at one input. -/
def invoicesTellWrong : ChangeSpec := { name := "invoicesTell", fn := fun _ => fun
  | [d1, d2] => { results := [.lit (.bool false)], args := [d1, d2] }
  | _ => none }
def InvoicesTellWrongFalsely : Prop := invoicesTellRow.holds Tryd.pinned (OpenSpec.ofChange invoicesTellWrong)

/-- 'quittancelaw24.InvoicesAge': WHATEVER THE INPUT: true; the input reads as it did. -/
def invoicesAgeSpec : ChangeSpec := { name := "invoicesAge", fn := fun _ => fun
  | [d1, d2, d3] => { results := [.lit (.bool true)], args := [d1, d2, d3] }
  | _ => none }
def invoicesAgeRow : OpenClaim := { program := "ytkgjbidkdbjfpaadoor", sum := "89af613e898cac1ded4c9e6cba55af7d3d2c562be90d50bb5ca10bbcd08d49bc", func := "quittance/quittancelaw24.InvoicesAge", spec := "invoicesAge", unfollowed := true, recurses := true, named := ["quittance/invoices.bounds"], plainKeys := false, apart := false, laid := [("quittance/invoices.bounds", laid_quittance_invoices_bounds)] }
def InvoicesAgeSaid : Prop := invoicesAgeRow.holds Tryd.pinned (OpenSpec.ofChange invoicesAgeSpec)

/-- ITS FALSE NEIGHBOUR: 'it returns false'. Refute it at one input. -/
def invoicesAgeWrong : ChangeSpec := { name := "invoicesAge", fn := fun _ => fun
  | [d1, d2, d3] => { results := [.lit (.bool false)], args := [d1, d2, d3] }
  | _ => none }
def InvoicesAgeWrongFalsely : Prop := invoicesAgeRow.holds Tryd.pinned (OpenSpec.ofChange invoicesAgeWrong)

/-- 'quittancelaw24.InvoicesWhole': WHATEVER THE INPUT: true; the input reads as it did. -/
def invoicesWholeSpec : ChangeSpec := { name := "invoicesWhole", fn := fun _ => fun
  | [d1, d2] => { results := [.lit (.bool true)], args := [d1, d2] }
  | _ => none }
def invoicesWholeRow : OpenClaim := { program := "ytkgjbidkdbjfpaadoor", sum := "89af613e898cac1ded4c9e6cba55af7d3d2c562be90d50bb5ca10bbcd08d49bc", func := "quittance/quittancelaw24.InvoicesWhole", spec := "invoicesWhole", unfollowed := true, recurses := true, named := ["quittance/invoices.bounds"], plainKeys := false, apart := false, laid := [("quittance/invoices.bounds", laid_quittance_invoices_bounds)] }
def InvoicesWholeSaid : Prop := invoicesWholeRow.holds Tryd.pinned (OpenSpec.ofChange invoicesWholeSpec)

/-- ITS FALSE NEIGHBOUR: 'it returns false'. Refute it at one input. -/
def invoicesWholeWrong : ChangeSpec := { name := "invoicesWhole", fn := fun _ => fun
  | [d1, d2] => { results := [.lit (.bool false)], args := [d1, d2] }
  | _ => none }
def InvoicesWholeWrongFalsely : Prop := invoicesWholeRow.holds Tryd.pinned (OpenSpec.ofChange invoicesWholeWrong)

/-- 'quittancelaw24.InvoicesOlder': WHATEVER THE INPUT: true; the input reads as it did. -/
def invoicesOlderSpec : ChangeSpec := { name := "invoicesOlder", fn := fun _ => fun
  | [d1, d2, d3] => { results := [.lit (.bool true)], args := [d1, d2, d3] }
  | _ => none }
def invoicesOlderRow : OpenClaim := { program := "ytkgjbidkdbjfpaadoor", sum := "89af613e898cac1ded4c9e6cba55af7d3d2c562be90d50bb5ca10bbcd08d49bc", func := "quittance/quittancelaw24.InvoicesOlder", spec := "invoicesOlder", unfollowed := true, recurses := true, named := ["quittance/invoices.bounds"], plainKeys := false, apart := false, laid := [("quittance/invoices.bounds", laid_quittance_invoices_bounds)] }
def InvoicesOlderSaid : Prop := invoicesOlderRow.holds Tryd.pinned (OpenSpec.ofChange invoicesOlderSpec)

/-- ITS FALSE NEIGHBOUR: 'it returns false'. Refute it at one input. -/
def invoicesOlderWrong : ChangeSpec := { name := "invoicesOlder", fn := fun _ => fun
  | [d1, d2, d3] => { results := [.lit (.bool false)], args := [d1, d2, d3] }
  | _ => none }
def InvoicesOlderWrongFalsely : Prop := invoicesOlderRow.holds Tryd.pinned (OpenSpec.ofChange invoicesOlderWrong)

/-- 'quittancelaw27.DunningRuns': WHATEVER THE INPUT: true; the input reads as it did. -/
def dunningRunsSpec : ChangeSpec := { name := "dunningRuns", fn := fun _ => fun
  | [d] => { results := [.lit (.bool true)], args := [d] }
  | _ => none }
def dunningRunsRow : OpenClaim := { program := "ytkgjbidkdbjfpaadoor", sum := "89af613e898cac1ded4c9e6cba55af7d3d2c562be90d50bb5ca10bbcd08d49bc", func := "quittance/quittancelaw27.DunningRuns", spec := "dunningRuns", unfollowed := true, recurses := true, named := ["quittance/invoices.bounds"], plainKeys := false, apart := false, laid := [("quittance/invoices.bounds", laid_quittance_invoices_bounds)] }
def DunningRunsSaid : Prop := dunningRunsRow.holds Tryd.pinned (OpenSpec.ofChange dunningRunsSpec)

/-- ITS FALSE NEIGHBOUR: 'it returns false'. Refute it at one input. -/
def dunningRunsWrong : ChangeSpec := { name := "dunningRuns", fn := fun _ => fun
  | [d] => { results := [.lit (.bool false)], args := [d] }
  | _ => none }
def DunningRunsWrongFalsely : Prop := dunningRunsRow.holds Tryd.pinned (OpenSpec.ofChange dunningRunsWrong)

/-- 'quittancelaw27.DunningStages': WHATEVER THE INPUT: true; the input reads as it did. -/
def dunningStagesSpec : ChangeSpec := { name := "dunningStages", fn := fun _ => fun
  | [d1, d2, d3] => { results := [.lit (.bool true)], args := [d1, d2, d3] }
  | _ => none }
def dunningStagesRow : OpenClaim := { program := "ytkgjbidkdbjfpaadoor", sum := "89af613e898cac1ded4c9e6cba55af7d3d2c562be90d50bb5ca10bbcd08d49bc", func := "quittance/quittancelaw27.DunningStages", spec := "dunningStages", unfollowed := true, recurses := true, named := ["quittance/invoices.bounds"], plainKeys := false, apart := false, laid := [("quittance/invoices.bounds", laid_quittance_invoices_bounds)] }
def DunningStagesSaid : Prop := dunningStagesRow.holds Tryd.pinned (OpenSpec.ofChange dunningStagesSpec)

/-- ITS FALSE NEIGHBOUR: 'it returns false'. Refute it at one input. -/
def dunningStagesWrong : ChangeSpec := { name := "dunningStages", fn := fun _ => fun
  | [d1, d2, d3] => { results := [.lit (.bool false)], args := [d1, d2, d3] }
  | _ => none }
def DunningStagesWrongFalsely : Prop := dunningStagesRow.holds Tryd.pinned (OpenSpec.ofChange dunningStagesWrong)

/-- 'quittancelaw27.DunningAgain': WHATEVER THE INPUT: true; the input reads as it did. -/
def dunningAgainSpec : ChangeSpec := { name := "dunningAgain", fn := fun _ => fun
  | [d1, d2] => { results := [.lit (.bool true)], args := [d1, d2] }
  | _ => none }
def dunningAgainRow : OpenClaim := { program := "ytkgjbidkdbjfpaadoor", sum := "89af613e898cac1ded4c9e6cba55af7d3d2c562be90d50bb5ca10bbcd08d49bc", func := "quittance/quittancelaw27.DunningAgain", spec := "dunningAgain", unfollowed := true, recurses := true, named := ["quittance/invoices.bounds"], plainKeys := false, apart := false, laid := [("quittance/invoices.bounds", laid_quittance_invoices_bounds)] }
def DunningAgainSaid : Prop := dunningAgainRow.holds Tryd.pinned (OpenSpec.ofChange dunningAgainSpec)

/-- ITS FALSE NEIGHBOUR: 'it returns false'. Refute it at one input. -/
def dunningAgainWrong : ChangeSpec := { name := "dunningAgain", fn := fun _ => fun
  | [d1, d2] => { results := [.lit (.bool false)], args := [d1, d2] }
  | _ => none }
def DunningAgainWrongFalsely : Prop := dunningAgainRow.holds Tryd.pinned (OpenSpec.ofChange dunningAgainWrong)

/- THE SECOND FORM. 'bulk': how many values and letters a reading holds, each counted each time it is reached (what is shared counts as often as it is met; a slice's spare places count too). A statement '..UptoSaid' is the law's where the arguments, and the package variables that the reading takes, are together of bulk at most 1048576: NARROWER than '..Said'. Prove '..Said' where nothing that the law and all that it calls make is longer than what came in: it says more and counts as full. Else prove '..UptoSaid'. A law counts once. -/
mutual
def uptoBulk {H : Type} : DataW H → Nat
  | .lit (.string bytes) => bytes.length + 1
  | .lit _ => 1
  | .nil => 1
  | .ptr d => uptoBulk d + 1
  | .slice elems spare => uptoBulkAll elems + uptoBulkAll spare + 1
  | .agg parts => uptoBulkAll parts + 1
  | .iface _ d => uptoBulk d + 1
  | .map entries => uptoBulkEntries entries + 1
  | .held _ => 1
def uptoBulkAll {H : Type} : List (DataW H) → Nat
  | [] => 0
  | d :: r => uptoBulk d + uptoBulkAll r
def uptoBulkEntries {H : Type} : List (Lit × DataW H) → Nat
  | [] => 0
  | x :: r => uptoBulkEntry x + uptoBulkEntries r
def uptoBulkEntry {H : Type} : Lit × DataW H → Nat
  | (.string bytes, d) => bytes.length + uptoBulk d + 1
  | (_, d) => uptoBulk d + 1
 end
def uptoSmall : (H : Type) → List (DataW H) → Bool := fun _ ds => decide (uptoBulkAll ds ≤ 1048576)
def OpenSpec.upto (s : _root_.Go.ChangeSpec) : _root_.Go.OpenSpec := { _root_.Go.OpenSpec.ofChange s with cond := some uptoSmall }

/-- 'quittancelaw09.AnchorAts', WHERE WHAT IT READS IS OF BULK AT MOST 1048576: true; the input reads as it did. -/
def anchorAtsUptoRow : OpenClaim := { program := "ytkgjbidkdbjfpaadoor", sum := "89af613e898cac1ded4c9e6cba55af7d3d2c562be90d50bb5ca10bbcd08d49bc", func := "quittance/quittancelaw09.AnchorAts", spec := "anchorAts", unfollowed := true, recurses := true, named := ["quittance/civil.ahead"], plainKeys := false, apart := false, laid := [("quittance/civil.ahead", laid_quittance_civil_ahead)], narrowed := true }
def AnchorAtsUptoSaid : Prop := anchorAtsUptoRow.holds Tryd.pinned (OpenSpec.upto anchorAtsSpec)

/-- 'quittancelaw09.AnchorBounds', WHERE WHAT IT READS IS OF BULK AT MOST 1048576: true; the input reads as it did. -/
def anchorBoundsUptoRow : OpenClaim := { program := "ytkgjbidkdbjfpaadoor", sum := "89af613e898cac1ded4c9e6cba55af7d3d2c562be90d50bb5ca10bbcd08d49bc", func := "quittance/quittancelaw09.AnchorBounds", spec := "anchorBounds", unfollowed := true, recurses := true, named := ["quittance/civil.ahead"], plainKeys := false, apart := false, laid := [("quittance/civil.ahead", laid_quittance_civil_ahead)], narrowed := true }
def AnchorBoundsUptoSaid : Prop := anchorBoundsUptoRow.holds Tryd.pinned (OpenSpec.upto anchorBoundsSpec)

/-- 'quittancelaw09.AnchorFinds', WHERE WHAT IT READS IS OF BULK AT MOST 1048576: true; the input reads as it did. -/
def anchorFindsUptoRow : OpenClaim := { program := "ytkgjbidkdbjfpaadoor", sum := "89af613e898cac1ded4c9e6cba55af7d3d2c562be90d50bb5ca10bbcd08d49bc", func := "quittance/quittancelaw09.AnchorFinds", spec := "anchorFinds", unfollowed := true, recurses := true, named := ["quittance/civil.ahead"], plainKeys := false, apart := false, laid := [("quittance/civil.ahead", laid_quittance_civil_ahead)], narrowed := true }
def AnchorFindsUptoSaid : Prop := anchorFindsUptoRow.holds Tryd.pinned (OpenSpec.upto anchorFindsSpec)

/-- 'quittancelaw09.AnchorRises', WHERE WHAT IT READS IS OF BULK AT MOST 1048576: true; the input reads as it did. -/
def anchorRisesUptoRow : OpenClaim := { program := "ytkgjbidkdbjfpaadoor", sum := "89af613e898cac1ded4c9e6cba55af7d3d2c562be90d50bb5ca10bbcd08d49bc", func := "quittance/quittancelaw09.AnchorRises", spec := "anchorRises", unfollowed := true, recurses := true, named := ["quittance/civil.ahead"], plainKeys := false, apart := false, laid := [("quittance/civil.ahead", laid_quittance_civil_ahead)], narrowed := true }
def AnchorRisesUptoSaid : Prop := anchorRisesUptoRow.holds Tryd.pinned (OpenSpec.upto anchorRisesSpec)

/-- 'quittancelaw09.AnchorLong', WHERE WHAT IT READS IS OF BULK AT MOST 1048576: true; the input reads as it did. -/
def anchorLongUptoRow : OpenClaim := { program := "ytkgjbidkdbjfpaadoor", sum := "89af613e898cac1ded4c9e6cba55af7d3d2c562be90d50bb5ca10bbcd08d49bc", func := "quittance/quittancelaw09.AnchorLong", spec := "anchorLong", unfollowed := true, recurses := true, named := ["quittance/civil.ahead"], plainKeys := false, apart := false, laid := [("quittance/civil.ahead", laid_quittance_civil_ahead)], narrowed := true }
def AnchorLongUptoSaid : Prop := anchorLongUptoRow.holds Tryd.pinned (OpenSpec.upto anchorLongSpec)

/-- 'quittancelaw24.InvoicesTell', WHERE WHAT IT READS IS OF BULK AT MOST 1048576: true; the input reads as it did. -/
def invoicesTellUptoRow : OpenClaim := { program := "ytkgjbidkdbjfpaadoor", sum := "89af613e898cac1ded4c9e6cba55af7d3d2c562be90d50bb5ca10bbcd08d49bc", func := "quittance/quittancelaw24.InvoicesTell", spec := "invoicesTell", unfollowed := true, recurses := true, named := ["quittance/invoices.bounds"], plainKeys := false, apart := false, laid := [("quittance/invoices.bounds", laid_quittance_invoices_bounds)], narrowed := true }
def InvoicesTellUptoSaid : Prop := invoicesTellUptoRow.holds Tryd.pinned (OpenSpec.upto invoicesTellSpec)

/-- 'quittancelaw24.InvoicesAge', WHERE WHAT IT READS IS OF BULK AT MOST 1048576: true; the input reads as it did. -/
def invoicesAgeUptoRow : OpenClaim := { program := "ytkgjbidkdbjfpaadoor", sum := "89af613e898cac1ded4c9e6cba55af7d3d2c562be90d50bb5ca10bbcd08d49bc", func := "quittance/quittancelaw24.InvoicesAge", spec := "invoicesAge", unfollowed := true, recurses := true, named := ["quittance/invoices.bounds"], plainKeys := false, apart := false, laid := [("quittance/invoices.bounds", laid_quittance_invoices_bounds)], narrowed := true }
def InvoicesAgeUptoSaid : Prop := invoicesAgeUptoRow.holds Tryd.pinned (OpenSpec.upto invoicesAgeSpec)

/-- 'quittancelaw24.InvoicesWhole', WHERE WHAT IT READS IS OF BULK AT MOST 1048576: true; the input reads as it did. -/
def invoicesWholeUptoRow : OpenClaim := { program := "ytkgjbidkdbjfpaadoor", sum := "89af613e898cac1ded4c9e6cba55af7d3d2c562be90d50bb5ca10bbcd08d49bc", func := "quittance/quittancelaw24.InvoicesWhole", spec := "invoicesWhole", unfollowed := true, recurses := true, named := ["quittance/invoices.bounds"], plainKeys := false, apart := false, laid := [("quittance/invoices.bounds", laid_quittance_invoices_bounds)], narrowed := true }
def InvoicesWholeUptoSaid : Prop := invoicesWholeUptoRow.holds Tryd.pinned (OpenSpec.upto invoicesWholeSpec)

/-- 'quittancelaw24.InvoicesOlder', WHERE WHAT IT READS IS OF BULK AT MOST 1048576: true; the input reads as it did. -/
def invoicesOlderUptoRow : OpenClaim := { program := "ytkgjbidkdbjfpaadoor", sum := "89af613e898cac1ded4c9e6cba55af7d3d2c562be90d50bb5ca10bbcd08d49bc", func := "quittance/quittancelaw24.InvoicesOlder", spec := "invoicesOlder", unfollowed := true, recurses := true, named := ["quittance/invoices.bounds"], plainKeys := false, apart := false, laid := [("quittance/invoices.bounds", laid_quittance_invoices_bounds)], narrowed := true }
def InvoicesOlderUptoSaid : Prop := invoicesOlderUptoRow.holds Tryd.pinned (OpenSpec.upto invoicesOlderSpec)

/-- 'quittancelaw27.DunningRuns', WHERE WHAT IT READS IS OF BULK AT MOST 1048576: true; the input reads as it did. -/
def dunningRunsUptoRow : OpenClaim := { program := "ytkgjbidkdbjfpaadoor", sum := "89af613e898cac1ded4c9e6cba55af7d3d2c562be90d50bb5ca10bbcd08d49bc", func := "quittance/quittancelaw27.DunningRuns", spec := "dunningRuns", unfollowed := true, recurses := true, named := ["quittance/invoices.bounds"], plainKeys := false, apart := false, laid := [("quittance/invoices.bounds", laid_quittance_invoices_bounds)], narrowed := true }
def DunningRunsUptoSaid : Prop := dunningRunsUptoRow.holds Tryd.pinned (OpenSpec.upto dunningRunsSpec)

/-- 'quittancelaw27.DunningStages', WHERE WHAT IT READS IS OF BULK AT MOST 1048576: true; the input reads as it did. -/
def dunningStagesUptoRow : OpenClaim := { program := "ytkgjbidkdbjfpaadoor", sum := "89af613e898cac1ded4c9e6cba55af7d3d2c562be90d50bb5ca10bbcd08d49bc", func := "quittance/quittancelaw27.DunningStages", spec := "dunningStages", unfollowed := true, recurses := true, named := ["quittance/invoices.bounds"], plainKeys := false, apart := false, laid := [("quittance/invoices.bounds", laid_quittance_invoices_bounds)], narrowed := true }
def DunningStagesUptoSaid : Prop := dunningStagesUptoRow.holds Tryd.pinned (OpenSpec.upto dunningStagesSpec)

/-- 'quittancelaw27.DunningAgain', WHERE WHAT IT READS IS OF BULK AT MOST 1048576: true; the input reads as it did. -/
def dunningAgainUptoRow : OpenClaim := { program := "ytkgjbidkdbjfpaadoor", sum := "89af613e898cac1ded4c9e6cba55af7d3d2c562be90d50bb5ca10bbcd08d49bc", func := "quittance/quittancelaw27.DunningAgain", spec := "dunningAgain", unfollowed := true, recurses := true, named := ["quittance/invoices.bounds"], plainKeys := false, apart := false, laid := [("quittance/invoices.bounds", laid_quittance_invoices_bounds)], narrowed := true }
def DunningAgainUptoSaid : Prop := dunningAgainUptoRow.holds Tryd.pinned (OpenSpec.upto dunningAgainSpec)

end Rows
end Go.Proofs.YtkgjbidkdbjfpaaDoor
