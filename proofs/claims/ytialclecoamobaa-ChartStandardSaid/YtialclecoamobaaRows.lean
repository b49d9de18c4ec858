/-
  No cell of these rows narrows 'for every input' (looked for: loops, veiled, ifaces, maps, wideKeys, modest, calm, conditions, laid).
  DERIVED. THE GIVEN ROWS OF THIS SEAT. 3 by the template 'for every input the law returns true; each argument reads behind the call as it read before'; 0 by the template 'total and deterministic' (their statements: YtialclecoamobaaTotals.lean).
  GIVEN WITH THE SEED: the statements are not yours to turn. If you find one false, say at which input.
  Laid BY PROGRAM, IN A SANDBOX (cutbox-rows.mjs): the forced cells as the released guide's own fill.sh prints them over the translation 7810e0cabeda4561… (all of the seat's roots in one cut). By AI agents, Wed Nov 11 2026. No macro, syntax, notation, axiom, sorry.
-/
import Derived.Test.YtialclecoamobaaChecked
import GoSem.Claim
import GoSem.ClaimJoined
import GoSem.ClaimMapViews
import Derived.JoinedTies
import Derived.KernelRfl
namespace Go.Proofs.Ytialclecoamobaa
/- THE CELL 'sum', in the pinned program and in every row, IS THE sha256 OF THE DUMP (.gsa) THAT YtialclecoamobaaProg.lean LOADS. Nothing in Lean hashes anything: it is a label: what it is worth is what the hold of that sum in a sandbox is worth. -/
noncomputable def Try.pinned : Pinned := { name := "ytialclecoamobaa", sum := "7810e0cabeda45611da574109a88c8a3f32aed6579ba2012ef2a62d3dbfc5c8d", checked := Try.checked }
namespace Rows
def none {H : Type} : Left H := { results := [], args := [] }

/-- 'quittancelaw19.ChartTells': WHATEVER THE INPUT: true; the input reads as it did. -/
def chartTellsSpec : ChangeSpec := { name := "chartTells", fn := fun _ => fun
  | [d1, d2] => { results := [.lit (.bool true)], args := [d1, d2] }
  | _ => none }
def chartTellsRow : OpenClaim := { program := "ytialclecoamobaa", sum := "7810e0cabeda45611da574109a88c8a3f32aed6579ba2012ef2a62d3dbfc5c8d", func := "quittance/quittancelaw19.ChartTells", spec := "chartTells", unfollowed := true, recurses := true, apart := false }
def ChartTellsSaid : Prop := chartTellsRow.holds Try.pinned (OpenSpec.ofChange chartTellsSpec)

/-- ITS FALSE NEIGHBOUR: 'it returns false'. Refute it at one input. -/
def chartTellsWrong : ChangeSpec := { name := "chartTells", fn := fun _ => fun
  | [d1, d2] => { results := [.lit (.bool false)], args := [d1, d2] }
  | _ => none }
def ChartTellsWrongFalsely : Prop := chartTellsRow.holds Try.pinned (OpenSpec.ofChange chartTellsWrong)

/-- 'quittancelaw19.ChartTree': WHATEVER THE INPUT: true; the input reads as it did. -/
def chartTreeSpec : ChangeSpec := { name := "chartTree", fn := fun _ => fun
  | [d] => { results := [.lit (.bool true)], args := [d] }
  | _ => none }
def chartTreeRow : OpenClaim := { program := "ytialclecoamobaa", sum := "7810e0cabeda45611da574109a88c8a3f32aed6579ba2012ef2a62d3dbfc5c8d", func := "quittance/quittancelaw19.ChartTree", spec := "chartTree", unfollowed := true, recurses := true, apart := false }
def ChartTreeSaid : Prop := chartTreeRow.holds Try.pinned (OpenSpec.ofChange chartTreeSpec)

/-- ITS FALSE NEIGHBOUR: 'it returns false'. Refute it at one input. -/
def chartTreeWrong : ChangeSpec := { name := "chartTree", fn := fun _ => fun
  | [d] => { results := [.lit (.bool false)], args := [d] }
  | _ => none }
def ChartTreeWrongFalsely : Prop := chartTreeRow.holds Try.pinned (OpenSpec.ofChange chartTreeWrong)

/-- 'quittancelaw19.ChartStandard': WHATEVER THE INPUT: true; the input reads as it did. -/
def chartStandardSpec : ChangeSpec := { name := "chartStandard", fn := fun _ => fun
  | [d] => { results := [.lit (.bool true)], args := [d] }
  | _ => none }
def chartStandardRow : OpenClaim := { program := "ytialclecoamobaa", sum := "7810e0cabeda45611da574109a88c8a3f32aed6579ba2012ef2a62d3dbfc5c8d", func := "quittance/quittancelaw19.ChartStandard", spec := "chartStandard", unfollowed := true, recurses := true, apart := false }
def ChartStandardSaid : Prop := chartStandardRow.holds Try.pinned (OpenSpec.ofChange chartStandardSpec)

/-- ITS FALSE NEIGHBOUR: 'it returns false'. Refute it at one input. -/
def chartStandardWrong : ChangeSpec := { name := "chartStandard", fn := fun _ => fun
  | [d] => { results := [.lit (.bool false)], args := [d] }
  | _ => none }
def ChartStandardWrongFalsely : Prop := chartStandardRow.holds Try.pinned (OpenSpec.ofChange chartStandardWrong)

/- THE SECOND FORM. 'bulk': how many values and letters a reading holds, each counted each time it is reached (what is shared counts as often as it is met; a slice's spare places count too). A statement '..UptoSaid' is the law's where the arguments, and the package variables that the reading takes, are together of bulk at most 1048576: NARROWER than '..Said'. Prove '..Said' where nothing that the law and all that it calls make is longer than what came in: it says more and counts as full. Else prove '..UptoSaid'. A law counts once. -/
mutual
def uptoBulk {H : Type} : DataW H → Nat
  | .lit (.string bytes) => bytes.length + 1
  | .lit _ => 1
  | .nil => 1
  | .ptr d => uptoBulk d + 1
  | .slice elems spare => uptoBulkAll elems + uptoBulkAll spare + 1
  | .agg parts => uptoBulkAll parts + 1
  | .iface _ d => uptoBulk d + 1
  | .map entries => uptoBulkEntries entries + 1
  | .held _ => 1
def uptoBulkAll {H : Type} : List (DataW H) → Nat
  | [] => 0
  | d :: r => uptoBulk d + uptoBulkAll r
def uptoBulkEntries {H : Type} : List (Lit × DataW H) → Nat
  | [] => 0
  | x :: r => uptoBulkEntry x + uptoBulkEntries r
def uptoBulkEntry {H : Type} : Lit × DataW H → Nat
  | (.string bytes, d) => bytes.length + uptoBulk d + 1
  | (_, d) => uptoBulk d + 1
 end
def uptoSmall : (H : Type) → List (DataW H) → Bool := fun _ ds => decide (uptoBulkAll ds ≤ 1048576)
def OpenSpec.upto (s : _root_.Go.ChangeSpec) : _root_.Go.OpenSpec := { _root_.Go.OpenSpec.ofChange s with cond := some uptoSmall }

/-- 'quittancelaw19.ChartTells', WHERE WHAT IT READS IS OF BULK AT MOST 1048576: true; the input reads as it did. -/
def chartTellsUptoRow : OpenClaim := { program := "ytialclecoamobaa", sum := "7810e0cabeda45611da574109a88c8a3f32aed6579ba2012ef2a62d3dbfc5c8d", func := "quittance/quittancelaw19.ChartTells", spec := "chartTells", unfollowed := true, recurses := true, apart := false, narrowed := true }
def ChartTellsUptoSaid : Prop := chartTellsUptoRow.holds Try.pinned (OpenSpec.upto chartTellsSpec)

/-- 'quittancelaw19.ChartTree', WHERE WHAT IT READS IS OF BULK AT MOST 1048576: true; the input reads as it did. -/
def chartTreeUptoRow : OpenClaim := { program := "ytialclecoamobaa", sum := "7810e0cabeda45611da574109a88c8a3f32aed6579ba2012ef2a62d3dbfc5c8d", func := "quittance/quittancelaw19.ChartTree", spec := "chartTree", unfollowed := true, recurses := true, apart := false, narrowed := true }
def ChartTreeUptoSaid : Prop := chartTreeUptoRow.holds Try.pinned (OpenSpec.upto chartTreeSpec)

/-- 'quittancelaw19.ChartStandard', WHERE WHAT IT READS IS OF BULK AT MOST 1048576: true; the input reads as it did. -/
def chartStandardUptoRow : OpenClaim := { program := "ytialclecoamobaa", sum := "7810e0cabeda45611da574109a88c8a3f32aed6579ba2012ef2a62d3dbfc5c8d", func := "quittance/quittancelaw19.ChartStandard", spec := "chartStandard", unfollowed := true, recurses := true, apart := false, narrowed := true }
def ChartStandardUptoSaid : Prop := chartStandardUptoRow.holds Try.pinned (OpenSpec.upto chartStandardSpec)

end Rows
end Go.Proofs.Ytialclecoamobaa
