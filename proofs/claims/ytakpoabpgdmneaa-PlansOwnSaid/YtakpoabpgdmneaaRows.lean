/-
  No cell of these rows narrows 'for every input' (looked for: loops, veiled, ifaces, maps, wideKeys, modest, calm, conditions, laid).
  DERIVED. THE GIVEN ROWS OF THIS SEAT. 3 by the template 'for every input the law returns true; each argument reads behind the call as it read before'; 0 by the template 'total and deterministic' (their statements: YtakpoabpgdmneaaTotals.lean).
  GIVEN WITH THE SEED: the statements are not yours to turn. If you find one false, say at which input.
  Laid BY PROGRAM, IN A SANDBOX (cutbox-rows.mjs): the forced cells as the released guide's own fill.sh prints them over the translation 84a4a1d567a358a5… (all of the seat's roots in one cut). By AI agents, Wed Nov 11 2026. No macro, syntax, notation, axiom, sorry.
-/
import Derived.Test.YtakpoabpgdmneaaChecked
import GoSem.Claim
import GoSem.ClaimJoined
import GoSem.ClaimMapViews
import Derived.JoinedTies
import Derived.KernelRfl
namespace Go.Proofs.Ytakpoabpgdmneaa
/- THE CELL 'sum', in the pinned program and in every row, IS THE sha256 OF THE DUMP (.gsa) THAT YtakpoabpgdmneaaProg.lean LOADS. Nothing in Lean hashes anything: it is a label: what it is worth is what the hold of that sum in a sandbox is worth. -/
noncomputable def Try.pinned : Pinned := { name := "ytakpoabpgdmneaa", sum := "84a4a1d567a358a5c3beffa9ec00925b6618f8ce3d02e5f1969ff4fc1a8bc327", checked := Try.checked }
namespace Rows
def none {H : Type} : Left H := { results := [], args := [] }

/-- 'quittancelaw22.PlansTell': WHATEVER THE INPUT: true; the input reads as it did. -/
def plansTellSpec : ChangeSpec := { name := "plansTell", fn := fun _ => fun
  | [d] => { results := [.lit (.bool true)], args := [d] }
  | _ => none }
def plansTellRow : OpenClaim := { program := "ytakpoabpgdmneaa", sum := "84a4a1d567a358a5c3beffa9ec00925b6618f8ce3d02e5f1969ff4fc1a8bc327", func := "quittance/quittancelaw22.PlansTell", spec := "plansTell", unfollowed := true, recurses := true, apart := false }
def PlansTellSaid : Prop := plansTellRow.holds Try.pinned (OpenSpec.ofChange plansTellSpec)

/-- ITS FALSE NEIGHBOUR: 'it returns false'. Refute it at one input. -/
def plansTellWrong : ChangeSpec := { name := "plansTell", fn := fun _ => fun
  | [d] => { results := [.lit (.bool false)], args := [d] }
  | _ => none }
def PlansTellWrongFalsely : Prop := plansTellRow.holds Try.pinned (OpenSpec.ofChange plansTellWrong)

/-- 'quittancelaw22.PlansStay': WHATEVER THE INPUT: true; the input reads as it did. -/
def plansStaySpec : ChangeSpec := { name := "plansStay", fn := fun _ => fun
  | [d1, d2, d3] => { results := [.lit (.bool true)], args := [d1, d2, d3] }
  | _ => none }
def plansStayRow : OpenClaim := { program := "ytakpoabpgdmneaa", sum := "84a4a1d567a358a5c3beffa9ec00925b6618f8ce3d02e5f1969ff4fc1a8bc327", func := "quittance/quittancelaw22.PlansStay", spec := "plansStay", unfollowed := true, recurses := true, apart := false }
def PlansStaySaid : Prop := plansStayRow.holds Try.pinned (OpenSpec.ofChange plansStaySpec)

/-- ITS FALSE NEIGHBOUR: 'it returns false'. Refute it at one input. -/
def plansStayWrong : ChangeSpec := { name := "plansStay", fn := fun _ => fun
  | [d1, d2, d3] => { results := [.lit (.bool false)], args := [d1, d2, d3] }
  | _ => none }
def PlansStayWrongFalsely : Prop := plansStayRow.holds Try.pinned (OpenSpec.ofChange plansStayWrong)

/-- 'quittancelaw22.PlansOwn': WHATEVER THE INPUT: true; the input reads as it did. -/
def plansOwnSpec : ChangeSpec := { name := "plansOwn", fn := fun _ => fun
  | [d] => { results := [.lit (.bool true)], args := [d] }
  | _ => none }
def plansOwnRow : OpenClaim := { program := "ytakpoabpgdmneaa", sum := "84a4a1d567a358a5c3beffa9ec00925b6618f8ce3d02e5f1969ff4fc1a8bc327", func := "quittance/quittancelaw22.PlansOwn", spec := "plansOwn", unfollowed := true, recurses := true, apart := false }
def PlansOwnSaid : Prop := plansOwnRow.holds Try.pinned (OpenSpec.ofChange plansOwnSpec)

/-- ITS FALSE NEIGHBOUR: 'it returns false'. Refute it at one input. -/
def plansOwnWrong : ChangeSpec := { name := "plansOwn", fn := fun _ => fun
  | [d] => { results := [.lit (.bool false)], args := [d] }
  | _ => none }
def PlansOwnWrongFalsely : Prop := plansOwnRow.holds Try.pinned (OpenSpec.ofChange plansOwnWrong)

/- THE SECOND FORM. 'bulk': how many values and letters a reading holds, each counted each time it is reached (what is shared counts as often as it is met; a slice's spare places count too). A statement '..UptoSaid' is the law's where the arguments, and the package variables that the reading takes, are together of bulk at most 1048576: NARROWER than '..Said'. Prove '..Said' where nothing that the law and all that it calls make is longer than what came in: it says more and counts as full. Else prove '..UptoSaid'. A law counts once. -/
mutual
def uptoBulk {H : Type} : DataW H → Nat
  | .lit (.string bytes) => bytes.length + 1
  | .lit _ => 1
  | .nil => 1
  | .ptr d => uptoBulk d + 1
  | .slice elems spare => uptoBulkAll elems + uptoBulkAll spare + 1
  | .agg parts => uptoBulkAll parts + 1
  | .iface _ d => uptoBulk d + 1
  | .map entries => uptoBulkEntries entries + 1
  | .held _ => 1
def uptoBulkAll {H : Type} : List (DataW H) → Nat
  | [] => 0
  | d :: r => uptoBulk d + uptoBulkAll r
def uptoBulkEntries {H : Type} : List (Lit × DataW H) → Nat
  | [] => 0
  | x :: r => uptoBulkEntry x + uptoBulkEntries r
def uptoBulkEntry {H : Type} : Lit × DataW H → Nat
  | (.string bytes, d) => bytes.length + uptoBulk d + 1
  | (_, d) => uptoBulk d + 1
 end
def uptoSmall : (H : Type) → List (DataW H) → Bool := fun _ ds => decide (uptoBulkAll ds ≤ 1048576)
def OpenSpec.upto (s : _root_.Go.ChangeSpec) : _root_.Go.OpenSpec := { _root_.Go.OpenSpec.ofChange s with cond := some uptoSmall }

/-- 'quittancelaw22.PlansTell', WHERE WHAT IT READS IS OF BULK AT MOST 1048576: true; the input reads as it did. -/
def plansTellUptoRow : OpenClaim := { program := "ytakpoabpgdmneaa", sum := "84a4a1d567a358a5c3beffa9ec00925b6618f8ce3d02e5f1969ff4fc1a8bc327", func := "quittance/quittancelaw22.PlansTell", spec := "plansTell", unfollowed := true, recurses := true, apart := false, narrowed := true }
def PlansTellUptoSaid : Prop := plansTellUptoRow.holds Try.pinned (OpenSpec.upto plansTellSpec)

/-- 'quittancelaw22.PlansStay', WHERE WHAT IT READS IS OF BULK AT MOST 1048576: true; the input reads as it did. -/
def plansStayUptoRow : OpenClaim := { program := "ytakpoabpgdmneaa", sum := "84a4a1d567a358a5c3beffa9ec00925b6618f8ce3d02e5f1969ff4fc1a8bc327", func := "quittance/quittancelaw22.PlansStay", spec := "plansStay", unfollowed := true, recurses := true, apart := false, narrowed := true }
def PlansStayUptoSaid : Prop := plansStayUptoRow.holds Try.pinned (OpenSpec.upto plansStaySpec)

/-- 'quittancelaw22.PlansOwn', WHERE WHAT IT READS IS OF BULK AT MOST 1048576: true; the input reads as it did. -/
def plansOwnUptoRow : OpenClaim := { program := "ytakpoabpgdmneaa", sum := "84a4a1d567a358a5c3beffa9ec00925b6618f8ce3d02e5f1969ff4fc1a8bc327", func := "quittance/quittancelaw22.PlansOwn", spec := "plansOwn", unfollowed := true, recurses := true, apart := false, narrowed := true }
def PlansOwnUptoSaid : Prop := plansOwnUptoRow.holds Try.pinned (OpenSpec.upto plansOwnSpec)

end Rows
end Go.Proofs.Ytakpoabpgdmneaa
