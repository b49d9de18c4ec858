/-
  No cell of these rows narrows 'for every input' (looked for: loops, veiled, ifaces, maps, wideKeys, modest, calm, conditions, laid).
  DERIVED. THE GIVEN ROWS OF THIS SEAT. 6 by the template 'for every input the law returns true; each argument reads behind the call as it read before'; 0 by the template 'total and deterministic' (their statements: YtialjglgkfcdmaaTotals.lean).
  GIVEN WITH THE SEED: the statements are not yours to turn. If you find one false, say at which input.
  Laid BY PROGRAM, IN A SANDBOX (cutbox-rows.mjs): the forced cells as the released guide's own fill.sh prints them over the translation a1f72ec24b3e5460… (all of the seat's roots in one cut). By AI agents, Wed Nov 11 2026. No macro, syntax, notation, axiom, sorry.
-/
import Derived.Test.YtialjglgkfcdmaaChecked
import GoSem.Claim
import GoSem.ClaimJoined
import GoSem.ClaimMapViews
import Derived.JoinedTies
import Derived.KernelRfl
namespace Go.Proofs.Ytialjglgkfcdmaa
/- THE CELL 'sum', in the pinned program and in every row, IS THE sha256 OF THE DUMP (.gsa) THAT YtialjglgkfcdmaaProg.lean LOADS. Nothing in Lean hashes anything: it is a label: what it is worth is what the hold of that sum in a sandbox is worth. -/
noncomputable def Try.pinned : Pinned := { name := "ytialjglgkfcdmaa", sum := "a1f72ec24b3e5460245165e0a70b479ed93398246d12a52695b77401b1c666f2", checked := Try.checked }
namespace Rows
def none {H : Type} : Left H := { results := [], args := [] }

/-- 'quittancelaw15.CodecPuts': WHATEVER THE INPUT: true; the input reads as it did. -/
def codecPutsSpec : ChangeSpec := { name := "codecPuts", fn := fun _ => fun
  | [d1, d2] => { results := [.lit (.bool true)], args := [d1, d2] }
  | _ => none }
def codecPutsRow : OpenClaim := { program := "ytialjglgkfcdmaa", sum := "a1f72ec24b3e5460245165e0a70b479ed93398246d12a52695b77401b1c666f2", func := "quittance/quittancelaw15.CodecPuts", spec := "codecPuts", unfollowed := true, recurses := true, apart := false }
def CodecPutsSaid : Prop := codecPutsRow.holds Try.pinned (OpenSpec.ofChange codecPutsSpec)

/-- ITS FALSE NEIGHBOUR: 'it returns false'. Refute it at one input. -/
def codecPutsWrong : ChangeSpec := { name := "codecPuts", fn := fun _ => fun
  | [d1, d2] => { results := [.lit (.bool false)], args := [d1, d2] }
  | _ => none }
def CodecPutsWrongFalsely : Prop := codecPutsRow.holds Try.pinned (OpenSpec.ofChange codecPutsWrong)

/-- 'quittancelaw15.CodecGets': WHATEVER THE INPUT: true; the input reads as it did. -/
def codecGetsSpec : ChangeSpec := { name := "codecGets", fn := fun _ => fun
  | [d1, d2] => { results := [.lit (.bool true)], args := [d1, d2] }
  | _ => none }
def codecGetsRow : OpenClaim := { program := "ytialjglgkfcdmaa", sum := "a1f72ec24b3e5460245165e0a70b479ed93398246d12a52695b77401b1c666f2", func := "quittance/quittancelaw15.CodecGets", spec := "codecGets", unfollowed := true, recurses := true, apart := false }
def CodecGetsSaid : Prop := codecGetsRow.holds Try.pinned (OpenSpec.ofChange codecGetsSpec)

/-- ITS FALSE NEIGHBOUR: 'it returns false'. Refute it at one input. -/
def codecGetsWrong : ChangeSpec := { name := "codecGets", fn := fun _ => fun
  | [d1, d2] => { results := [.lit (.bool false)], args := [d1, d2] }
  | _ => none }
def CodecGetsWrongFalsely : Prop := codecGetsRow.holds Try.pinned (OpenSpec.ofChange codecGetsWrong)

/-- 'quittancelaw15.CodecBack': WHATEVER THE INPUT: true; the input reads as it did. -/
def codecBackSpec : ChangeSpec := { name := "codecBack", fn := fun _ => fun
  | [d1, d2, d3] => { results := [.lit (.bool true)], args := [d1, d2, d3] }
  | _ => none }
def codecBackRow : OpenClaim := { program := "ytialjglgkfcdmaa", sum := "a1f72ec24b3e5460245165e0a70b479ed93398246d12a52695b77401b1c666f2", func := "quittance/quittancelaw15.CodecBack", spec := "codecBack", unfollowed := true, recurses := true, apart := false }
def CodecBackSaid : Prop := codecBackRow.holds Try.pinned (OpenSpec.ofChange codecBackSpec)

/-- ITS FALSE NEIGHBOUR: 'it returns false'. Refute it at one input. -/
def codecBackWrong : ChangeSpec := { name := "codecBack", fn := fun _ => fun
  | [d1, d2, d3] => { results := [.lit (.bool false)], args := [d1, d2, d3] }
  | _ => none }
def CodecBackWrongFalsely : Prop := codecBackRow.holds Try.pinned (OpenSpec.ofChange codecBackWrong)

/-- 'quittancelaw15.CodecSchemas': WHATEVER THE INPUT: true; the input reads as it did. -/
def codecSchemasSpec : ChangeSpec := { name := "codecSchemas", fn := fun _ => fun
  | [d1, d2] => { results := [.lit (.bool true)], args := [d1, d2] }
  | _ => none }
def codecSchemasRow : OpenClaim := { program := "ytialjglgkfcdmaa", sum := "a1f72ec24b3e5460245165e0a70b479ed93398246d12a52695b77401b1c666f2", func := "quittance/quittancelaw15.CodecSchemas", spec := "codecSchemas", unfollowed := true, recurses := true, apart := false }
def CodecSchemasSaid : Prop := codecSchemasRow.holds Try.pinned (OpenSpec.ofChange codecSchemasSpec)

/-- ITS FALSE NEIGHBOUR: 'it returns false'. Refute it at one input. -/
def codecSchemasWrong : ChangeSpec := { name := "codecSchemas", fn := fun _ => fun
  | [d1, d2] => { results := [.lit (.bool false)], args := [d1, d2] }
  | _ => none }
def CodecSchemasWrongFalsely : Prop := codecSchemasRow.holds Try.pinned (OpenSpec.ofChange codecSchemasWrong)

/-- 'quittancelaw15.CodecPlaces': WHATEVER THE INPUT: true; the input reads as it did. -/
def codecPlacesSpec : ChangeSpec := { name := "codecPlaces", fn := fun _ => fun
  | [d] => { results := [.lit (.bool true)], args := [d] }
  | _ => none }
def codecPlacesRow : OpenClaim := { program := "ytialjglgkfcdmaa", sum := "a1f72ec24b3e5460245165e0a70b479ed93398246d12a52695b77401b1c666f2", func := "quittance/quittancelaw15.CodecPlaces", spec := "codecPlaces", unfollowed := true, recurses := true, apart := false }
def CodecPlacesSaid : Prop := codecPlacesRow.holds Try.pinned (OpenSpec.ofChange codecPlacesSpec)

/-- ITS FALSE NEIGHBOUR: 'it returns false'. Refute it at one input. -/
def codecPlacesWrong : ChangeSpec := { name := "codecPlaces", fn := fun _ => fun
  | [d] => { results := [.lit (.bool false)], args := [d] }
  | _ => none }
def CodecPlacesWrongFalsely : Prop := codecPlacesRow.holds Try.pinned (OpenSpec.ofChange codecPlacesWrong)

/-- 'quittancelaw15.CodecOrder': WHATEVER THE INPUT: true; the input reads as it did. -/
def codecOrderSpec : ChangeSpec := { name := "codecOrder", fn := fun _ => fun
  | [d1, d2] => { results := [.lit (.bool true)], args := [d1, d2] }
  | _ => none }
def codecOrderRow : OpenClaim := { program := "ytialjglgkfcdmaa", sum := "a1f72ec24b3e5460245165e0a70b479ed93398246d12a52695b77401b1c666f2", func := "quittance/quittancelaw15.CodecOrder", spec := "codecOrder", unfollowed := true, recurses := true, apart := false }
def CodecOrderSaid : Prop := codecOrderRow.holds Try.pinned (OpenSpec.ofChange codecOrderSpec)

/-- ITS FALSE NEIGHBOUR: 'it returns false'. Refute it at one input. -/
def codecOrderWrong : ChangeSpec := { name := "codecOrder", fn := fun _ => fun
  | [d1, d2] => { results := [.lit (.bool false)], args := [d1, d2] }
  | _ => none }
def CodecOrderWrongFalsely : Prop := codecOrderRow.holds Try.pinned (OpenSpec.ofChange codecOrderWrong)

/- THE SECOND FORM. 'bulk': how many values and letters a reading holds, each counted each time it is reached (what is shared counts as often as it is met; a slice's spare places count too). A statement '..UptoSaid' is the law's where the arguments, and the package variables that the reading takes, are together of bulk at most 1048576: NARROWER than '..Said'. Prove '..Said' where nothing that the law and all that it calls make is longer than what came in: it says more and counts as full. Else prove '..UptoSaid'. A law counts once. -/
mutual
def uptoBulk {H : Type} : DataW H → Nat
  | .lit (.string bytes) => bytes.length + 1
  | .lit _ => 1
  | .nil => 1
  | .ptr d => uptoBulk d + 1
  | .slice elems spare => uptoBulkAll elems + uptoBulkAll spare + 1
  | .agg parts => uptoBulkAll parts + 1
  | .iface _ d => uptoBulk d + 1
  | .map entries => uptoBulkEntries entries + 1
  | .held _ => 1
def uptoBulkAll {H : Type} : List (DataW H) → Nat
  | [] => 0
  | d :: r => uptoBulk d + uptoBulkAll r
def uptoBulkEntries {H : Type} : List (Lit × DataW H) → Nat
  | [] => 0
  | x :: r => uptoBulkEntry x + uptoBulkEntries r
def uptoBulkEntry {H : Type} : Lit × DataW H → Nat
  | (.string bytes, d) => bytes.length + uptoBulk d + 1
  | (_, d) => uptoBulk d + 1
 end
def uptoSmall : (H : Type) → List (DataW H) → Bool := fun _ ds => decide (uptoBulkAll ds ≤ 1048576)
def OpenSpec.upto (s : _root_.Go.ChangeSpec) : _root_.Go.OpenSpec := { _root_.Go.OpenSpec.ofChange s with cond := some uptoSmall }

/-- 'quittancelaw15.CodecPuts', WHERE WHAT IT READS IS OF BULK AT MOST 1048576: true; the input reads as it did. -/
def codecPutsUptoRow : OpenClaim := { program := "ytialjglgkfcdmaa", sum := "a1f72ec24b3e5460245165e0a70b479ed93398246d12a52695b77401b1c666f2", func := "quittance/quittancelaw15.CodecPuts", spec := "codecPuts", unfollowed := true, recurses := true, apart := false, narrowed := true }
def CodecPutsUptoSaid : Prop := codecPutsUptoRow.holds Try.pinned (OpenSpec.upto codecPutsSpec)

/-- 'quittancelaw15.CodecGets', WHERE WHAT IT READS IS OF BULK AT MOST 1048576: true; the input reads as it did. -/
def codecGetsUptoRow : OpenClaim := { program := "ytialjglgkfcdmaa", sum := "a1f72ec24b3e5460245165e0a70b479ed93398246d12a52695b77401b1c666f2", func := "quittance/quittancelaw15.CodecGets", spec := "codecGets", unfollowed := true, recurses := true, apart := false, narrowed := true }
def CodecGetsUptoSaid : Prop := codecGetsUptoRow.holds Try.pinned (OpenSpec.upto codecGetsSpec)

/-- 'quittancelaw15.CodecBack', WHERE WHAT IT READS IS OF BULK AT MOST 1048576: true; the input reads as it did. -/
def codecBackUptoRow : OpenClaim := { program := "ytialjglgkfcdmaa", sum := "a1f72ec24b3e5460245165e0a70b479ed93398246d12a52695b77401b1c666f2", func := "quittance/quittancelaw15.CodecBack", spec := "codecBack", unfollowed := true, recurses := true, apart := false, narrowed := true }
def CodecBackUptoSaid : Prop := codecBackUptoRow.holds Try.pinned (OpenSpec.upto codecBackSpec)

/-- 'quittancelaw15.CodecSchemas', WHERE WHAT IT READS IS OF BULK AT MOST 1048576: true; the input reads as it did. -/
def codecSchemasUptoRow : OpenClaim := { program := "ytialjglgkfcdmaa", sum := "a1f72ec24b3e5460245165e0a70b479ed93398246d12a52695b77401b1c666f2", func := "quittance/quittancelaw15.CodecSchemas", spec := "codecSchemas", unfollowed := true, recurses := true, apart := false, narrowed := true }
def CodecSchemasUptoSaid : Prop := codecSchemasUptoRow.holds Try.pinned (OpenSpec.upto codecSchemasSpec)

/-- 'quittancelaw15.CodecPlaces', WHERE WHAT IT READS IS OF BULK AT MOST 1048576: true; the input reads as it did. -/
def codecPlacesUptoRow : OpenClaim := { program := "ytialjglgkfcdmaa", sum := "a1f72ec24b3e5460245165e0a70b479ed93398246d12a52695b77401b1c666f2", func := "quittance/quittancelaw15.CodecPlaces", spec := "codecPlaces", unfollowed := true, recurses := true, apart := false, narrowed := true }
def CodecPlacesUptoSaid : Prop := codecPlacesUptoRow.holds Try.pinned (OpenSpec.upto codecPlacesSpec)

/-- 'quittancelaw15.CodecOrder', WHERE WHAT IT READS IS OF BULK AT MOST 1048576: true; the input reads as it did. -/
def codecOrderUptoRow : OpenClaim := { program := "ytialjglgkfcdmaa", sum := "a1f72ec24b3e5460245165e0a70b479ed93398246d12a52695b77401b1c666f2", func := "quittance/quittancelaw15.CodecOrder", spec := "codecOrder", unfollowed := true, recurses := true, apart := false, narrowed := true }
def CodecOrderUptoSaid : Prop := codecOrderUptoRow.holds Try.pinned (OpenSpec.upto codecOrderSpec)

end Rows
end Go.Proofs.Ytialjglgkfcdmaa
