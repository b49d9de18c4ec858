/-
  No cell of these rows narrows 'for every input' (looked for: loops, veiled, ifaces, maps, wideKeys, modest, calm, conditions, laid).
  DERIVED. THE GIVEN ROWS OF THIS SEAT. 6 by the template 'for every input the law returns true; each argument reads behind the call as it read before'; 0 by the template 'total and deterministic' (their statements: YtnblilonjpfdnaaTotals.lean).
  GIVEN WITH THE SEED: the statements are not yours to turn. If you find one false, say at which input.
  Laid BY PROGRAM, IN A SANDBOX (cutbox-rows.mjs): the forced cells as the released guide's own fill.sh prints them over the translation 788f1d12419f184d… (all of the seat's roots in one cut). By AI agents, Wed Nov 11 2026. No macro, syntax, notation, axiom, sorry.
-/
import Derived.Test.YtnblilonjpfdnaaChecked
import GoSem.Claim
import GoSem.ClaimJoined
import GoSem.ClaimMapViews
import Derived.JoinedTies
import Derived.KernelRfl
namespace Go.Proofs.Ytnblilonjpfdnaa
/- THE CELL 'sum', in the pinned program and in every row, IS THE sha256 OF THE DUMP (.gsa) THAT YtnblilonjpfdnaaProg.lean LOADS. Nothing in Lean hashes anything: it is a label: what it is worth is what the hold of that sum in a sandbox is worth. -/
noncomputable def Try.pinned : Pinned := { name := "ytnblilonjpfdnaa", sum := "788f1d12419f184d58665ffd933978a37eb50bc0e53add6f7bc77e8f86e1e6af", checked := Try.checked }
namespace Rows
def none {H : Type} : Left H := { results := [], args := [] }

/-- 'quittancelaw20.JournalChecks': WHATEVER THE INPUT: true; the input reads as it did. -/
def journalChecksSpec : ChangeSpec := { name := "journalChecks", fn := fun _ => fun
  | [d] => { results := [.lit (.bool true)], args := [d] }
  | _ => none }
def journalChecksRow : OpenClaim := { program := "ytnblilonjpfdnaa", sum := "788f1d12419f184d58665ffd933978a37eb50bc0e53add6f7bc77e8f86e1e6af", func := "quittance/quittancelaw20.JournalChecks", spec := "journalChecks", unfollowed := true, recurses := true, plainKeys := false, apart := false }
def JournalChecksSaid : Prop := journalChecksRow.holds Try.pinned (OpenSpec.ofChange journalChecksSpec)

/-- ITS FALSE NEIGHBOUR: 'it returns false'. Refute it at one input. -/
def journalChecksWrong : ChangeSpec := { name := "journalChecks", fn := fun _ => fun
  | [d] => { results := [.lit (.bool false)], args := [d] }
  | _ => none }
def JournalChecksWrongFalsely : Prop := journalChecksRow.holds Try.pinned (OpenSpec.ofChange journalChecksWrong)

/-- 'quittancelaw20.JournalTidies': WHATEVER THE INPUT: true; the input reads as it did. -/
def journalTidiesSpec : ChangeSpec := { name := "journalTidies", fn := fun _ => fun
  | [d] => { results := [.lit (.bool true)], args := [d] }
  | _ => none }
def journalTidiesRow : OpenClaim := { program := "ytnblilonjpfdnaa", sum := "788f1d12419f184d58665ffd933978a37eb50bc0e53add6f7bc77e8f86e1e6af", func := "quittance/quittancelaw20.JournalTidies", spec := "journalTidies", unfollowed := true, recurses := true, plainKeys := false, apart := false }
def JournalTidiesSaid : Prop := journalTidiesRow.holds Try.pinned (OpenSpec.ofChange journalTidiesSpec)

/-- ITS FALSE NEIGHBOUR: 'it returns false'. Refute it at one input. -/
def journalTidiesWrong : ChangeSpec := { name := "journalTidies", fn := fun _ => fun
  | [d] => { results := [.lit (.bool false)], args := [d] }
  | _ => none }
def JournalTidiesWrongFalsely : Prop := journalTidiesRow.holds Try.pinned (OpenSpec.ofChange journalTidiesWrong)

/-- 'quittancelaw20.JournalBytes': WHATEVER THE INPUT: true; the input reads as it did. -/
def journalBytesSpec : ChangeSpec := { name := "journalBytes", fn := fun _ => fun
  | [d1, d2] => { results := [.lit (.bool true)], args := [d1, d2] }
  | _ => none }
def journalBytesRow : OpenClaim := { program := "ytnblilonjpfdnaa", sum := "788f1d12419f184d58665ffd933978a37eb50bc0e53add6f7bc77e8f86e1e6af", func := "quittance/quittancelaw20.JournalBytes", spec := "journalBytes", unfollowed := true, recurses := true, plainKeys := false, apart := false }
def JournalBytesSaid : Prop := journalBytesRow.holds Try.pinned (OpenSpec.ofChange journalBytesSpec)

/-- ITS FALSE NEIGHBOUR: 'it returns false'. Refute it at one input. -/
def journalBytesWrong : ChangeSpec := { name := "journalBytes", fn := fun _ => fun
  | [d1, d2] => { results := [.lit (.bool false)], args := [d1, d2] }
  | _ => none }
def JournalBytesWrongFalsely : Prop := journalBytesRow.holds Try.pinned (OpenSpec.ofChange journalBytesWrong)

/-- 'quittancelaw20.JournalTurns': WHATEVER THE INPUT: true; the input reads as it did. -/
def journalTurnsSpec : ChangeSpec := { name := "journalTurns", fn := fun _ => fun
  | [d1, d2] => { results := [.lit (.bool true)], args := [d1, d2] }
  | _ => none }
def journalTurnsRow : OpenClaim := { program := "ytnblilonjpfdnaa", sum := "788f1d12419f184d58665ffd933978a37eb50bc0e53add6f7bc77e8f86e1e6af", func := "quittance/quittancelaw20.JournalTurns", spec := "journalTurns", unfollowed := true, recurses := true, plainKeys := false, apart := false }
def JournalTurnsSaid : Prop := journalTurnsRow.holds Try.pinned (OpenSpec.ofChange journalTurnsSpec)

/-- ITS FALSE NEIGHBOUR: 'it returns false'. Refute it at one input. -/
def journalTurnsWrong : ChangeSpec := { name := "journalTurns", fn := fun _ => fun
  | [d1, d2] => { results := [.lit (.bool false)], args := [d1, d2] }
  | _ => none }
def JournalTurnsWrongFalsely : Prop := journalTurnsRow.holds Try.pinned (OpenSpec.ofChange journalTurnsWrong)

/-- 'quittancelaw20.JournalOrder': WHATEVER THE INPUT: true; the input reads as it did. -/
def journalOrderSpec : ChangeSpec := { name := "journalOrder", fn := fun _ => fun
  | [d1, d2] => { results := [.lit (.bool true)], args := [d1, d2] }
  | _ => none }
def journalOrderRow : OpenClaim := { program := "ytnblilonjpfdnaa", sum := "788f1d12419f184d58665ffd933978a37eb50bc0e53add6f7bc77e8f86e1e6af", func := "quittance/quittancelaw20.JournalOrder", spec := "journalOrder", unfollowed := true, recurses := true, plainKeys := false, apart := false }
def JournalOrderSaid : Prop := journalOrderRow.holds Try.pinned (OpenSpec.ofChange journalOrderSpec)

/-- ITS FALSE NEIGHBOUR: 'it returns false'. Refute it at one input. -/
def journalOrderWrong : ChangeSpec := { name := "journalOrder", fn := fun _ => fun
  | [d1, d2] => { results := [.lit (.bool false)], args := [d1, d2] }
  | _ => none }
def JournalOrderWrongFalsely : Prop := journalOrderRow.holds Try.pinned (OpenSpec.ofChange journalOrderWrong)

/-- 'quittancelaw20.JournalLeaves': WHATEVER THE INPUT: true; the input reads as it did. -/
def journalLeavesSpec : ChangeSpec := { name := "journalLeaves", fn := fun _ => fun
  | [d1, d2] => { results := [.lit (.bool true)], args := [d1, d2] }
  | _ => none }
def journalLeavesRow : OpenClaim := { program := "ytnblilonjpfdnaa", sum := "788f1d12419f184d58665ffd933978a37eb50bc0e53add6f7bc77e8f86e1e6af", func := "quittance/quittancelaw20.JournalLeaves", spec := "journalLeaves", unfollowed := true, recurses := true, plainKeys := false, apart := false }
def JournalLeavesSaid : Prop := journalLeavesRow.holds Try.pinned (OpenSpec.ofChange journalLeavesSpec)

/-- ITS FALSE NEIGHBOUR: 'it returns false'. Refute it at one input. -/
def journalLeavesWrong : ChangeSpec := { name := "journalLeaves", fn := fun _ => fun
  | [d1, d2] => { results := [.lit (.bool false)], args := [d1, d2] }
  | _ => none }
def JournalLeavesWrongFalsely : Prop := journalLeavesRow.holds Try.pinned (OpenSpec.ofChange journalLeavesWrong)

/- THE SECOND FORM. 'bulk': how many values and letters a reading holds, each counted each time it is reached (what is shared counts as often as it is met; a slice's spare places count too). A statement '..UptoSaid' is the law's where the arguments, and the package variables that the reading takes, are together of bulk at most 1048576: NARROWER than '..Said'. Prove '..Said' where nothing that the law and all that it calls make is longer than what came in: it says more and counts as full. Else prove '..UptoSaid'. A law counts once. -/
mutual
def uptoBulk {H : Type} : DataW H → Nat
  | .lit (.string bytes) => bytes.length + 1
  | .lit _ => 1
  | .nil => 1
  | .ptr d => uptoBulk d + 1
  | .slice elems spare => uptoBulkAll elems + uptoBulkAll spare + 1
  | .agg parts => uptoBulkAll parts + 1
  | .iface _ d => uptoBulk d + 1
  | .map entries => uptoBulkEntries entries + 1
  | .held _ => 1
def uptoBulkAll {H : Type} : List (DataW H) → Nat
  | [] => 0
  | d :: r => uptoBulk d + uptoBulkAll r
def uptoBulkEntries {H : Type} : List (Lit × DataW H) → Nat
  | [] => 0
  | x :: r => uptoBulkEntry x + uptoBulkEntries r
def uptoBulkEntry {H : Type} : Lit × DataW H → Nat
  | (.string bytes, d) => bytes.length + uptoBulk d + 1
  | (_, d) => uptoBulk d + 1
 end
def uptoSmall : (H : Type) → List (DataW H) → Bool := fun _ ds => decide (uptoBulkAll ds ≤ 1048576)
def OpenSpec.upto (s : _root_.Go.ChangeSpec) : _root_.Go.OpenSpec := { _root_.Go.OpenSpec.ofChange s with cond := some uptoSmall }

/-- 'quittancelaw20.JournalChecks', WHERE WHAT IT READS IS OF BULK AT MOST 1048576: true; the input reads as it did. -/
def journalChecksUptoRow : OpenClaim := { program := "ytnblilonjpfdnaa", sum := "788f1d12419f184d58665ffd933978a37eb50bc0e53add6f7bc77e8f86e1e6af", func := "quittance/quittancelaw20.JournalChecks", spec := "journalChecks", unfollowed := true, recurses := true, plainKeys := false, apart := false, narrowed := true }
def JournalChecksUptoSaid : Prop := journalChecksUptoRow.holds Try.pinned (OpenSpec.upto journalChecksSpec)

/-- 'quittancelaw20.JournalTidies', WHERE WHAT IT READS IS OF BULK AT MOST 1048576: true; the input reads as it did. -/
def journalTidiesUptoRow : OpenClaim := { program := "ytnblilonjpfdnaa", sum := "788f1d12419f184d58665ffd933978a37eb50bc0e53add6f7bc77e8f86e1e6af", func := "quittance/quittancelaw20.JournalTidies", spec := "journalTidies", unfollowed := true, recurses := true, plainKeys := false, apart := false, narrowed := true }
def JournalTidiesUptoSaid : Prop := journalTidiesUptoRow.holds Try.pinned (OpenSpec.upto journalTidiesSpec)

/-- 'quittancelaw20.JournalBytes', WHERE WHAT IT READS IS OF BULK AT MOST 1048576: true; the input reads as it did. -/
def journalBytesUptoRow : OpenClaim := { program := "ytnblilonjpfdnaa", sum := "788f1d12419f184d58665ffd933978a37eb50bc0e53add6f7bc77e8f86e1e6af", func := "quittance/quittancelaw20.JournalBytes", spec := "journalBytes", unfollowed := true, recurses := true, plainKeys := false, apart := false, narrowed := true }
def JournalBytesUptoSaid : Prop := journalBytesUptoRow.holds Try.pinned (OpenSpec.upto journalBytesSpec)

/-- 'quittancelaw20.JournalTurns', WHERE WHAT IT READS IS OF BULK AT MOST 1048576: true; the input reads as it did. -/
def journalTurnsUptoRow : OpenClaim := { program := "ytnblilonjpfdnaa", sum := "788f1d12419f184d58665ffd933978a37eb50bc0e53add6f7bc77e8f86e1e6af", func := "quittance/quittancelaw20.JournalTurns", spec := "journalTurns", unfollowed := true, recurses := true, plainKeys := false, apart := false, narrowed := true }
def JournalTurnsUptoSaid : Prop := journalTurnsUptoRow.holds Try.pinned (OpenSpec.upto journalTurnsSpec)

/-- 'quittancelaw20.JournalOrder', WHERE WHAT IT READS IS OF BULK AT MOST 1048576: true; the input reads as it did. -/
def journalOrderUptoRow : OpenClaim := { program := "ytnblilonjpfdnaa", sum := "788f1d12419f184d58665ffd933978a37eb50bc0e53add6f7bc77e8f86e1e6af", func := "quittance/quittancelaw20.JournalOrder", spec := "journalOrder", unfollowed := true, recurses := true, plainKeys := false, apart := false, narrowed := true }
def JournalOrderUptoSaid : Prop := journalOrderUptoRow.holds Try.pinned (OpenSpec.upto journalOrderSpec)

/-- 'quittancelaw20.JournalLeaves', WHERE WHAT IT READS IS OF BULK AT MOST 1048576: true; the input reads as it did. -/
def journalLeavesUptoRow : OpenClaim := { program := "ytnblilonjpfdnaa", sum := "788f1d12419f184d58665ffd933978a37eb50bc0e53add6f7bc77e8f86e1e6af", func := "quittance/quittancelaw20.JournalLeaves", spec := "journalLeaves", unfollowed := true, recurses := true, plainKeys := false, apart := false, narrowed := true }
def JournalLeavesUptoSaid : Prop := journalLeavesUptoRow.holds Try.pinned (OpenSpec.upto journalLeavesSpec)

end Rows
end Go.Proofs.Ytnblilonjpfdnaa
