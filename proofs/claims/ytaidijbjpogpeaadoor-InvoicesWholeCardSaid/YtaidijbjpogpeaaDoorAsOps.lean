/- The contracts of package arith's Sub, Neg, Mul. -/
import Derived.Test.YtaidijbjpogpeaaDoorAsSigns
namespace Go.Proofs.YtaidijbjpogpeaaDoor
open Go.RowKit

/-- A 64-bit number. -/
def I64 (n : Int) : Prop := -9223372036854775808 ≤ n ∧ n ≤ 9223372036854775807

/-- What an operation answers: the number, where it fits. -/
def Told (n : Int) (w : World) (e : Ending) (w' : World) : Prop := e = .returned (.tuple #[.int .i64 (Ar.val n), .bool (Ar.ok n)]) ∧ Below w.heap.size w w'

theorem ok_in {n : Int} (h1 : -9223372036854775808 ≤ n) (h2 : n ≤ 9223372036854775807) : Ar.ok n = true ∧ Ar.val n = n :=
  ⟨decide_eq_true ⟨h1, h2⟩, if_pos ⟨h1, h2⟩⟩
theorem ok_out {n : Int} (h : n < -9223372036854775808 ∨ 9223372036854775807 < n) : Ar.ok n = false ∧ Ar.val n = 0 := by
  have : ¬ Ar.Fits n := by unfold Ar.Fits; omega
  exact ⟨decide_eq_false this, if_neg this⟩
end Go.Proofs.YtaidijbjpogpeaaDoor
