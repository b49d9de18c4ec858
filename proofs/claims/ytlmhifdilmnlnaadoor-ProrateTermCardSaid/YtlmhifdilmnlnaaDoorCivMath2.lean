/- Plain arithmetic of the calendar, on. -/
import Derived.Test.YtlmhifdilmnlnaaDoorCivMath
namespace Go.Proofs.YtlmhifdilmnlnaaDoor.Civ
theorem len_bd (y m : Int) (h1 : 1 ≤ m) (h2 : m ≤ 12) : 28 ≤ len y m ∧ len y m ≤ 31 := by
  have := U_step y m h1 h2
  unfold len
  omega
theorem U_add (y m : Int) : U y m + len y m = U y (m + 1) := by unfold len; omega
end Go.Proofs.YtlmhifdilmnlnaaDoor.Civ
