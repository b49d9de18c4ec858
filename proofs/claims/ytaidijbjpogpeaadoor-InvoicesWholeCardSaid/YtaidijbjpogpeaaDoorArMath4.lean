/- Plain arithmetic: sums, what is above 0 and what is below apart. -/
import Derived.Test.YtaidijbjpogpeaaDoorArMath
namespace Go.Proofs.YtaidijbjpogpeaaDoor.Ar
/-- What is above 0, and what is below, summed apart. -/
def posS (l : List Int) : Int := (l.map fun x => if x < 0 then 0 else x).sum
def negS (l : List Int) : Int := (l.map fun x => if x < 0 then -x else 0).sum
theorem sum_parts (l : List Int) : l.sum = posS l - negS l := by
  induction l with
  | nil => rfl
  | cons x l ih =>
    simp only [posS, negS, List.map_cons, List.sum_cons] at *
    split <;> omega
theorem posS_snoc (l : List Int) (x : Int) : posS (l ++ [x]) = posS l + if x < 0 then 0 else x := by simp [posS]
theorem negS_snoc (l : List Int) (x : Int) : negS (l ++ [x]) = negS l + if x < 0 then -x else 0 := by simp [negS]
theorem sums_bd (l : List Int) (h : ∀ x ∈ l, -9223372036854775808 ≤ x ∧ x ≤ 9223372036854775807) : 0 ≤ posS l ∧ posS l ≤ l.length * 9223372036854775808 ∧ 0 ≤ negS l ∧ negS l ≤ l.length * 9223372036854775808 := by
  induction l with
  | nil => simp [posS, negS]
  | cons x l ih =>
    have := ih (fun y hy => h y (by simp [hy]))
    have := h x (by simp)
    simp only [posS, negS, List.map_cons, List.sum_cons, List.length_cons] at *
    split <;> omega
theorem take_snoc (zs : List Int) (k : Nat) (h : k < zs.length) : zs.take (k + 1) = zs.take k ++ [zs.getD k 0] := by
  rw [List.take_succ_eq_append_getElem h]; simp [h]
end Go.Proofs.YtaidijbjpogpeaaDoor.Ar
