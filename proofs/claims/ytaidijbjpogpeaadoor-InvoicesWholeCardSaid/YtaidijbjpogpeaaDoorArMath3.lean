/- Plain arithmetic: the nearest integer, and quotients of numbers below 0. -/
import Derived.Test.YtaidijbjpogpeaaDoorArMath
namespace Go.Proofs.YtaidijbjpogpeaaDoor.Ar
/-- The nearest integer to P by c, a half upwards. -/
def near (P c : Int) : Int := (2 * P + c) / (2 * c)
theorem near_pos (M c : Int) (c0 : 1 ≤ c) (_m0 : 0 ≤ M) : near M c = if c ≤ 2 * (M % c) then M / c + 1 else M / c := by
  unfold near
  have e := Int.mul_ediv_add_emod M c
  have r0 := Int.emod_nonneg M (show c ≠ 0 by omega)
  have r1 := Int.emod_lt_of_pos M (show 0 < c by omega)
  rw [show 2 * M + c = (2 * (M % c) + c) + 2 * c * (M / c) by grind, Int.add_mul_ediv_left _ _ (by omega)]
  split
  · rw [show 2 * (M % c) + c = (2 * (M % c) - c) + 2 * c * 1 by omega, Int.add_mul_ediv_left _ _ (by omega), Int.ediv_eq_zero_of_lt (by omega) (by omega)]; omega
  · rw [Int.ediv_eq_zero_of_lt (by omega) (by omega)]; omega
theorem near_neg (M c : Int) (c0 : 1 ≤ c) (_m0 : 0 ≤ M) : near (-M) c = -(if c < 2 * (M % c) then M / c + 1 else M / c) := by
  unfold near
  have e := Int.mul_ediv_add_emod M c
  have r0 := Int.emod_nonneg M (show c ≠ 0 by omega)
  have r1 := Int.emod_lt_of_pos M (show 0 < c by omega)
  rw [show 2 * -M + c = (c - 2 * (M % c)) + 2 * c * (-(M / c)) by grind, Int.add_mul_ediv_left _ _ (by omega)]
  split
  · rw [show c - 2 * (M % c) = (3 * c - 2 * (M % c)) + 2 * c * (-1) by omega, Int.add_mul_ediv_left _ _ (by omega), Int.ediv_eq_zero_of_lt (by omega) (by omega)]; omega
  · rw [Int.ediv_eq_zero_of_lt (by omega) (by omega)]; omega
/-- The quotient, rounded down, and the rest, of a number below 0. -/
theorem floor_neg (M c : Int) (c0 : 1 ≤ c) (h : 0 < M % c) : (-M) / c = -(M / c + 1) ∧ (-M) % c = c - M % c := by
  have e := Int.mul_ediv_add_emod M c
  have r1 := Int.emod_lt_of_pos M (show 0 < c by omega)
  have e2 : -M = (c - M % c) + c * (-(M / c + 1)) := by grind
  constructor
  · rw [e2, Int.add_mul_ediv_left _ _ (by omega), Int.ediv_eq_zero_of_lt (by omega) (by omega)]; omega
  · rw [e2, Int.add_mul_emod_self_left, Int.emod_eq_of_lt (by omega) (by omega)]
theorem floor_neg0 (M c : Int) (c0 : 1 ≤ c) (h : M % c = 0) : (-M) / c = -(M / c) ∧ (-M) % c = 0 := by
  have e := Int.mul_ediv_add_emod M c
  rw [h] at e
  have e2 : -M = 0 + c * (-(M / c)) := by grind
  constructor
  · rw [e2, Int.add_mul_ediv_left _ _ (by omega), Int.zero_ediv]; omega
  · rw [e2, Int.add_mul_emod_self_left, Int.zero_emod]
theorem quo_bd (M c : Int) (c0 : 1 ≤ c) (m0 : 0 ≤ M) : 0 ≤ M / c ∧ M / c ≤ M := ⟨Int.ediv_nonneg m0 (by omega), Int.ediv_le_self _ m0⟩
end Go.Proofs.YtaidijbjpogpeaaDoor.Ar
