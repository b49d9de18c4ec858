/- Plain arithmetic: division of 128 bits, bit by bit. -/
import Derived.Test.YtinfjfjheimceaaArMath
namespace Go.Proofs.Ytinfjfjheimceaa.Ar
/-- Behind all bits but k: what was divided so far is c times Q and r. -/
def Inv (h l c : Int) (k : Nat) (Q r : Int) : Prop := 0 ≤ Q ∧ 0 ≤ r ∧ r < c ∧ (h % c) * 2 ^ (64 - k) + l / 2 ^ k = c * Q + r ∧ Q < 2 ^ (64 - k)
theorem inv_start (h l c : Int) (c0 : 1 ≤ c) (l0 : 0 ≤ l) (l1 : l < 18446744073709551616) : Inv h l c 64 0 (h % c) := by
  refine ⟨by omega, Int.emod_nonneg _ (by omega), Int.emod_lt_of_pos _ (by omega), ?_, by decide⟩
  have : l / 2 ^ 64 = 0 := by omega
  rw [this]; simp
theorem inv_step (h l c : Int) (k : Nat) (Q r : Int) (hk : k + 1 ≤ 64) (H : Inv h l c (k + 1) Q r) :
    (c ≤ 2 * r + l / 2 ^ k % 2 → Inv h l c k (2 * Q + 1) (2 * r + l / 2 ^ k % 2 - c)) ∧ (2 * r + l / 2 ^ k % 2 < c → Inv h l c k (2 * Q) (2 * r + l / 2 ^ k % 2)) := by
  obtain ⟨q0, r0, r1, e, q1⟩ := H
  have e64 : 64 - k = (64 - (k + 1)) + 1 := by omega
  have p1 : (2 : Int) ^ (64 - k) = 2 ^ (64 - (k + 1)) * 2 := by rw [e64, Int.pow_succ]
  have p2 : l / 2 ^ (k + 1) = l / 2 ^ k / 2 := by rw [Int.pow_succ, Int.ediv_ediv_of_nonneg (Int.pow_nonneg (by decide))]
  rw [p2] at e
  have m1 : h % c * (2 ^ (64 - (k + 1)) * 2) = 2 * (h % c * 2 ^ (64 - (k + 1))) := by grind
  have m2 : c * (2 * Q) = 2 * (c * Q) := by grind
  have m3 : c * (2 * Q + 1) = 2 * (c * Q) + c := by grind
  unfold Inv
  rw [p1, m1, m2, m3]
  generalize l / 2 ^ k = L at *
  generalize h % c * 2 ^ (64 - (k + 1)) = V at *
  generalize (2 : Int) ^ (64 - (k + 1)) = B at *
  constructor
  · intro hc
    exact ⟨by omega, by omega, by omega, by omega, by omega⟩
  · intro hc
    exact ⟨by omega, by omega, by omega, by omega, by omega⟩
theorem inv_end (h l c Q r : Int) (c0 : 1 ≤ c) (H : Inv h l c 0 Q r) :
    (h * 18446744073709551616 + l) / c / 18446744073709551616 = h / c ∧ (h * 18446744073709551616 + l) / c % 18446744073709551616 = Q ∧ (h * 18446744073709551616 + l) % c = r := by
  obtain ⟨q0, r0, r1, e, q1⟩ := H
  have e2 : h * 18446744073709551616 + l = r + c * (h / c * 18446744073709551616 + Q) := by
    have := Int.mul_ediv_add_emod h c
    simp at e
    grind
  have e3 : (h * 18446744073709551616 + l) / c = h / c * 18446744073709551616 + Q := by
    rw [e2, Int.add_mul_ediv_left _ _ (by omega), Int.ediv_eq_zero_of_lt r0 r1]; omega
  have e4 : (h * 18446744073709551616 + l) % c = r := by
    rw [e2, Int.add_mul_emod_self_left, Int.emod_eq_of_lt r0 r1]
  rw [e3, e4]
  simp at q1
  omega
/-- The quotient's bits so far: room is left, and the next one is new. -/
theorem inv_bits (h l c : Int) (k : Nat) (Q r : Int) (hk : k + 1 ≤ 64) (H : Inv h l c (k + 1) Q r) :
    0 ≤ Q * 2 ^ (k + 1) ∧ Q * 2 ^ (k + 1) + 2 ^ k < 18446744073709551616 ∧ Q * 2 ^ (k + 1) % 2 ^ (k + 1) = 0 ∧ (0 : Int) < 2 ^ k ∧ (2 : Int) ^ k < 2 ^ (k + 1) ∧ (2 * Q) * 2 ^ k = Q * 2 ^ (k + 1) ∧ (2 * Q + 1) * 2 ^ k = Q * 2 ^ (k + 1) + 2 ^ k := by
  obtain ⟨q0, _, _, _, q1⟩ := H
  have p0 : (0 : Int) < 2 ^ k := Int.pow_pos (by decide)
  have p1 : (2 : Int) ^ (k + 1) = 2 ^ k * 2 := Int.pow_succ _ _
  have p2 : (2 : Int) ^ (64 - (k + 1)) * 2 ^ (k + 1) = 18446744073709551616 := by rw [← Int.pow_add, show 64 - (k + 1) + (k + 1) = 64 by omega]; rfl
  have p3 : (Q + 1) * 2 ^ (k + 1) ≤ 2 ^ (64 - (k + 1)) * 2 ^ (k + 1) := Int.mul_le_mul_of_nonneg_right (by omega) (by omega)
  have p4 : (Q + 1) * 2 ^ (k + 1) = Q * 2 ^ (k + 1) + 2 ^ (k + 1) := by grind
  refine ⟨Int.mul_nonneg q0 (by omega), by omega, Int.mul_emod_left _ _, p0, by omega, by rw [p1]; grind, by rw [p1]; grind⟩
end Go.Proofs.Ytinfjfjheimceaa.Ar
