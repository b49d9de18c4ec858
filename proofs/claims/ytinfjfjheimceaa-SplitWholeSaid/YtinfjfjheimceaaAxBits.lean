/- Plain integers, bit by bit. No program in sight. -/
import Derived.Test.YtinfjfjheimceaaArMath
namespace Go.Proofs.Ytinfjfjheimceaa.Bz
theorem edd {a b c : Int} (hb : 0 ≤ b) : a / b / c = a / (b * c) := by
  rw [Int.ediv_ediv, if_neg (fun h => absurd h.1 (by omega)), Int.sub_zero]
def pw (i : Nat) : Int := 2 ^ i
theorem pw_zero : pw 0 = 1 := rfl
theorem pw_succ (i : Nat) : pw (i + 1) = 2 * pw i := by unfold pw; rw [Int.pow_succ, Int.mul_comm]
theorem pw_pos (i : Nat) : 0 < pw i := by
  induction i with
  | zero => decide
  | succ i ih => rw [pw_succ]; omega
/-- Bit i of an integer. -/
def bit (z : Int) (i : Nat) : Int := z / pw i % 2
theorem bit_range (z : Int) (i : Nat) : 0 ≤ bit z i ∧ bit z i ≤ 1 := by unfold bit; omega
theorem div_succ (z : Int) (i : Nat) : z / pw (i + 1) = z / pw i / 2 := by
  rw [pw_succ, Int.mul_comm, edd (Int.le_of_lt (pw_pos i))]
theorem split (z : Int) (i : Nat) : z = pw i * (z / pw i) + z % pw i := (Int.mul_ediv_add_emod z (pw i)).symm
theorem mod_succ (z : Int) (i : Nat) : z % pw (i + 1) = bit z i * pw i + z % pw i := by
  have hp := pw_pos i
  have h0 := Int.emod_nonneg z (show pw i ≠ 0 by omega)
  have h1 := Int.emod_lt_of_pos z hp
  have h2 := split z i
  have h3 := bit_range z i
  have h4 : z / pw i = 2 * (z / pw i / 2) + bit z i := by unfold bit; omega
  refine ((Int.ediv_emod_unique (a := z) (b := pw (i + 1)) (q := z / pw i / 2) (r := bit z i * pw i + z % pw i) (pw_pos _)).2 ⟨?_, ?_, ?_⟩).2
  · rw [pw_succ]
    generalize z / pw i / 2 = q at *
    generalize bit z i = b at *
    generalize z % pw i = r at *
    generalize pw i = p at *
    rw [h4, Int.mul_add] at h2
    have e1 : p * (2 * q) = 2 * p * q := by rw [← Int.mul_assoc, Int.mul_comm p 2]
    have e2 : p * b = b * p := Int.mul_comm _ _
    omega
  · have := Int.mul_nonneg h3.1 (Int.le_of_lt hp); omega
  · rw [pw_succ]
    have : bit z i = 0 ∨ bit z i = 1 := by omega
    rcases this with e | e <;> rw [e] <;> omega
def carry (x y c0 : Int) (i : Nat) : Int := (x % pw i + y % pw i + c0) / pw i
theorem carry_zero (x y c0 : Int) : carry x y c0 0 = c0 := by
  unfold carry; rw [pw_zero]; omega
theorem div_of {a p q r : Int} (hp : 0 < p) (h : a = p * q + r) (h0 : 0 ≤ r) (h1 : r < p) : a / p = q :=
  ((Int.ediv_emod_unique hp).2 ⟨by omega, h0, h1⟩).1
theorem carry_range (x y c0 : Int) (i : Nat) (h0 : 0 ≤ c0) (h1 : c0 ≤ 1) : 0 ≤ carry x y c0 i ∧ carry x y c0 i ≤ 1 := by
  have hp := pw_pos i
  have a0 := Int.emod_nonneg x (show pw i ≠ 0 by omega)
  have a1 := Int.emod_lt_of_pos x hp
  have b0 := Int.emod_nonneg y (show pw i ≠ 0 by omega)
  have b1 := Int.emod_lt_of_pos y hp
  unfold carry
  constructor
  · exact Int.ediv_nonneg (by omega) (by omega)
  · have : (x % pw i + y % pw i + c0) / pw i < 2 := Int.ediv_lt_of_lt_mul hp (by omega)
    omega
theorem div_add (x y c0 : Int) (i : Nat) : (x + y + c0) / pw i = x / pw i + y / pw i + carry x y c0 i := by
  have hp := pw_pos i
  have h1 := split x i
  have h2 := split y i
  have e : x + y + c0 = (x % pw i + y % pw i + c0) + pw i * (x / pw i + y / pw i) := by rw [Int.mul_add]; omega
  rw [e, Int.add_mul_ediv_left _ _ (show pw i ≠ 0 by omega)]
  unfold carry
  omega
theorem bit_add (x y c0 : Int) (i : Nat) : bit (x + y + c0) i = (bit x i + bit y i + carry x y c0 i) % 2 := by
  unfold bit
  rw [div_add]
  omega
theorem carry_succ (x y c0 : Int) (i : Nat) : carry x y c0 (i + 1) = (bit x i + bit y i + carry x y c0 i) / 2 := by
  have h1 := div_add x y c0 (i + 1)
  have h2 := div_add x y c0 i
  rw [div_succ, div_succ, div_succ, h2] at h1
  unfold bit
  omega
theorem bit_not (z : Int) (i : Nat) : bit (-1 - z) i = 1 - bit z i := by
  have hp := pw_pos i
  have h0 := Int.emod_nonneg z (show pw i ≠ 0 by omega)
  have h1 := Int.emod_lt_of_pos z hp
  have h2 := split z i
  have : (-1 - z) / pw i = -1 - z / pw i := by
    refine div_of (r := pw i - 1 - z % pw i) hp ?_ (by omega) (by omega)
    rw [Int.mul_sub, Int.mul_neg, Int.mul_one]; omega
  unfold bit
  rw [this]
  omega
theorem bit_zero (i : Nat) : bit 0 i = 0 := by unfold bit; simp
theorem div_small (z : Int) (i : Nat) (h0 : 0 ≤ z) (h1 : z < pw i) : z / pw i = 0 := Int.ediv_eq_zero_of_lt h0 h1
theorem div_neg (z : Int) (i : Nat) (h0 : z < 0) (h1 : -pw i ≤ z) : z / pw i = -1 := div_of (r := z + pw i) (pw_pos i) (by omega) (by omega) (by omega)
theorem pw_mono {i j : Nat} (h : i ≤ j) : pw i ≤ pw j := by
  induction j with
  | zero => have : i = 0 := by omega
            subst this; exact Int.le_refl _
  | succ j ih =>
    by_cases e : i = j + 1
    · subst e; exact Int.le_refl _
    · have := ih (by omega)
      have := pw_pos j
      rw [pw_succ]; omega
/-- Above its own bits an integer is its sign. -/
theorem bit_high (z : Int) (k i : Nat) (h : k ≤ i) (h0 : -pw k ≤ z) (h1 : z < pw k) : bit z i = if z < 0 then 1 else 0 := by
  have := pw_mono h
  unfold bit
  split
  · rw [div_neg z i (by omega) (by omega)]; rfl
  · rw [div_small z i (by omega) (by omega)]; rfl
/-- The low bits of what is left modulo a power. -/
theorem bit_mod (z : Int) (k i : Nat) (h : i < k) : bit (z % pw k) i = bit z i := by
  obtain ⟨d, rfl⟩ : ∃ d, k = i + 1 + d := ⟨k - i - 1, by omega⟩
  have hs := split z (i + 1 + d)
  have hm : pw (i + 1 + d) = pw i * (2 * pw d) := by
    unfold pw; rw [show i + 1 + d = i + (1 + d) by omega, Int.pow_add, Int.pow_add]; rfl
  have hp := pw_pos i
  unfold bit
  have e : z / pw i = z % pw (i + 1 + d) / pw i + 2 * (pw d * (z / pw (i + 1 + d))) := by
    conv => lhs; rw [hs]
    rw [hm, Int.mul_assoc, Int.add_comm, Int.add_mul_ediv_left _ _ (show pw i ≠ 0 by omega)]
    rw [Int.mul_assoc]
  rw [e]
  omega
/-- All bits from one on the same: none or all. -/
theorem all_same (y b : Int) (k : Nat) (h : ∀ i, i < k → bit y i = b) : y % pw k = b * (pw k - 1) := by
  induction k with
  | zero => rw [pw_zero]; omega
  | succ k ih =>
    have := ih (fun i hi => h i (by omega))
    rw [mod_succ, this, h k (by omega), pw_succ]
    rw [Int.mul_sub, Int.mul_sub]
    have : b * (2 * pw k) = b * pw k + b * pw k := by rw [← Int.mul_add]; congr 1; omega
    omega
theorem pw_63 : pw 63 = 9223372036854775808 := by decide
theorem pw_64 : pw 64 = 18446744073709551616 := by decide
theorem pw_135 : pw 135 = 43556142965880123323311949751266331066368 := by decide
theorem pw_72 : pw 72 = 4722366482869645213696 := by decide
theorem pw_73 : pw 73 = 9444732965739290427392 := by decide
theorem bit_up (z : Int) (k i : Nat) : bit (z / pw k) i = bit z (k + i) := by
  unfold bit
  have : pw (k + i) = pw k * pw i := by unfold pw; rw [Int.pow_add]
  rw [this, edd (Int.le_of_lt (pw_pos k))]
def Mid (z : Int) : Prop := -43556142965880123323311949751266331066368 ≤ z ∧ z < 43556142965880123323311949751266331066368
theorem fits_of (z : Int) (hz : Mid z) (h : ∀ i, 63 ≤ i → i < 136 → bit z i = bit z 63) : Ar.Fits z := by
  have hb := bit_range z 63
  have h1 := all_same (z / pw 63) (bit z 63) 73 (fun i hi => by rw [bit_up]; exact h _ (by omega) (by omega))
  rw [pw_73, pw_63] at h1
  unfold Mid at hz
  unfold Ar.Fits
  have : bit z 63 = 0 ∨ bit z 63 = 1 := by omega
  rcases this with e | e <;> rw [e] at h1 <;> omega
theorem of_fits (z : Int) (h : Ar.Fits z) (i : Nat) (hi : 63 ≤ i) : bit z i = bit z 63 := by
  unfold Ar.Fits at h
  rw [bit_high z 63 i hi (by rw [pw_63]; omega) (by rw [pw_63]; omega), bit_high z 63 63 (by omega) (by rw [pw_63]; omega) (by rw [pw_63]; omega)]
theorem below_bit (z : Int) (hz : Mid z) : bit z 135 = if z < 0 then 1 else 0 := by
  unfold Mid at hz
  exact bit_high z 135 135 (by omega) (by rw [pw_135]; omega) (by rw [pw_135]; omega)
/-- Of the 64 lowest bits, from the top. -/
theorem from_top (z : Int) (i : Nat) (h : i < 64) : z % pw 64 / pw i = 2 * (z % pw 64 / pw (i + 1)) + bit z i := by
  have h1 := bit_mod z 64 i h
  rw [div_succ]
  unfold bit at h1 ⊢
  omega
end Go.Proofs.Ytinfjfjheimceaa.Bz
