/- Plain arithmetic of magnitudes of 128 bits. No program in sight. -/
namespace Go.Proofs.YtaidijbjpogpeaaDoor.Ar
/-- The distance from 0. -/
def mag (n : Int) : Int := if n < 0 then -n else n
theorem mag_bd (n : Int) (h1 : -9223372036854775808 ≤ n) (h2 : n ≤ 9223372036854775807) : 0 ≤ mag n ∧ mag n ≤ 9223372036854775808 := by unfold mag; split <;> omega
theorem mul_bd {x y B : Int} (h1 : 0 ≤ x) (h2 : x ≤ B) (h3 : 0 ≤ y) (h4 : y ≤ B) : 0 ≤ x * y ∧ x * y ≤ B * B :=
  ⟨Int.mul_nonneg h1 h3, Int.mul_le_mul h2 h4 h3 (by omega)⟩
theorem prod_parts (ah al bh bl : Int) : (ah * 4294967296 + al) * (bh * 4294967296 + bl) = (ah * bh) * 18446744073709551616 + (ah * bl + al * bh) * 4294967296 + al * bl := by
  grind
theorem prod_words (a b : Int) (h1 : 0 ≤ a) (h2 : a < 18446744073709551616) (h3 : 0 ≤ b) (h4 : b < 18446744073709551616) :
    let low := (a % 4294967296) * (b % 4294967296)
    let mid := (a / 4294967296) * (b % 4294967296) + low / 4294967296
    let oth := (a % 4294967296) * (b / 4294967296) + mid % 4294967296
    (0 ≤ low ∧ low < 18446744073709551616) ∧ (0 ≤ (a / 4294967296) * (b % 4294967296) ∧ mid < 18446744073709551616) ∧ (0 ≤ (a % 4294967296) * (b / 4294967296) ∧ oth < 18446744073709551616) ∧
    0 ≤ (a / 4294967296) * (b / 4294967296) ∧
    (a / 4294967296) * (b / 4294967296) + mid / 4294967296 + oth / 4294967296 = a * b / 18446744073709551616 ∧
    oth % 4294967296 * 4294967296 + low % 4294967296 = a * b % 18446744073709551616 ∧ a * b / 18446744073709551616 < 18446744073709551616 := by
  intro low mid oth
  have e := prod_parts (a / 4294967296) (a % 4294967296) (b / 4294967296) (b % 4294967296)
  rw [show a / 4294967296 * 4294967296 + a % 4294967296 = a by omega, show b / 4294967296 * 4294967296 + b % 4294967296 = b by omega] at e
  have p1 := mul_bd (x := a % 4294967296) (y := b % 4294967296) (B := 4294967295) (by omega) (by omega) (by omega) (by omega)
  have p2 := mul_bd (x := a / 4294967296) (y := b % 4294967296) (B := 4294967295) (by omega) (by omega) (by omega) (by omega)
  have p3 := mul_bd (x := a % 4294967296) (y := b / 4294967296) (B := 4294967295) (by omega) (by omega) (by omega) (by omega)
  have p4 := mul_bd (x := a / 4294967296) (y := b / 4294967296) (B := 4294967295) (by omega) (by omega) (by omega) (by omega)
  simp only [low, mid, oth]
  generalize a % 4294967296 * (b % 4294967296) = X at *
  generalize a / 4294967296 * (b % 4294967296) = Y at *
  generalize a % 4294967296 * (b / 4294967296) = Z at *
  generalize a / 4294967296 * (b / 4294967296) = W at *
  generalize a * b = P at *
  omega

/-- What fits 64 bits. -/
def Fits (n : Int) : Prop := -9223372036854775808 ≤ n ∧ n ≤ 9223372036854775807
instance (n : Int) : Decidable (Fits n) := by unfold Fits; infer_instance
def val (n : Int) : Int := if Fits n then n else 0
def ok (n : Int) : Bool := decide (Fits n)
/-- The sign given to a magnitude. -/
def sg (neg : Bool) (m : Int) : Int := if neg then -m else m
theorem sg_mul (a b : Int) : sg (xor (decide (a < 0)) (decide (b < 0))) (mag a * mag b) = a * b := by
  unfold sg mag
  by_cases ha : a < 0 <;> by_cases hb : b < 0 <;> simp [ha, hb, Int.neg_mul, Int.mul_neg]
theorem words (P : Int) : P / 18446744073709551616 * 18446744073709551616 + P % 18446744073709551616 = P := by omega
theorem prod_bd (x y : Int) (h1 : 0 ≤ x) (h2 : x ≤ 9223372036854775808) (h3 : 0 ≤ y) (h4 : y ≤ 9223372036854775808) : 0 ≤ x * y ∧ x * y ≤ 85070591730234615865843651857942052864 :=
  ⟨Int.mul_nonneg h1 h3, Int.le_trans (Int.mul_le_mul h2 h4 h3 (by omega)) (by decide)⟩
end Go.Proofs.YtaidijbjpogpeaaDoor.Ar
