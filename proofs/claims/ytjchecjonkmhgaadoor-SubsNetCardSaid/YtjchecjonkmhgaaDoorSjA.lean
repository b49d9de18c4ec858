/- Joined: ArMath ArMath2 ArMath3 ArMath4 CivMath CivMath2 PrMath. -/

section
namespace Go.Proofs.YtjchecjonkmhgaaDoor.Ar
/-- The distance from 0. -/
def mag (n : Int) : Int := if n < 0 then -n else n
theorem mag_bd (n : Int) (h1 : -9223372036854775808 ≤ n) (h2 : n ≤ 9223372036854775807) : 0 ≤ mag n ∧ mag n ≤ 9223372036854775808 := by unfold mag; split <;> omega
theorem mul_bd {x y B : Int} (h1 : 0 ≤ x) (h2 : x ≤ B) (h3 : 0 ≤ y) (h4 : y ≤ B) : 0 ≤ x * y ∧ x * y ≤ B * B :=
  ⟨Int.mul_nonneg h1 h3, Int.mul_le_mul h2 h4 h3 (by omega)⟩
theorem prod_parts (ah al bh bl : Int) : (ah * 4294967296 + al) * (bh * 4294967296 + bl) = (ah * bh) * 18446744073709551616 + (ah * bl + al * bh) * 4294967296 + al * bl := by
  grind
theorem prod_words (a b : Int) (h1 : 0 ≤ a) (h2 : a < 18446744073709551616) (h3 : 0 ≤ b) (h4 : b < 18446744073709551616) :
    let low := (a % 4294967296) * (b % 4294967296)
    let mid := (a / 4294967296) * (b % 4294967296) + low / 4294967296
    let oth := (a % 4294967296) * (b / 4294967296) + mid % 4294967296
    (0 ≤ low ∧ low < 18446744073709551616) ∧ (0 ≤ (a / 4294967296) * (b % 4294967296) ∧ mid < 18446744073709551616) ∧ (0 ≤ (a % 4294967296) * (b / 4294967296) ∧ oth < 18446744073709551616) ∧
    0 ≤ (a / 4294967296) * (b / 4294967296) ∧
    (a / 4294967296) * (b / 4294967296) + mid / 4294967296 + oth / 4294967296 = a * b / 18446744073709551616 ∧
    oth % 4294967296 * 4294967296 + low % 4294967296 = a * b % 18446744073709551616 ∧ a * b / 18446744073709551616 < 18446744073709551616 := by
  intro low mid oth
  have e := prod_parts (a / 4294967296) (a % 4294967296) (b / 4294967296) (b % 4294967296)
  rw [show a / 4294967296 * 4294967296 + a % 4294967296 = a by omega, show b / 4294967296 * 4294967296 + b % 4294967296 = b by omega] at e
  have p1 := mul_bd (x := a % 4294967296) (y := b % 4294967296) (B := 4294967295) (by omega) (by omega) (by omega) (by omega)
  have p2 := mul_bd (x := a / 4294967296) (y := b % 4294967296) (B := 4294967295) (by omega) (by omega) (by omega) (by omega)
  have p3 := mul_bd (x := a % 4294967296) (y := b / 4294967296) (B := 4294967295) (by omega) (by omega) (by omega) (by omega)
  have p4 := mul_bd (x := a / 4294967296) (y := b / 4294967296) (B := 4294967295) (by omega) (by omega) (by omega) (by omega)
  simp only [low, mid, oth]
  generalize a % 4294967296 * (b % 4294967296) = X at *
  generalize a / 4294967296 * (b % 4294967296) = Y at *
  generalize a % 4294967296 * (b / 4294967296) = Z at *
  generalize a / 4294967296 * (b / 4294967296) = W at *
  generalize a * b = P at *
  omega

/-- What fits 64 bits. -/
def Fits (n : Int) : Prop := -9223372036854775808 ≤ n ∧ n ≤ 9223372036854775807
instance (n : Int) : Decidable (Fits n) := by unfold Fits; infer_instance
def val (n : Int) : Int := if Fits n then n else 0
def ok (n : Int) : Bool := decide (Fits n)
/-- The sign given to a magnitude. -/
def sg (neg : Bool) (m : Int) : Int := if neg then -m else m
theorem sg_mul (a b : Int) : sg (xor (decide (a < 0)) (decide (b < 0))) (mag a * mag b) = a * b := by
  unfold sg mag
  by_cases ha : a < 0 <;> by_cases hb : b < 0 <;> simp [ha, hb, Int.neg_mul, Int.mul_neg]
theorem words (P : Int) : P / 18446744073709551616 * 18446744073709551616 + P % 18446744073709551616 = P := by omega
theorem prod_bd (x y : Int) (h1 : 0 ≤ x) (h2 : x ≤ 9223372036854775808) (h3 : 0 ≤ y) (h4 : y ≤ 9223372036854775808) : 0 ≤ x * y ∧ x * y ≤ 85070591730234615865843651857942052864 :=
  ⟨Int.mul_nonneg h1 h3, Int.le_trans (Int.mul_le_mul h2 h4 h3 (by omega)) (by decide)⟩
end Go.Proofs.YtjchecjonkmhgaaDoor.Ar
end
section
namespace Go.Proofs.YtjchecjonkmhgaaDoor.Ar
/-- Behind all bits but k: what was divided so far is c times Q and r. -/
def Inv (h l c : Int) (k : Nat) (Q r : Int) : Prop := 0 ≤ Q ∧ 0 ≤ r ∧ r < c ∧ (h % c) * 2 ^ (64 - k) + l / 2 ^ k = c * Q + r ∧ Q < 2 ^ (64 - k)
theorem inv_start (h l c : Int) (c0 : 1 ≤ c) (l0 : 0 ≤ l) (l1 : l < 18446744073709551616) : Inv h l c 64 0 (h % c) := by
  refine ⟨by omega, Int.emod_nonneg _ (by omega), Int.emod_lt_of_pos _ (by omega), ?_, by decide⟩
  have : l / 2 ^ 64 = 0 := by omega
  rw [this]; simp
theorem inv_step (h l c : Int) (k : Nat) (Q r : Int) (hk : k + 1 ≤ 64) (H : Inv h l c (k + 1) Q r) :
    (c ≤ 2 * r + l / 2 ^ k % 2 → Inv h l c k (2 * Q + 1) (2 * r + l / 2 ^ k % 2 - c)) ∧ (2 * r + l / 2 ^ k % 2 < c → Inv h l c k (2 * Q) (2 * r + l / 2 ^ k % 2)) := by
  obtain ⟨q0, r0, r1, e, q1⟩ := H
  have e64 : 64 - k = (64 - (k + 1)) + 1 := by omega
  have p1 : (2 : Int) ^ (64 - k) = 2 ^ (64 - (k + 1)) * 2 := by rw [e64, Int.pow_succ]
  have p2 : l / 2 ^ (k + 1) = l / 2 ^ k / 2 := by rw [Int.pow_succ, Int.ediv_ediv_of_nonneg (Int.pow_nonneg (by decide))]
  rw [p2] at e
  have m1 : h % c * (2 ^ (64 - (k + 1)) * 2) = 2 * (h % c * 2 ^ (64 - (k + 1))) := by grind
  have m2 : c * (2 * Q) = 2 * (c * Q) := by grind
  have m3 : c * (2 * Q + 1) = 2 * (c * Q) + c := by grind
  unfold Inv
  rw [p1, m1, m2, m3]
  generalize l / 2 ^ k = L at *
  generalize h % c * 2 ^ (64 - (k + 1)) = V at *
  generalize (2 : Int) ^ (64 - (k + 1)) = B at *
  constructor
  · intro hc
    exact ⟨by omega, by omega, by omega, by omega, by omega⟩
  · intro hc
    exact ⟨by omega, by omega, by omega, by omega, by omega⟩
theorem inv_end (h l c Q r : Int) (c0 : 1 ≤ c) (H : Inv h l c 0 Q r) :
    (h * 18446744073709551616 + l) / c / 18446744073709551616 = h / c ∧ (h * 18446744073709551616 + l) / c % 18446744073709551616 = Q ∧ (h * 18446744073709551616 + l) % c = r := by
  obtain ⟨q0, r0, r1, e, q1⟩ := H
  have e2 : h * 18446744073709551616 + l = r + c * (h / c * 18446744073709551616 + Q) := by
    have := Int.mul_ediv_add_emod h c
    simp at e
    grind
  have e3 : (h * 18446744073709551616 + l) / c = h / c * 18446744073709551616 + Q := by
    rw [e2, Int.add_mul_ediv_left _ _ (by omega), Int.ediv_eq_zero_of_lt r0 r1]; omega
  have e4 : (h * 18446744073709551616 + l) % c = r := by
    rw [e2, Int.add_mul_emod_self_left, Int.emod_eq_of_lt r0 r1]
  rw [e3, e4]
  simp at q1
  omega
/-- The quotient's bits so far: room is left, and the next one is new. -/
theorem inv_bits (h l c : Int) (k : Nat) (Q r : Int) (hk : k + 1 ≤ 64) (H : Inv h l c (k + 1) Q r) :
    0 ≤ Q * 2 ^ (k + 1) ∧ Q * 2 ^ (k + 1) + 2 ^ k < 18446744073709551616 ∧ Q * 2 ^ (k + 1) % 2 ^ (k + 1) = 0 ∧ (0 : Int) < 2 ^ k ∧ (2 : Int) ^ k < 2 ^ (k + 1) ∧ (2 * Q) * 2 ^ k = Q * 2 ^ (k + 1) ∧ (2 * Q + 1) * 2 ^ k = Q * 2 ^ (k + 1) + 2 ^ k := by
  obtain ⟨q0, _, _, _, q1⟩ := H
  have p0 : (0 : Int) < 2 ^ k := Int.pow_pos (by decide)
  have p1 : (2 : Int) ^ (k + 1) = 2 ^ k * 2 := Int.pow_succ _ _
  have p2 : (2 : Int) ^ (64 - (k + 1)) * 2 ^ (k + 1) = 18446744073709551616 := by rw [← Int.pow_add, show 64 - (k + 1) + (k + 1) = 64 by omega]; rfl
  have p3 : (Q + 1) * 2 ^ (k + 1) ≤ 2 ^ (64 - (k + 1)) * 2 ^ (k + 1) := Int.mul_le_mul_of_nonneg_right (by omega) (by omega)
  have p4 : (Q + 1) * 2 ^ (k + 1) = Q * 2 ^ (k + 1) + 2 ^ (k + 1) := by grind
  refine ⟨Int.mul_nonneg q0 (by omega), by omega, Int.mul_emod_left _ _, p0, by omega, by rw [p1]; grind, by rw [p1]; grind⟩
end Go.Proofs.YtjchecjonkmhgaaDoor.Ar
end
section
namespace Go.Proofs.YtjchecjonkmhgaaDoor.Ar
/-- The nearest integer to P by c, a half upwards. -/
def near (P c : Int) : Int := (2 * P + c) / (2 * c)
theorem near_pos (M c : Int) (c0 : 1 ≤ c) (_m0 : 0 ≤ M) : near M c = if c ≤ 2 * (M % c) then M / c + 1 else M / c := by
  unfold near
  have e := Int.mul_ediv_add_emod M c
  have r0 := Int.emod_nonneg M (show c ≠ 0 by omega)
  have r1 := Int.emod_lt_of_pos M (show 0 < c by omega)
  rw [show 2 * M + c = (2 * (M % c) + c) + 2 * c * (M / c) by grind, Int.add_mul_ediv_left _ _ (by omega)]
  split
  · rw [show 2 * (M % c) + c = (2 * (M % c) - c) + 2 * c * 1 by omega, Int.add_mul_ediv_left _ _ (by omega), Int.ediv_eq_zero_of_lt (by omega) (by omega)]; omega
  · rw [Int.ediv_eq_zero_of_lt (by omega) (by omega)]; omega
theorem near_neg (M c : Int) (c0 : 1 ≤ c) (_m0 : 0 ≤ M) : near (-M) c = -(if c < 2 * (M % c) then M / c + 1 else M / c) := by
  unfold near
  have e := Int.mul_ediv_add_emod M c
  have r0 := Int.emod_nonneg M (show c ≠ 0 by omega)
  have r1 := Int.emod_lt_of_pos M (show 0 < c by omega)
  rw [show 2 * -M + c = (c - 2 * (M % c)) + 2 * c * (-(M / c)) by grind, Int.add_mul_ediv_left _ _ (by omega)]
  split
  · rw [show c - 2 * (M % c) = (3 * c - 2 * (M % c)) + 2 * c * (-1) by omega, Int.add_mul_ediv_left _ _ (by omega), Int.ediv_eq_zero_of_lt (by omega) (by omega)]; omega
  · rw [Int.ediv_eq_zero_of_lt (by omega) (by omega)]; omega
/-- The quotient, rounded down, and the rest, of a number below 0. -/
theorem floor_neg (M c : Int) (c0 : 1 ≤ c) (h : 0 < M % c) : (-M) / c = -(M / c + 1) ∧ (-M) % c = c - M % c := by
  have e := Int.mul_ediv_add_emod M c
  have r1 := Int.emod_lt_of_pos M (show 0 < c by omega)
  have e2 : -M = (c - M % c) + c * (-(M / c + 1)) := by grind
  constructor
  · rw [e2, Int.add_mul_ediv_left _ _ (by omega), Int.ediv_eq_zero_of_lt (by omega) (by omega)]; omega
  · rw [e2, Int.add_mul_emod_self_left, Int.emod_eq_of_lt (by omega) (by omega)]
theorem floor_neg0 (M c : Int) (c0 : 1 ≤ c) (h : M % c = 0) : (-M) / c = -(M / c) ∧ (-M) % c = 0 := by
  have e := Int.mul_ediv_add_emod M c
  rw [h] at e
  have e2 : -M = 0 + c * (-(M / c)) := by grind
  constructor
  · rw [e2, Int.add_mul_ediv_left _ _ (by omega), Int.zero_ediv]; omega
  · rw [e2, Int.add_mul_emod_self_left, Int.zero_emod]
theorem quo_bd (M c : Int) (c0 : 1 ≤ c) (m0 : 0 ≤ M) : 0 ≤ M / c ∧ M / c ≤ M := ⟨Int.ediv_nonneg m0 (by omega), Int.ediv_le_self _ m0⟩
end Go.Proofs.YtjchecjonkmhgaaDoor.Ar
end
section
namespace Go.Proofs.YtjchecjonkmhgaaDoor.Ar
/-- What is above 0, and what is below, summed apart. -/
def posS (l : List Int) : Int := (l.map fun x => if x < 0 then 0 else x).sum
def negS (l : List Int) : Int := (l.map fun x => if x < 0 then -x else 0).sum
theorem sum_parts (l : List Int) : l.sum = posS l - negS l := by
  induction l with
  | nil => rfl
  | cons x l ih =>
    simp only [posS, negS, List.map_cons, List.sum_cons] at *
    split <;> omega
theorem posS_snoc (l : List Int) (x : Int) : posS (l ++ [x]) = posS l + if x < 0 then 0 else x := by simp [posS]
theorem negS_snoc (l : List Int) (x : Int) : negS (l ++ [x]) = negS l + if x < 0 then -x else 0 := by simp [negS]
theorem sums_bd (l : List Int) (h : ∀ x ∈ l, -9223372036854775808 ≤ x ∧ x ≤ 9223372036854775807) : 0 ≤ posS l ∧ posS l ≤ l.length * 9223372036854775808 ∧ 0 ≤ negS l ∧ negS l ≤ l.length * 9223372036854775808 := by
  induction l with
  | nil => simp [posS, negS]
  | cons x l ih =>
    have := ih (fun y hy => h y (by simp [hy]))
    have := h x (by simp)
    simp only [posS, negS, List.map_cons, List.sum_cons, List.length_cons] at *
    split <;> omega
theorem take_snoc (zs : List Int) (k : Nat) (h : k < zs.length) : zs.take (k + 1) = zs.take k ++ [zs.getD k 0] := by
  rw [List.take_succ_eq_append_getElem h]; simp [h]
end Go.Proofs.YtjchecjonkmhgaaDoor.Ar
end
section
namespace Go.Proofs.YtjchecjonkmhgaaDoor.Civ
/-- How many days of a year are ahead of a month (1 to 13). -/
def cum (m : Int) : Int :=
  if m = 1 then 0 else if m = 2 then 31 else if m = 3 then 59 else if m = 4 then 90 else if m = 5 then 120 else if m = 6 then 151
  else if m = 7 then 181 else if m = 8 then 212 else if m = 9 then 243 else if m = 10 then 273 else if m = 11 then 304 else if m = 12 then 334 else 365
def leap (y : Int) : Bool := decide (y % 4 = 0 ∧ (y % 100 ≠ 0 ∨ y % 400 = 0))
def lp (y : Int) : Int := if leap y then 1 else 0
def late (y m : Int) : Int := if 2 < m then lp y else 0
/-- How many days are ahead of a month of a year. -/
def U (y m : Int) : Int := (y - 1) * 365 + (y - 1) / 4 - (y - 1) / 100 + (y - 1) / 400 + cum m + late y m
/-- The month of that day. -/
def IsDate (day y m : Int) : Prop := 1 ≤ y ∧ y ≤ 9999 ∧ 1 ≤ m ∧ m ≤ 12 ∧ U y m < day ∧ day ≤ U y (m + 1)

theorem lp_eq (y : Int) : lp y = y / 4 - (y - 1) / 4 - (y / 100 - (y - 1) / 100) + (y / 400 - (y - 1) / 400) := by
  unfold lp leap; by_cases h : y % 4 = 0 ∧ (y % 100 ≠ 0 ∨ y % 400 = 0) <;> simp [h] <;> omega
theorem lp_01 (y : Int) : 0 ≤ lp y ∧ lp y ≤ 1 := by unfold lp; split <;> omega
theorem cases12 {P : Int → Prop} (m : Int) (h1 : 1 ≤ m) (h2 : m ≤ 12) (h : P 1 ∧ P 2 ∧ P 3 ∧ P 4 ∧ P 5 ∧ P 6 ∧ P 7 ∧ P 8 ∧ P 9 ∧ P 10 ∧ P 11 ∧ P 12) : P m := by
  obtain ⟨a1, a2, a3, a4, a5, a6, a7, a8, a9, a10, a11, a12⟩ := h
  have : m = 1 ∨ m = 2 ∨ m = 3 ∨ m = 4 ∨ m = 5 ∨ m = 6 ∨ m = 7 ∨ m = 8 ∨ m = 9 ∨ m = 10 ∨ m = 11 ∨ m = 12 := by omega
  rcases this with h | h | h | h | h | h | h | h | h | h | h | h <;> subst h <;> assumption
/-- How long a month is. -/
theorem U_step (y m : Int) (h1 : 1 ≤ m) (h2 : m ≤ 12) : U y m + 28 ≤ U y (m + 1) ∧ U y (m + 1) ≤ U y m + 31 := by
  have hl := lp_01 y
  refine cases12 (P := fun m => U y m + 28 ≤ U y (m + 1) ∧ U y (m + 1) ≤ U y m + 31) m h1 h2 ?_
  simp [U, cum, late]
  omega
theorem U_next (y : Int) : U y 13 = U (y + 1) 1 := by
  have hl := lp_eq y
  simp [U, cum, late]
  omega
theorem U_year (y z : Int) (h : y ≤ z) : U y 1 ≤ U z 1 := by simp [U, cum, late]; omega
theorem U_months (y m n : Int) (h1 : 1 ≤ m) (h : m ≤ n) (h2 : n ≤ 13) : U y m ≤ U y n := by
  obtain ⟨k, rfl⟩ : ∃ k : Nat, n = m + k := ⟨(n - m).toNat, by omega⟩
  clear h
  induction k with
  | zero => simp
  | succ k ih =>
    have := ih (by omega)
    have := (U_step y (m + k) (by omega) (by omega)).1
    rw [show m + (k + 1 : Nat) = m + k + 1 from by omega]
    omega
/-- Later months, later days. -/
theorem U_mono (y m z n : Int) (h1 : 1 ≤ m) (h2 : m ≤ 12) (h3 : 1 ≤ n) (h4 : n ≤ 12) (h : y < z ∨ y = z ∧ m < n) : U y (m + 1) ≤ U z n := by
  rcases h with h | ⟨rfl, h⟩
  · have a := U_months y (m + 1) 13 (by omega) (by omega) (by omega)
    have b := U_next y
    have c := U_year (y + 1) z (by omega)
    have d := U_months z 1 n (by omega) (by omega) (by omega)
    omega
  · exact U_months y (m + 1) n (by omega) (by omega) (by omega)
/-- Only one month has a day. -/
theorem date_one {day y m z n : Int} (a : IsDate day y m) (b : IsDate day z n) : y = z ∧ m = n := by
  obtain ⟨_, _, a1, a2, a3, a4⟩ := a
  obtain ⟨_, _, b1, b2, b3, b4⟩ := b
  by_cases h : y < z ∨ y = z ∧ m < n
  · have := U_mono y m z n a1 a2 b1 b2 h; omega
  by_cases h' : z < y ∨ z = y ∧ n < m
  · have := U_mono z n y m b1 b2 a1 a2 h'; omega
  omega
theorem U_400 (y m : Int) : U (y + 400) m = U y m + 146097 := by
  have e : leap (y + 400) = leap y := by unfold leap; rw [decide_eq_decide]; omega
  simp only [U, late, lp, e]
  omega
theorem cum_bd (m : Int) : 0 ≤ cum m ∧ cum m ≤ 365 := by
  unfold cum
  repeat (first | (refine ⟨?_, ?_⟩ <;> decide) | split)
theorem U_first : U 1 1 = 0 := by decide
theorem U_last : U 9999 13 = 3652059 := by decide
theorem U_9599 : U 9599 13 = 3505962 := by decide
theorem U_lo (y m : Int) (h1 : 1 ≤ y) (h2 : 1 ≤ m) (h3 : m ≤ 13) : 0 ≤ U y m := by
  have := U_months y 1 m (by omega) (by omega) h3
  have := U_year 1 y h1
  have := U_first
  omega
theorem U_hi (y m : Int) (h1 : y ≤ 9999) (h2 : 1 ≤ m) (h3 : m ≤ 13) : U y m ≤ 3652059 := by
  have := U_months y m 13 (by omega) (by omega) (by omega)
  have := U_next y
  have := U_year (y + 1) 10000 (by omega)
  have := U_next 9999
  have := U_last
  simp at *
  omega
/-- 400 years later. -/
theorem date_400 {day y m : Int} (a : IsDate day y m) (h : y + 400 ≤ 9999) : IsDate (day + 146097) (y + 400) m := by
  obtain ⟨a1, a2, a3, a4, a5, a6⟩ := a
  refine ⟨by omega, h, a3, a4, ?_, ?_⟩ <;> rw [U_400] <;> omega
theorem day_hi {day y m : Int} (a : IsDate day y m) : 1 ≤ day ∧ day ≤ 3652059 := by
  obtain ⟨a1, a2, a3, a4, a5, a6⟩ := a
  have := U_lo y m a1 a3 (by omega)
  have := U_hi y (m + 1) a2 (by omega) (by omega)
  omega
theorem fits_400 {day y m : Int} (a : IsDate day y m) : day + 146097 ≤ 3652059 ↔ y + 400 ≤ 9999 := by
  obtain ⟨a1, a2, a3, a4, a5, a6⟩ := a
  have e := U_9599
  have e' := U_next 9599
  constructor
  · intro h
    apply Classical.byContradiction
    intro hn
    have := U_year (9599 + 1) y (by omega)
    have := U_months y 1 m (by omega) (by omega) (by omega)
    omega
  · intro h
    have := U_months y (m + 1) 13 (by omega) (by omega) (by omega)
    have := U_next y
    have := U_year (y + 1) (9599 + 1) (by omega)
    omega
/-- The next day. -/
theorem date_next {day y m : Int} (a : IsDate day y m) (h : day + 1 ≤ 3652059) :
    (IsDate (day + 1) y m) ∨ (m < 12 ∧ IsDate (day + 1) y (m + 1) ∧ day = U y (m + 1)) ∨ (m = 12 ∧ IsDate (day + 1) (y + 1) 1 ∧ day = U (y + 1) 1) := by
  obtain ⟨a1, a2, a3, a4, a5, a6⟩ := a
  by_cases h1 : day + 1 ≤ U y (m + 1)
  · exact Or.inl ⟨a1, a2, a3, a4, by omega, h1⟩
  · have e : day = U y (m + 1) := by omega
    by_cases h2 : m < 12
    · have := (U_step y (m + 1) (by omega) (by omega)).1
      exact Or.inr (Or.inl ⟨h2, ⟨a1, a2, by omega, by omega, by omega, by omega⟩, e⟩)
    · obtain rfl : m = 12 := by omega
      have hn := U_next y
      have e2 : day = U (y + 1) 1 := by rw [e]; exact hn
      have hl := U_last
      have hy : y + 1 ≤ 9999 := by
        apply Classical.byContradiction; intro hh
        obtain rfl : y = 9999 := by omega
        simp at e; omega
      have := (U_step (y + 1) 1 (by omega) (by omega)).1
      exact Or.inr (Or.inr ⟨rfl, ⟨by omega, hy, by omega, by omega, by omega, by omega⟩, e2⟩)
/-- Each day has a month. -/
theorem date_ex (day : Int) (h1 : 1 ≤ day) (h2 : day ≤ 3652059) : ∃ y m, IsDate day y m := by
  obtain ⟨n, rfl⟩ : ∃ n : Nat, day = n + 1 := ⟨(day - 1).toNat, by omega⟩
  clear h1
  induction n with
  | zero => exact ⟨1, 1, by unfold IsDate; decide⟩
  | succ n ih =>
    obtain ⟨y, m, h⟩ := ih (by omega)
    rw [show ((n + 1 : Nat) : Int) + 1 = (n : Int) + 1 + 1 by omega]
    rcases date_next h (by omega) with h | ⟨_, h, _⟩ | ⟨_, h, _⟩ <;> exact ⟨_, _, h⟩
theorem date_lo {day y m : Int} (a : IsDate day y m) : 1 ≤ day - U y m ∧ day - U y m ≤ 31 := by
  obtain ⟨a1, a2, a3, a4, a5, a6⟩ := a
  have := U_step y m a3 a4
  omega
/-- How long a month is. -/
def len (y m : Int) : Int := U y (m + 1) - U y m
theorem len_eq (y m : Int) (h1 : 1 ≤ m) (h2 : m ≤ 12) : len y m = if m = 2 then 28 + lp y else if m = 4 ∨ m = 6 ∨ m = 9 ∨ m = 11 then 30 else 31 := by
  refine cases12 (P := fun m => len y m = if m = 2 then 28 + lp y else if m = 4 ∨ m = 6 ∨ m = 9 ∨ m = 11 then 30 else 31) m h1 h2 ?_
  simp [len, U, cum, late]
  omega
theorem year_eq (y : Int) : U (y + 1) 1 = U y 1 + 365 + lp y := by
  have := lp_eq y
  simp [U, cum, late]
  omega
theorem U_400s (q : Int) : U (400 * q + 1) 1 = 146097 * q := by simp [U, cum, late]; omega
theorem U_base (y : Int) : U (y - (y - 1) % 400) 1 = (y - 1) / 400 * 146097 := by
  have h := U_400s ((y - 1) / 400)
  rw [show 400 * ((y - 1) / 400) + 1 = y - (y - 1) % 400 by omega] at h
  omega
end Go.Proofs.YtjchecjonkmhgaaDoor.Civ
end
section
namespace Go.Proofs.YtjchecjonkmhgaaDoor.Civ
theorem len_bd (y m : Int) (h1 : 1 ≤ m) (h2 : m ≤ 12) : 28 ≤ len y m ∧ len y m ≤ 31 := by
  have := U_step y m h1 h2
  unfold len
  omega
theorem U_add (y m : Int) : U y m + len y m = U y (m + 1) := by unfold len; omega
end Go.Proofs.YtjchecjonkmhgaaDoor.Civ
end
section
namespace Go.Proofs.YtjchecjonkmhgaaDoor.Pr
/-- The year, and the month of it, of a month. -/
def Yk (k : Int) : Int := (k - 1) / 12 + 1
def Mk (k : Int) : Int := (k - 1) % 12 + 1
/-- The last day of a month. -/
def E (k : Int) : Int := Civ.U (Yk k) (Mk k + 1)
/-- The day ahead of its first one. -/
def B (k : Int) : Int := Civ.U (Yk k) (Mk k)
theorem B_succ (k : Int) : B (k + 1) = E k := by
  unfold B E Yk Mk
  by_cases h : (k - 1) % 12 + 1 < 12
  · rw [show (k + 1 - 1) / 12 + 1 = (k - 1) / 12 + 1 by omega, show (k + 1 - 1) % 12 + 1 = (k - 1) % 12 + 1 + 1 by omega]
  · have hn := Civ.U_next ((k - 1) / 12 + 1)
    rw [show (k - 1) % 12 + 1 + 1 = 13 by omega, show (k + 1 - 1) / 12 + 1 = (k - 1) / 12 + 1 + 1 by omega, show (k + 1 - 1) % 12 + 1 = 1 by omega]
    exact hn.symm
theorem BE (k : Int) : B k + 28 ≤ E k ∧ E k ≤ B k + 31 := Civ.U_step (Yk k) (Mk k) (by unfold Mk; omega) (by unfold Mk; omega)
theorem E_hi (k : Int) (h : k ≤ 119988) : E k ≤ 3652059 := Civ.U_hi (Yk k) (Mk k + 1) (by unfold Yk; omega) (by unfold Mk; omega) (by unfold Mk; omega)
theorem B_lo (k : Int) (h : 1 ≤ k) : 0 ≤ B k := Civ.U_lo (Yk k) (Mk k) (by unfold Yk; omega) (by unfold Mk; omega) (by unfold Mk; omega)
theorem E_top : E 119988 = 3652059 := by decide
/-- A month has a day. -/
structure In (k day : Int) : Prop where
  lo : 1 ≤ k
  hi : k ≤ 119988
  a : B k < day
  b : day ≤ E k
theorem In.date {k day : Int} (h : In k day) : Civ.IsDate day (Yk k) (Mk k) := by
  have a := h.lo; have b := h.hi
  exact ⟨by unfold Yk; omega, by unfold Yk; omega, by unfold Mk; omega, by unfold Mk; omega, h.a, h.b⟩
theorem In.k_eq (k : Int) : (Yk k - 1) * 12 + Mk k = k := by unfold Yk Mk; omega
theorem In.ex (day : Int) (h1 : 1 ≤ day) (h2 : day ≤ 3652059) : ∃ k, In k day := by
  obtain ⟨y, m, a1, a2, a3, a4, a5, a6⟩ := Civ.date_ex day h1 h2
  refine ⟨(y - 1) * 12 + m, by omega, by omega, ?_, ?_⟩
  · show Civ.U (((y - 1) * 12 + m - 1) / 12 + 1) (((y - 1) * 12 + m - 1) % 12 + 1) < day
    rw [show ((y - 1) * 12 + m - 1) / 12 + 1 = y by omega, show ((y - 1) * 12 + m - 1) % 12 + 1 = m by omega]; exact a5
  · show day ≤ Civ.U (((y - 1) * 12 + m - 1) / 12 + 1) (((y - 1) * 12 + m - 1) % 12 + 1 + 1)
    rw [show ((y - 1) * 12 + m - 1) / 12 + 1 = y by omega, show ((y - 1) * 12 + m - 1) % 12 + 1 = m by omega]; exact a6
theorem In.day {k day : Int} (h : In k day) : 1 ≤ day ∧ day ≤ 3652059 := by
  have a := h.a; have b := h.b; have c := B_lo k h.lo; have d := E_hi k h.hi; omega
theorem In.next {k day x : Int} (h : In k day) (hx : E k + 1 < x) (h2 : x ≤ 3652060) : In (k + 1) (E k + 1) := by
  have a := h.lo; have b := h.hi; have c := BE (k + 1)
  rw [B_succ] at c
  refine ⟨by omega, ?_, by rw [B_succ]; omega, by omega⟩
  rcases Int.lt_or_le k 119988 with hlt | hge
  · omega
  · have : k = 119988 := by omega
    subst this
    have := E_top
    omega
theorem In.one {k j day : Int} (h : In k day) (g : In j day) : k = j := by
  obtain ⟨e1, e2⟩ := Civ.date_one h.date g.date
  rw [← In.k_eq k, ← In.k_eq j, e1, e2]
/-- The months of a term: month k has its first day f. -/
def tm : Nat → Int → Int → Int → List (Int × Int)
  | 0, _, _, _ => []
  | n + 1, k, f, x => if E k + 1 < x then (k, E k + 1 - f) :: tm n (k + 1) (E k + 1) x else [(k, x - f)]
theorem tm_more (n : Nat) (k f x : Int) (h : In k f) (hx : f < x) (hn : x - f ≤ n) (hlt : E k + 1 < x) : ∃ m : Nat, n = m + 1 ∧ tm n k f x = (k, E k + 1 - f) :: tm m (k + 1) (E k + 1) x ∧ x - (E k + 1) ≤ m := by
  obtain ⟨m, rfl⟩ : ∃ m, n = m + 1 := ⟨n - 1, by omega⟩
  have := h.b
  exact ⟨m, rfl, by rw [tm, if_pos hlt], by omega⟩
theorem tm_last (n : Nat) (k f x : Int) (hx : f < x) (hn : x - f ≤ n) (hge : x ≤ E k + 1) : tm n k f x = [(k, x - f)] := by
  obtain ⟨m, rfl⟩ : ∃ m, n = m + 1 := ⟨n - 1, by omega⟩
  rw [tm, if_neg (by omega)]
theorem tm_fuel (n m : Nat) (k f x : Int) (h : In k f) (hx : f < x) (h2 : x ≤ 3652060) (hn : x - f ≤ n) (hm : x - f ≤ m) : tm n k f x = tm m k f x := by
  induction n generalizing m k f with
  | zero => omega
  | succ n ih =>
    by_cases hlt : E k + 1 < x
    · obtain ⟨a, e, e1, h1⟩ := tm_more (n + 1) k f x h hx hn hlt
      obtain ⟨b, e', e2, h3⟩ := tm_more m k f x h hx hm hlt
      obtain rfl : n = a := by omega
      rw [e1, e2, ih b (k + 1) (E k + 1) (h.next hlt h2) hlt h1 h3]
    · rw [tm_last _ k f x hx hn (by omega), tm_last _ k f x hx hm (by omega)]
/-- What is known of each month of a term. -/
theorem tm_len (n : Nat) (k f x : Int) (h : In k f) (hx : f < x) (h2 : x ≤ 3652060) (hn : x - f ≤ n) : 1 ≤ (tm n k f x).length ∧ ((tm n k f x).length : Int) ≤ x - f := by
  induction n generalizing k f with
  | zero => omega
  | succ n ih =>
    by_cases hlt : E k + 1 < x
    · obtain ⟨a, e, e1, h1⟩ := tm_more (n + 1) k f x h hx hn hlt
      obtain rfl : n = a := by omega
      rw [e1]
      have := ih (k + 1) (E k + 1) (h.next hlt h2) hlt h1
      have hb := h.b
      simp
      omega
    · rw [tm_last _ k f x hx hn (by omega)]; simp; omega
end Go.Proofs.YtjchecjonkmhgaaDoor.Pr
end
