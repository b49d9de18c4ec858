/- Plain arithmetic of the calendar: days ahead of a month, and which month has a day. No program in sight. -/
namespace Go.Proofs.YtlmhifdilmnlnaaDoor.Civ
/-- How many days of a year are ahead of a month (1 to 13). -/
def cum (m : Int) : Int :=
  if m = 1 then 0 else if m = 2 then 31 else if m = 3 then 59 else if m = 4 then 90 else if m = 5 then 120 else if m = 6 then 151
  else if m = 7 then 181 else if m = 8 then 212 else if m = 9 then 243 else if m = 10 then 273 else if m = 11 then 304 else if m = 12 then 334 else 365
def leap (y : Int) : Bool := decide (y % 4 = 0 ∧ (y % 100 ≠ 0 ∨ y % 400 = 0))
def lp (y : Int) : Int := if leap y then 1 else 0
def late (y m : Int) : Int := if 2 < m then lp y else 0
/-- How many days are ahead of a month of a year. -/
def U (y m : Int) : Int := (y - 1) * 365 + (y - 1) / 4 - (y - 1) / 100 + (y - 1) / 400 + cum m + late y m
/-- The month of that day. -/
def IsDate (day y m : Int) : Prop := 1 ≤ y ∧ y ≤ 9999 ∧ 1 ≤ m ∧ m ≤ 12 ∧ U y m < day ∧ day ≤ U y (m + 1)

theorem lp_eq (y : Int) : lp y = y / 4 - (y - 1) / 4 - (y / 100 - (y - 1) / 100) + (y / 400 - (y - 1) / 400) := by
  unfold lp leap; by_cases h : y % 4 = 0 ∧ (y % 100 ≠ 0 ∨ y % 400 = 0) <;> simp [h] <;> omega
theorem lp_01 (y : Int) : 0 ≤ lp y ∧ lp y ≤ 1 := by unfold lp; split <;> omega
theorem cases12 {P : Int → Prop} (m : Int) (h1 : 1 ≤ m) (h2 : m ≤ 12) (h : P 1 ∧ P 2 ∧ P 3 ∧ P 4 ∧ P 5 ∧ P 6 ∧ P 7 ∧ P 8 ∧ P 9 ∧ P 10 ∧ P 11 ∧ P 12) : P m := by
  obtain ⟨a1, a2, a3, a4, a5, a6, a7, a8, a9, a10, a11, a12⟩ := h
  have : m = 1 ∨ m = 2 ∨ m = 3 ∨ m = 4 ∨ m = 5 ∨ m = 6 ∨ m = 7 ∨ m = 8 ∨ m = 9 ∨ m = 10 ∨ m = 11 ∨ m = 12 := by omega
  rcases this with h | h | h | h | h | h | h | h | h | h | h | h <;> subst h <;> assumption
/-- How long a month is. -/
theorem U_step (y m : Int) (h1 : 1 ≤ m) (h2 : m ≤ 12) : U y m + 28 ≤ U y (m + 1) ∧ U y (m + 1) ≤ U y m + 31 := by
  have hl := lp_01 y
  refine cases12 (P := fun m => U y m + 28 ≤ U y (m + 1) ∧ U y (m + 1) ≤ U y m + 31) m h1 h2 ?_
  simp [U, cum, late]
  omega
theorem U_next (y : Int) : U y 13 = U (y + 1) 1 := by
  have hl := lp_eq y
  simp [U, cum, late]
  omega
theorem U_year (y z : Int) (h : y ≤ z) : U y 1 ≤ U z 1 := by simp [U, cum, late]; omega
theorem U_months (y m n : Int) (h1 : 1 ≤ m) (h : m ≤ n) (h2 : n ≤ 13) : U y m ≤ U y n := by
  obtain ⟨k, rfl⟩ : ∃ k : Nat, n = m + k := ⟨(n - m).toNat, by omega⟩
  clear h
  induction k with
  | zero => simp
  | succ k ih =>
    have := ih (by omega)
    have := (U_step y (m + k) (by omega) (by omega)).1
    rw [show m + (k + 1 : Nat) = m + k + 1 from by omega]
    omega
/-- Later months, later days. -/
theorem U_mono (y m z n : Int) (h1 : 1 ≤ m) (h2 : m ≤ 12) (h3 : 1 ≤ n) (h4 : n ≤ 12) (h : y < z ∨ y = z ∧ m < n) : U y (m + 1) ≤ U z n := by
  rcases h with h | ⟨rfl, h⟩
  · have a := U_months y (m + 1) 13 (by omega) (by omega) (by omega)
    have b := U_next y
    have c := U_year (y + 1) z (by omega)
    have d := U_months z 1 n (by omega) (by omega) (by omega)
    omega
  · exact U_months y (m + 1) n (by omega) (by omega) (by omega)
/-- Only one month has a day. -/
theorem date_one {day y m z n : Int} (a : IsDate day y m) (b : IsDate day z n) : y = z ∧ m = n := by
  obtain ⟨_, _, a1, a2, a3, a4⟩ := a
  obtain ⟨_, _, b1, b2, b3, b4⟩ := b
  by_cases h : y < z ∨ y = z ∧ m < n
  · have := U_mono y m z n a1 a2 b1 b2 h; omega
  by_cases h' : z < y ∨ z = y ∧ n < m
  · have := U_mono z n y m b1 b2 a1 a2 h'; omega
  omega
theorem U_400 (y m : Int) : U (y + 400) m = U y m + 146097 := by
  have e : leap (y + 400) = leap y := by unfold leap; rw [decide_eq_decide]; omega
  simp only [U, late, lp, e]
  omega
theorem cum_bd (m : Int) : 0 ≤ cum m ∧ cum m ≤ 365 := by
  unfold cum
  repeat (first | (refine ⟨?_, ?_⟩ <;> decide) | split)
theorem U_first : U 1 1 = 0 := by decide
theorem U_last : U 9999 13 = 3652059 := by decide
theorem U_9599 : U 9599 13 = 3505962 := by decide
theorem U_lo (y m : Int) (h1 : 1 ≤ y) (h2 : 1 ≤ m) (h3 : m ≤ 13) : 0 ≤ U y m := by
  have := U_months y 1 m (by omega) (by omega) h3
  have := U_year 1 y h1
  have := U_first
  omega
theorem U_hi (y m : Int) (h1 : y ≤ 9999) (h2 : 1 ≤ m) (h3 : m ≤ 13) : U y m ≤ 3652059 := by
  have := U_months y m 13 (by omega) (by omega) (by omega)
  have := U_next y
  have := U_year (y + 1) 10000 (by omega)
  have := U_next 9999
  have := U_last
  simp at *
  omega
/-- 400 years later. -/
theorem date_400 {day y m : Int} (a : IsDate day y m) (h : y + 400 ≤ 9999) : IsDate (day + 146097) (y + 400) m := by
  obtain ⟨a1, a2, a3, a4, a5, a6⟩ := a
  refine ⟨by omega, h, a3, a4, ?_, ?_⟩ <;> rw [U_400] <;> omega
theorem day_hi {day y m : Int} (a : IsDate day y m) : 1 ≤ day ∧ day ≤ 3652059 := by
  obtain ⟨a1, a2, a3, a4, a5, a6⟩ := a
  have := U_lo y m a1 a3 (by omega)
  have := U_hi y (m + 1) a2 (by omega) (by omega)
  omega
theorem fits_400 {day y m : Int} (a : IsDate day y m) : day + 146097 ≤ 3652059 ↔ y + 400 ≤ 9999 := by
  obtain ⟨a1, a2, a3, a4, a5, a6⟩ := a
  have e := U_9599
  have e' := U_next 9599
  constructor
  · intro h
    apply Classical.byContradiction
    intro hn
    have := U_year (9599 + 1) y (by omega)
    have := U_months y 1 m (by omega) (by omega) (by omega)
    omega
  · intro h
    have := U_months y (m + 1) 13 (by omega) (by omega) (by omega)
    have := U_next y
    have := U_year (y + 1) (9599 + 1) (by omega)
    omega
/-- The next day. -/
theorem date_next {day y m : Int} (a : IsDate day y m) (h : day + 1 ≤ 3652059) :
    (IsDate (day + 1) y m) ∨ (m < 12 ∧ IsDate (day + 1) y (m + 1) ∧ day = U y (m + 1)) ∨ (m = 12 ∧ IsDate (day + 1) (y + 1) 1 ∧ day = U (y + 1) 1) := by
  obtain ⟨a1, a2, a3, a4, a5, a6⟩ := a
  by_cases h1 : day + 1 ≤ U y (m + 1)
  · exact Or.inl ⟨a1, a2, a3, a4, by omega, h1⟩
  · have e : day = U y (m + 1) := by omega
    by_cases h2 : m < 12
    · have := (U_step y (m + 1) (by omega) (by omega)).1
      exact Or.inr (Or.inl ⟨h2, ⟨a1, a2, by omega, by omega, by omega, by omega⟩, e⟩)
    · obtain rfl : m = 12 := by omega
      have hn := U_next y
      have e2 : day = U (y + 1) 1 := by rw [e]; exact hn
      have hl := U_last
      have hy : y + 1 ≤ 9999 := by
        apply Classical.byContradiction; intro hh
        obtain rfl : y = 9999 := by omega
        simp at e; omega
      have := (U_step (y + 1) 1 (by omega) (by omega)).1
      exact Or.inr (Or.inr ⟨rfl, ⟨by omega, hy, by omega, by omega, by omega, by omega⟩, e2⟩)
/-- Each day has a month. -/
theorem date_ex (day : Int) (h1 : 1 ≤ day) (h2 : day ≤ 3652059) : ∃ y m, IsDate day y m := by
  obtain ⟨n, rfl⟩ : ∃ n : Nat, day = n + 1 := ⟨(day - 1).toNat, by omega⟩
  clear h1
  induction n with
  | zero => exact ⟨1, 1, by unfold IsDate; decide⟩
  | succ n ih =>
    obtain ⟨y, m, h⟩ := ih (by omega)
    rw [show ((n + 1 : Nat) : Int) + 1 = (n : Int) + 1 + 1 by omega]
    rcases date_next h (by omega) with h | ⟨_, h, _⟩ | ⟨_, h, _⟩ <;> exact ⟨_, _, h⟩
theorem date_lo {day y m : Int} (a : IsDate day y m) : 1 ≤ day - U y m ∧ day - U y m ≤ 31 := by
  obtain ⟨a1, a2, a3, a4, a5, a6⟩ := a
  have := U_step y m a3 a4
  omega
/-- How long a month is. -/
def len (y m : Int) : Int := U y (m + 1) - U y m
theorem len_eq (y m : Int) (h1 : 1 ≤ m) (h2 : m ≤ 12) : len y m = if m = 2 then 28 + lp y else if m = 4 ∨ m = 6 ∨ m = 9 ∨ m = 11 then 30 else 31 := by
  refine cases12 (P := fun m => len y m = if m = 2 then 28 + lp y else if m = 4 ∨ m = 6 ∨ m = 9 ∨ m = 11 then 30 else 31) m h1 h2 ?_
  simp [len, U, cum, late]
  omega
theorem year_eq (y : Int) : U (y + 1) 1 = U y 1 + 365 + lp y := by
  have := lp_eq y
  simp [U, cum, late]
  omega
theorem U_400s (q : Int) : U (400 * q + 1) 1 = 146097 * q := by simp [U, cum, late]; omega
theorem U_base (y : Int) : U (y - (y - 1) % 400) 1 = (y - 1) / 400 * 146097 := by
  have h := U_400s ((y - 1) / 400)
  rw [show 400 * ((y - 1) / 400) + 1 = y - (y - 1) % 400 by omega] at h
  omega
end Go.Proofs.YtlmhifdilmnlnaaDoor.Civ
