/- Months of a term: plain mathematics. -/
import Derived.Test.YtlmhifdilmnlnaaDoorCivMath
namespace Go.Proofs.YtlmhifdilmnlnaaDoor.Pr
/-- The year, and the month of it, of a month. -/
def Yk (k : Int) : Int := (k - 1) / 12 + 1
def Mk (k : Int) : Int := (k - 1) % 12 + 1
/-- The last day of a month. -/
def E (k : Int) : Int := Civ.U (Yk k) (Mk k + 1)
/-- The day ahead of its first one. -/
def B (k : Int) : Int := Civ.U (Yk k) (Mk k)
theorem B_succ (k : Int) : B (k + 1) = E k := by
  unfold B E Yk Mk
  by_cases h : (k - 1) % 12 + 1 < 12
  · rw [show (k + 1 - 1) / 12 + 1 = (k - 1) / 12 + 1 by omega, show (k + 1 - 1) % 12 + 1 = (k - 1) % 12 + 1 + 1 by omega]
  · have hn := Civ.U_next ((k - 1) / 12 + 1)
    rw [show (k - 1) % 12 + 1 + 1 = 13 by omega, show (k + 1 - 1) / 12 + 1 = (k - 1) / 12 + 1 + 1 by omega, show (k + 1 - 1) % 12 + 1 = 1 by omega]
    exact hn.symm
theorem BE (k : Int) : B k + 28 ≤ E k ∧ E k ≤ B k + 31 := Civ.U_step (Yk k) (Mk k) (by unfold Mk; omega) (by unfold Mk; omega)
theorem E_hi (k : Int) (h : k ≤ 119988) : E k ≤ 3652059 := Civ.U_hi (Yk k) (Mk k + 1) (by unfold Yk; omega) (by unfold Mk; omega) (by unfold Mk; omega)
theorem B_lo (k : Int) (h : 1 ≤ k) : 0 ≤ B k := Civ.U_lo (Yk k) (Mk k) (by unfold Yk; omega) (by unfold Mk; omega) (by unfold Mk; omega)
theorem E_top : E 119988 = 3652059 := by decide
/-- A month has a day. -/
structure In (k day : Int) : Prop where
  lo : 1 ≤ k
  hi : k ≤ 119988
  a : B k < day
  b : day ≤ E k
theorem In.date {k day : Int} (h : In k day) : Civ.IsDate day (Yk k) (Mk k) := by
  have a := h.lo; have b := h.hi
  exact ⟨by unfold Yk; omega, by unfold Yk; omega, by unfold Mk; omega, by unfold Mk; omega, h.a, h.b⟩
theorem In.k_eq (k : Int) : (Yk k - 1) * 12 + Mk k = k := by unfold Yk Mk; omega
theorem In.ex (day : Int) (h1 : 1 ≤ day) (h2 : day ≤ 3652059) : ∃ k, In k day := by
  obtain ⟨y, m, a1, a2, a3, a4, a5, a6⟩ := Civ.date_ex day h1 h2
  refine ⟨(y - 1) * 12 + m, by omega, by omega, ?_, ?_⟩
  · show Civ.U (((y - 1) * 12 + m - 1) / 12 + 1) (((y - 1) * 12 + m - 1) % 12 + 1) < day
    rw [show ((y - 1) * 12 + m - 1) / 12 + 1 = y by omega, show ((y - 1) * 12 + m - 1) % 12 + 1 = m by omega]; exact a5
  · show day ≤ Civ.U (((y - 1) * 12 + m - 1) / 12 + 1) (((y - 1) * 12 + m - 1) % 12 + 1 + 1)
    rw [show ((y - 1) * 12 + m - 1) / 12 + 1 = y by omega, show ((y - 1) * 12 + m - 1) % 12 + 1 = m by omega]; exact a6
theorem In.day {k day : Int} (h : In k day) : 1 ≤ day ∧ day ≤ 3652059 := by
  have a := h.a; have b := h.b; have c := B_lo k h.lo; have d := E_hi k h.hi; omega
theorem In.next {k day x : Int} (h : In k day) (hx : E k + 1 < x) (h2 : x ≤ 3652060) : In (k + 1) (E k + 1) := by
  have a := h.lo; have b := h.hi; have c := BE (k + 1)
  rw [B_succ] at c
  refine ⟨by omega, ?_, by rw [B_succ]; omega, by omega⟩
  rcases Int.lt_or_le k 119988 with hlt | hge
  · omega
  · have : k = 119988 := by omega
    subst this
    have := E_top
    omega
theorem In.one {k j day : Int} (h : In k day) (g : In j day) : k = j := by
  obtain ⟨e1, e2⟩ := Civ.date_one h.date g.date
  rw [← In.k_eq k, ← In.k_eq j, e1, e2]
/-- The months of a term: month k has its first day f. -/
def tm : Nat → Int → Int → Int → List (Int × Int)
  | 0, _, _, _ => []
  | n + 1, k, f, x => if E k + 1 < x then (k, E k + 1 - f) :: tm n (k + 1) (E k + 1) x else [(k, x - f)]
theorem tm_more (n : Nat) (k f x : Int) (h : In k f) (hx : f < x) (hn : x - f ≤ n) (hlt : E k + 1 < x) : ∃ m : Nat, n = m + 1 ∧ tm n k f x = (k, E k + 1 - f) :: tm m (k + 1) (E k + 1) x ∧ x - (E k + 1) ≤ m := by
  obtain ⟨m, rfl⟩ : ∃ m, n = m + 1 := ⟨n - 1, by omega⟩
  have := h.b
  exact ⟨m, rfl, by rw [tm, if_pos hlt], by omega⟩
theorem tm_last (n : Nat) (k f x : Int) (hx : f < x) (hn : x - f ≤ n) (hge : x ≤ E k + 1) : tm n k f x = [(k, x - f)] := by
  obtain ⟨m, rfl⟩ : ∃ m, n = m + 1 := ⟨n - 1, by omega⟩
  rw [tm, if_neg (by omega)]
theorem tm_fuel (n m : Nat) (k f x : Int) (h : In k f) (hx : f < x) (h2 : x ≤ 3652060) (hn : x - f ≤ n) (hm : x - f ≤ m) : tm n k f x = tm m k f x := by
  induction n generalizing m k f with
  | zero => omega
  | succ n ih =>
    by_cases hlt : E k + 1 < x
    · obtain ⟨a, e, e1, h1⟩ := tm_more (n + 1) k f x h hx hn hlt
      obtain ⟨b, e', e2, h3⟩ := tm_more m k f x h hx hm hlt
      obtain rfl : n = a := by omega
      rw [e1, e2, ih b (k + 1) (E k + 1) (h.next hlt h2) hlt h1 h3]
    · rw [tm_last _ k f x hx hn (by omega), tm_last _ k f x hx hm (by omega)]
/-- What is known of each month of a term. -/
theorem tm_len (n : Nat) (k f x : Int) (h : In k f) (hx : f < x) (h2 : x ≤ 3652060) (hn : x - f ≤ n) : 1 ≤ (tm n k f x).length ∧ ((tm n k f x).length : Int) ≤ x - f := by
  induction n generalizing k f with
  | zero => omega
  | succ n ih =>
    by_cases hlt : E k + 1 < x
    · obtain ⟨a, e, e1, h1⟩ := tm_more (n + 1) k f x h hx hn hlt
      obtain rfl : n = a := by omega
      rw [e1]
      have := ih (k + 1) (E k + 1) (h.next hlt h2) hlt h1
      have hb := h.b
      simp
      omega
    · rw [tm_last _ k f x hx hn (by omega)]; simp; omega
end Go.Proofs.YtlmhifdilmnlnaaDoor.Pr
