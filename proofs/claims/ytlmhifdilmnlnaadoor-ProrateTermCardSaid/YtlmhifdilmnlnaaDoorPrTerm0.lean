/- Months of a term that is cut: plain mathematics. -/
import Derived.Test.YtlmhifdilmnlnaaDoorPrMath
namespace Go.Proofs.YtlmhifdilmnlnaaDoor.Pr
/-- What is known of the months of a term. -/
structure TmOk (k f x : Int) (L : List (Int × Int)) : Prop where
  mon : ∀ i (h : i < L.length), L[i].1 = k + i
  rng : ∀ i (_ : i < L.length), k + i ≤ 119988
  pos : ∀ i (h : i < L.length), 1 ≤ L[i].2
  top : ∀ i (h : i < L.length), L[i].2 ≤ E (k + i) - B (k + i)
  mid : ∀ i (h : i < L.length), (0 < i ∨ f = B k + 1) → i + 1 < L.length → L[i].2 = E (k + i) - B (k + i)
  sum : (L.map (·.2)).sum = x - f
theorem tm_ok (n : Nat) (k f x : Int) (h : In k f) (hx : f < x) (h2 : x ≤ 3652060) (hn : x - f ≤ n) : TmOk k f x (tm n k f x) := by
  induction n generalizing k f with
  | zero => omega
  | succ n ih =>
    have ha := h.a; have hb := h.b; have hk := h.hi
    by_cases hlt : E k + 1 < x
    · obtain ⟨a, e, e1, h1⟩ := tm_more (n + 1) k f x h hx hn hlt
      obtain rfl : n = a := by omega
      have T := ih (k + 1) (E k + 1) (h.next hlt h2) hlt h1
      have hl := tm_len n (k + 1) (E k + 1) x (h.next hlt h2) hlt h2 h1
      rw [e1]
      generalize tm n (k + 1) (E k + 1) x = R at *
      refine ⟨?_, ?_, ?_, ?_, ?_, ?_⟩
      · intro i hi
        rcases i with _|i
        · simp
        · have := T.mon i (by simpa using hi); simp [this]; omega
      · intro i hi
        rcases i with _|i
        · simpa using hk
        · have := T.rng i (by simpa using hi); omega
      · intro i hi
        rcases i with _|i
        · simp; omega
        · have := T.pos i (by simpa using hi); simpa using this
      · intro i hi
        rcases i with _|i
        · simp; omega
        · have := T.top i (by simpa using hi)
          rw [show k + ((i + 1 : Nat) : Int) = k + 1 + (i : Int) by omega]
          simpa using this
      · intro i hi h0 hi2
        rcases i with _|i
        · rcases h0 with h0 | h0
          · omega
          · simp; omega
        · rw [show k + ((i + 1 : Nat) : Int) = k + 1 + (i : Int) by omega]
          have := T.mid i (by simpa using hi) (Or.inr (by rw [B_succ])) (by simpa using hi2)
          simpa using this
      · simp [T.sum]; omega
    · rw [tm_last _ k f x hx hn (by omega)]
      refine ⟨?_, ?_, ?_, ?_, ?_, ?_⟩
      · intro i hi; obtain rfl : i = 0 := by simpa using hi
        simp
      · intro i hi; obtain rfl : i = 0 := by simpa using hi
        simpa using hk
      · intro i hi; obtain rfl : i = 0 := by simpa using hi
        simp; omega
      · intro i hi; obtain rfl : i = 0 := by simpa using hi
        simp; omega
      · intro i hi _ h1; simp at h1
      · simp
/-- A term that is cut: the months of its parts, where the one that has both ends is joined. -/
theorem tm_cut (n n1 n2 : Nat) (k j f y x : Int) (h : In k f) (hj : In j y) (hy : f < y) (hyx : y < x) (hx2 : x ≤ 3652060) (hn : x - f ≤ n) (hn1 : y - f ≤ n1) (hn2 : x - y ≤ n2) :
    ∃ (A0 T : List (Int × Int)) (ma la mb lb : Int), tm n1 k f y = A0 ++ [(ma, la)] ∧ tm n2 j y x = (mb, lb) :: T ∧ ((ma = mb ∧ A0 ++ (mb, lb + la) :: T = tm n k f x) ∨ (ma ≠ mb ∧ A0 ++ (ma, la) :: (mb, lb) :: T = tm n k f x)) := by
  induction n generalizing n1 k f with
  | zero => omega
  | succ n ih =>
    have ha := h.a; have hb := h.b
    have ja := hj.a; have jb := hj.b
    by_cases h1 : E k + 1 < y
    · obtain ⟨a, ea, e1, g1⟩ := tm_more n1 k f y h hy hn1 h1
      obtain ⟨b, eb, e2, g2⟩ := tm_more (n + 1) k f x h (by omega) hn (by omega)
      obtain rfl : n = b := by omega
      obtain ⟨A0, T, ma, la, mb, lb, r1, r2, r3⟩ := ih a (k + 1) (E k + 1) (h.next h1 (by omega)) h1 g2 g1
      refine ⟨(k, E k + 1 - f) :: A0, T, ma, la, mb, lb, by rw [e1, r1]; rfl, r2, ?_⟩
      rw [e2]
      rcases r3 with ⟨q1, q2⟩ | ⟨q1, q2⟩
      · exact Or.inl ⟨q1, by rw [← q2]; rfl⟩
      · exact Or.inr ⟨q1, by rw [← q2]; rfl⟩
    · have e1 := tm_last n1 k f y hy hn1 (by omega)
      by_cases h2 : y = E k + 1
      · subst h2
        obtain rfl : j = k + 1 := hj.one (h.next hyx hx2)
        obtain ⟨b, eb, e2, g2⟩ := tm_more (n + 1) k f x h (by omega) hn hyx
        obtain rfl : n = b := by omega
        have e3 := tm_fuel n n2 (k + 1) (E k + 1) x hj hyx hx2 g2 hn2
        have hl := tm_len n2 (k + 1) (E k + 1) x hj hyx hx2 hn2
        by_cases h3 : E (k + 1) + 1 < x
        · obtain ⟨c, ec, e4, g4⟩ := tm_more n2 (k + 1) (E k + 1) x hj hyx hn2 h3
          exact ⟨[], _, _, _, _, _, e1, e4, Or.inr ⟨by omega, by rw [e2, e3, e4]; rfl⟩⟩
        · have e4 := tm_last n2 (k + 1) (E k + 1) x hyx hn2 (by omega)
          exact ⟨[], _, _, _, _, _, e1, e4, Or.inr ⟨by omega, by rw [e2, e3, e4]; rfl⟩⟩
      · have hky : In k y := ⟨h.lo, h.hi, by omega, by omega⟩
        obtain rfl : j = k := hj.one hky
        by_cases h3 : E j + 1 < x
        · obtain ⟨c, ec, e4, g4⟩ := tm_more n2 j y x hj hyx hn2 h3
          obtain ⟨b, eb, e2, g2⟩ := tm_more (n + 1) j f x h (by omega) hn h3
          refine ⟨[], _, _, _, _, _, e1, e4, Or.inl ⟨rfl, ?_⟩⟩
          rw [e2, tm_fuel b c (j + 1) (E j + 1) x (h.next h3 hx2) h3 hx2 g2 g4]
          simp
          omega
        · have e4 := tm_last n2 j y x hyx hn2 (by omega)
          have e2 := tm_last (n + 1) j f x (by omega) hn (by omega)
          refine ⟨[], _, _, _, _, _, e1, e4, Or.inl ⟨rfl, ?_⟩⟩
          rw [e2]
          simp
          omega
/-- The days of the first ones. -/
def sumN (L : List (Int × Int)) (i : Nat) : Int := ((L.take i).map (·.2)).sum
theorem sumN_succ (L : List (Int × Int)) (i : Nat) (h : i < L.length) : sumN L (i + 1) = sumN L i + L[i].2 := by
  unfold sumN; rw [List.take_succ_eq_append_getElem h, List.map_append]; simp
theorem sumN_bd {k f x : Int} {L : List (Int × Int)} (h : TmOk k f x L) (i : Nat) (hi : i ≤ L.length) : (i : Int) ≤ sumN L i ∧ sumN L i ≤ 31 * i := by
  induction i with
  | zero => simp [sumN]
  | succ i ih =>
    have h1 := ih (by omega)
    have h2 := h.pos i (by omega)
    have h3 := h.top i (by omega)
    have h4 := BE (k + (i : Int))
    rw [sumN_succ L i (by omega)]
    omega
end Go.Proofs.YtlmhifdilmnlnaaDoor.Pr
