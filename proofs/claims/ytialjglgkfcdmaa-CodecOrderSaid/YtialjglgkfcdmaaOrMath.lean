/- Keys: plain mathematics of kinds. -/
namespace Go.Proofs.Ytialjglgkfcdmaa.Or
def okB (c : UInt8) : Bool := c == 110 || c == 105 || c == 115
def kindsB (l : List UInt8) : Bool := decide (l.length ≤ 16) && l.all okB
theorem kinds_no {l : List UInt8} (k : Nat) (h : k < l.length) (hk : okB l[k] = false) : kindsB l = false := by
  unfold kindsB
  have : l.all okB = false := by
    rw [← Bool.not_eq_true, List.all_eq_true]
    intro hall
    have := hall l[k] (List.getElem_mem h)
    rw [hk] at this
    cases this
  rw [this, Bool.and_false]
theorem kinds_long {l : List UInt8} (h : 16 < l.length) : kindsB l = false := by
  unfold kindsB
  rw [decide_eq_false (by omega), Bool.false_and]
theorem kinds_all {l : List UInt8} (h : ∀ k (hk : k < l.length), okB l[k] = true) : kindsB l = decide (l.length ≤ 16) := by
  unfold kindsB
  have : l.all okB = true := List.all_eq_true.2 fun x hx => by
    obtain ⟨k, hk, rfl⟩ := List.getElem_of_mem hx
    exact h k hk
  rw [this, Bool.and_true]
theorem okB_cases (c : UInt8) : (okB c = true ∧ (c.toNat = 110 ∨ c.toNat = 105 ∨ c.toNat = 115)) ∨ (okB c = false ∧ c.toNat ≠ 110 ∧ c.toNat ≠ 105 ∧ c.toNat ≠ 115) := by
  unfold okB
  by_cases h1 : c = 110
  · subst h1; left; decide
  · by_cases h2 : c = 105
    · subst h2; left; decide
    · by_cases h3 : c = 115
      · subst h3; left; decide
      · right
        refine ⟨by simp [h1, h2, h3], ?_, ?_, ?_⟩
        · exact fun h => h1 (UInt8.toNat_inj.1 h)
        · exact fun h => h2 (UInt8.toNat_inj.1 h)
        · exact fun h => h3 (UInt8.toNat_inj.1 h)
end Go.Proofs.Ytialjglgkfcdmaa.Or
