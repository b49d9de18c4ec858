/- Plain lists of bytes: numbers in base 128, each with one way. No program in sight. -/
namespace Go.Proofs.Ytialjglgkfcdmaa.Ta
/-- The bytes that say that more follow: of a number so far above 0. -/
def up (m : Nat) : List UInt8 := if _h : m = 0 then [] else up ((m - 1) / 128) ++ [UInt8.ofNat (128 + (m - 1) % 128)]
termination_by m
decreasing_by omega
/-- The bytes of a number. -/
def num (n : Nat) : List UInt8 := up (n / 128) ++ [UInt8.ofNat (n % 128)]
theorem up_zero : up 0 = [] := by rw [up]; simp
theorem up_pos {m : Nat} (h : 0 < m) : up m = up ((m - 1) / 128) ++ [UInt8.ofNat (128 + (m - 1) % 128)] := by
  rw [up, dif_neg (by omega)]
/-- What is taken off bytes, behind those of a number so far. -/
def take (acc : Nat) : List UInt8 → Option (Nat × List UInt8)
  | [] => none
  | c :: cs => if 144115188075855871 < acc then none
    else if c.toNat < 128 then some (acc * 128 + c.toNat, cs)
    else if acc * 128 + (c.toNat - 128) = 18446744073709551615 then none
    else take (acc * 128 + (c.toNat - 128) + 1) cs
theorem up_next (acc : Nat) (c : UInt8) (h : ¬ c.toNat < 128) : up (acc * 128 + (c.toNat - 128) + 1) = up acc ++ [c] := by
  have hc : c.toNat < 256 := c.toNat_lt
  rw [up_pos (by omega)]
  rw [show (acc * 128 + (c.toNat - 128) + 1 - 1) / 128 = acc by omega, show 128 + (acc * 128 + (c.toNat - 128) + 1 - 1) % 128 = c.toNat by omega]
  simp
theorem num_end (acc : Nat) (c : UInt8) (h : c.toNat < 128) : num (acc * 128 + c.toNat) = up acc ++ [c] := by
  unfold num
  rw [show (acc * 128 + c.toNat) / 128 = acc by omega, show (acc * 128 + c.toNat) % 128 = c.toNat by omega]
  simp
/-- What is taken, put again, are the bytes. -/
theorem take_once (l : List UInt8) : ∀ (acc n : Nat) (r : List UInt8), take acc l = some (n, r) → num n ++ r = up acc ++ l := by
  induction l with
  | nil => intro acc n r h; simp [take] at h
  | cons c cs ih =>
    intro acc n r h
    unfold take at h
    split at h
    · simp at h
    · split at h
      · rename_i hc
        simp only [Option.some.injEq, Prod.mk.injEq] at h
        obtain ⟨rfl, rfl⟩ := h
        rw [num_end acc c hc]; simp
      · split at h
        · simp at h
        · rename_i hc _
          have := ih _ _ _ h
          rw [up_next acc c hc] at this
          rw [this]; simp
theorem take_bound (l : List UInt8) : ∀ (acc n : Nat) (r : List UInt8), take acc l = some (n, r) → n < 18446744073709551616 ∧ r.length < l.length := by
  induction l with
  | nil => intro acc n r h; simp [take] at h
  | cons c cs ih =>
    intro acc n r h
    unfold take at h
    split at h
    · simp at h
    · split at h
      · simp only [Option.some.injEq, Prod.mk.injEq] at h
        obtain ⟨rfl, rfl⟩ := h
        simp; omega
      · split at h
        · simp at h
        · have := ih _ _ _ h
          simp; omega
/-- The bytes so far are taken. -/
theorem take_up (m : Nat) : ∀ l : List UInt8, m ≤ 144115188075855872 → take 0 (up m ++ l) = take m l := by
  induction m using Nat.strongRecOn with
  | _ m ih =>
    intro l hm
    by_cases h : m = 0
    · subst h; rw [up_zero]; rfl
    · rw [up_pos (by omega), List.append_assoc, ih ((m - 1) / 128) (by omega) _ (by omega)]
      have ht : (UInt8.ofNat (128 + (m - 1) % 128)).toNat = 128 + (m - 1) % 128 := by simp; omega
      simp only [List.singleton_append, take, ht]
      rw [if_neg (by omega), if_neg (by omega), if_neg (by omega)]
      congr 1
      omega
theorem take_back (n : Nat) (r : List UInt8) (h : n < 18446744073709551616) : take 0 (num n ++ r) = some (n, r) := by
  unfold num
  rw [List.append_assoc, take_up _ _ (by omega)]
  have ht : (UInt8.ofNat (n % 128)).toNat = n % 128 := by simp; omega
  simp only [List.singleton_append, take, ht]
  rw [if_neg (by omega), if_pos (by omega)]
  congr 2
  omega
theorem up_high (m : Nat) : ∀ c ∈ up m, 128 ≤ c.toNat := by
  induction m using Nat.strongRecOn with
  | _ m ih =>
    by_cases h : m = 0
    · subst h; rw [up_zero]; simp
    · rw [up_pos (by omega)]
      intro c hc
      rw [List.mem_append] at hc
      rcases hc with hc | hc
      · exact ih _ (by omega) c hc
      · simp at hc; subst hc; simp; omega
theorem take_high (l : List UInt8) : ∀ acc, (∀ c ∈ l, 128 ≤ c.toNat) → take acc l = none := by
  induction l with
  | nil => intro _ _; rfl
  | cons c cs ih =>
    intro acc h
    have hc := h c (by simp)
    unfold take
    split
    · rfl
    · rw [if_neg (by omega)]
      split
      · rfl
      · exact ih _ (fun d hd => h d (by simp [hd]))
/-- Nothing is taken off a beginning that is not all. -/
theorem take_short (n k : Nat) (h : k < (num n).length) : take 0 ((num n).take k) = none := by
  refine take_high _ 0 ?_
  intro c hc
  unfold num at hc h
  rw [List.take_append_of_le_length (by simp at h; omega)] at hc
  exact up_high _ c (List.mem_of_mem_take hc)
def S : Nat → Nat
  | 0 => 1
  | k + 1 => 128 * S k + 1
/-- How many bytes. -/
theorem up_len (k : Nat) : ∀ m, m < S k → (up m).length ≤ k := by
  induction k with
  | zero => intro m h; simp [S] at h; subst h; rw [up_zero]; simp
  | succ k ih =>
    intro m h
    simp only [S] at h
    by_cases hm : m = 0
    · subst hm; rw [up_zero]; simp
    · rw [up_pos (by omega)]
      have := ih ((m - 1) / 128) (by omega)
      simp; omega
theorem num_len (n : Nat) (h : n < 18446744073709551616) : (num n).length ≤ 10 ∧ 1 ≤ (num n).length := by
  unfold num
  have := up_len 9 (n / 128) (by simp [S]; omega)
  simp; omega
theorem up_mono (m : Nat) : ∀ m', m ≤ m' → (up m).length ≤ (up m').length := by
  induction m using Nat.strongRecOn with
  | _ m ih =>
    intro m' h
    by_cases hm : m = 0
    · subst hm; rw [up_zero]; simp
    · rw [up_pos (by omega), up_pos (m := m') (by omega)]
      have := ih ((m - 1) / 128) (by omega) ((m' - 1) / 128) (by omega)
      simp; omega
theorem num_mono (n n' : Nat) (h : n ≤ n') : (num n).length ≤ (num n').length := by
  unfold num
  have := up_mono (n / 128) (n' / 128) (by omega)
  simp; omega
theorem take_big (acc : Nat) (l : List UInt8) (h : 144115188075855871 < acc) : take acc l = none := by
  cases l with
  | nil => rfl
  | cons c cs => unfold take; rw [if_pos h]
theorem take_end (acc : Nat) (c : UInt8) (cs : List UInt8) (h : ¬ 144115188075855871 < acc) (hc : c.toNat < 128) : take acc (c :: cs) = some (acc * 128 + c.toNat, cs) := by
  unfold take; rw [if_neg h, if_pos hc]
theorem take_full (acc : Nat) (c : UInt8) (cs : List UInt8) (h : ¬ 144115188075855871 < acc) (hc : ¬ c.toNat < 128) (hf : acc * 128 + c.toNat % 128 = 18446744073709551615) : take acc (c :: cs) = none := by
  have := c.toNat_lt
  unfold take; rw [if_neg h, if_neg hc, if_pos (by omega)]
theorem take_on (acc : Nat) (c : UInt8) (cs : List UInt8) (h : ¬ 144115188075855871 < acc) (hc : ¬ c.toNat < 128) (hf : acc * 128 + c.toNat % 128 ≠ 18446744073709551615) : take acc (c :: cs) = take (acc * 128 + c.toNat % 128 + 1) cs := by
  have := c.toNat_lt
  rw [show c.toNat % 128 = c.toNat - 128 by omega] at *
  conv => lhs; unfold take
  rw [if_neg h, if_neg hc, if_neg hf]
/-- What is taken off bytes as a string. -/
def takeText (l : List UInt8) : Option (List UInt8 × List UInt8) :=
  match take 0 l with
  | some (n, r) => if n ≤ r.length then some (r.take n, r.drop n) else none
  | none => none
end Go.Proofs.Ytialjglgkfcdmaa.Ta
