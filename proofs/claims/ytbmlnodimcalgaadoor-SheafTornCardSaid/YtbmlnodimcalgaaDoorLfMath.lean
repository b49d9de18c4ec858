/- Plain lists of bytes: a leaf between two stamps. No program in sight. -/
namespace Go.Proofs.YtbmlnodimcalgaaDoor.Lf
/-- The k lowest bytes of a number, the highest first. -/
def be : Nat → Nat → List UInt8
  | 0, _ => []
  | k + 1, n => be k (n / 256) ++ [UInt8.ofNat (n % 256)]
theorem be_len (k : Nat) : ∀ n, (be k n).length = k := by
  induction k with
  | zero => intro n; rfl
  | succ k ih => intro n; simp [be, ih]
def b8 (n : Nat) : List UInt8 := be 8 n
theorem b8_len (n : Nat) : (b8 n).length = 8 := be_len 8 n
def num (l : List UInt8) : Nat := l.foldl (fun a c => a * 256 + c.toNat) 0
theorem num_snoc (l : List UInt8) (c : UInt8) : num (l ++ [c]) = num l * 256 + c.toNat := by unfold num; rw [List.foldl_append]; rfl
theorem num_lt (k : Nat) : ∀ l : List UInt8, l.length = k → num l < 256 ^ k := by
  induction k with
  | zero => intro l h; have : l = [] := List.eq_nil_of_length_eq_zero h
            subst this; decide
  | succ k ih =>
    intro l h
    obtain ⟨c, l', rfl⟩ : ∃ c l', l = l' ++ [c] := by
      have hne : l ≠ [] := by intro e; subst e; simp at h
      exact ⟨l.getLast hne, l.dropLast, (List.dropLast_concat_getLast hne).symm⟩
    rw [num_snoc]
    have := ih l' (by simp at h; exact h)
    have hc := c.toNat_lt
    rw [Nat.pow_succ]
    omega
theorem num_be (k : Nat) : ∀ n, n < 256 ^ k → num (be k n) = n := by
  induction k with
  | zero => intro n h; simp at h; subst h; rfl
  | succ k ih =>
    intro n h
    rw [Nat.pow_succ] at h
    have := ih (n / 256) (by omega)
    show num (be k (n / 256) ++ [UInt8.ofNat (n % 256)]) = n
    rw [num_snoc, this]
    have : (UInt8.ofNat (n % 256)).toNat = n % 256 := by simp
    omega
theorem be_num (k : Nat) : ∀ l : List UInt8, l.length = k → be k (num l) = l := by
  induction k with
  | zero => intro l h; have : l = [] := List.eq_nil_of_length_eq_zero h
            subst this; rfl
  | succ k ih =>
    intro l h
    obtain ⟨c, l', rfl⟩ : ∃ c l', l = l' ++ [c] := by
      have hne : l ≠ [] := by intro e; subst e; simp at h
      exact ⟨l.getLast hne, l.dropLast, (List.dropLast_concat_getLast hne).symm⟩
    rw [num_snoc]
    have hc := c.toNat_lt
    have := ih l' (by simp at h; exact h)
    show be k ((num l' * 256 + c.toNat) / 256) ++ [UInt8.ofNat ((num l' * 256 + c.toNat) % 256)] = _
    rw [show (num l' * 256 + c.toNat) / 256 = num l' by omega, show (num l' * 256 + c.toNat) % 256 = c.toNat by omega, this]
    simp
theorem p8 : 256 ^ 8 = 18446744073709551616 := by decide
theorem num_b8 (n : Nat) (h : n < 18446744073709551616) : num (b8 n) = n := num_be 8 n (by rw [p8]; exact h)
theorem b8_num (l : List UInt8) (h : l.length = 8) : b8 (num l) = l := be_num 8 l h
theorem num_lt8 (l : List UInt8) (h : l.length = 8) : num l < 18446744073709551616 := by rw [← p8]; exact num_lt 8 l h
def full (s : List UInt8) : List UInt8 := s ++ List.replicate (48 - s.length) 0
theorem full_len (s : List UInt8) (h : s.length ≤ 48) : (full s).length = 48 := by unfold full; simp; omega
theorem full_id (s : List UInt8) (h : s.length = 48) : full s = s := by unfold full; rw [h]; simp
/-- A leaf. -/
def leaf (n : Nat) (s : List UInt8) : List UInt8 := b8 n ++ full s ++ (b8 n).reverse
theorem leaf_len (n : Nat) (s : List UInt8) (h : s.length ≤ 48) : (leaf n s).length = 64 := by
  unfold leaf; simp [b8_len, full_len s h]
def headOf (b : List UInt8) : Nat := num (b.take 8)
def footOf (b : List UInt8) : Nat := num (b.drop 56).reverse
def ends (b : List UInt8) : Nat × Nat := if b.length = 64 then (headOf b, footOf b) else (0, 0)
def mid (b : List UInt8) : List UInt8 := (b.drop 8).take 48
def get (b : List UInt8) : Option (Nat × List UInt8) := if (ends b).1 = 0 ∨ (ends b).1 ≠ (ends b).2 then none else some ((ends b).1, mid b)
theorem parts (b : List UInt8) : b = b.take 8 ++ (mid b ++ b.drop 56) := by
  have h1 : b.drop 56 = (b.drop 8).drop 48 := by rw [List.drop_drop]
  unfold mid
  rw [h1, List.take_append_drop, List.take_append_drop]
theorem head_leaf (n : Nat) (s : List UInt8) (h : n < 18446744073709551616) : headOf (leaf n s) = n := by
  unfold headOf leaf
  rw [List.append_assoc, List.take_append_of_le_length (by rw [b8_len]; omega), List.take_of_length_le (by rw [b8_len]; omega), num_b8 n h]
theorem foot_leaf (n : Nat) (s : List UInt8) (h : n < 18446744073709551616) (hs : s.length ≤ 48) : footOf (leaf n s) = n := by
  unfold footOf leaf
  rw [List.drop_append, List.drop_of_length_le (by simp [b8_len, full_len s hs])]
  simp [b8_len, full_len s hs, num_b8 n h]
theorem mid_leaf (n : Nat) (s : List UInt8) (hs : s.length ≤ 48) : mid (leaf n s) = full s := by
  unfold mid leaf
  rw [List.append_assoc, List.drop_append, List.drop_of_length_le (by rw [b8_len]; omega), b8_len]
  simp only [Nat.sub_self, List.drop_zero, List.nil_append]
  rw [List.take_append_of_le_length (by rw [full_len s hs]; omega), List.take_of_length_le (by rw [full_len s hs]; omega)]
theorem mid_len (b : List UInt8) (h : b.length = 64) : (mid b).length = 48 := by unfold mid; simp; omega
/-- The document's way: bytes are a leaf if they are the leaf of the number at the head and of what stands behind it. -/
theorem leaf_iff (b : List UInt8) (h : b.length = 64) : leaf (headOf b) (mid b) = b ↔ headOf b = footOf b := by
  have hp := parts b
  have hm := mid_len b h
  have ht : (b.take 8).length = 8 := by simp; omega
  have hd : (b.drop 56).reverse.length = 8 := by simp; omega
  have h8 : b8 (headOf b) = b.take 8 := b8_num _ ht
  unfold leaf
  rw [full_id _ hm, h8]
  constructor
  · intro e
    have e2 : b.take 8 ++ mid b ++ (b.take 8).reverse = b.take 8 ++ (mid b ++ b.drop 56) := e.trans hp
    rw [List.append_assoc] at e2
    have e3 := List.append_cancel_left (List.append_cancel_left e2)
    unfold headOf footOf
    rw [← e3, List.reverse_reverse]
  · intro e
    have e2 : b.take 8 = (b.drop 56).reverse := by
      rw [← b8_num _ ht, ← b8_num _ hd]
      exact congrArg b8 e
    have e3 : (b.take 8).reverse = b.drop 56 := by rw [e2, List.reverse_reverse]
    rw [e3, List.append_assoc, ← hp]
/-- Byte i of a number's eight. -/
theorem be_get (k : Nat) : ∀ (n i : Nat), i < k → (be k n)[i]? = some (UInt8.ofNat (n / 256 ^ (k - 1 - i) % 256)) := by
  induction k with
  | zero => intro n i h; omega
  | succ k ih =>
    intro n i h
    show (be k (n / 256) ++ [UInt8.ofNat (n % 256)])[i]? = _
    by_cases e : i < k
    · rw [List.getElem?_append_left (by rw [be_len]; exact e), ih _ _ e, Nat.div_div_eq_div_mul, show k + 1 - 1 - i = (k - 1 - i) + 1 by omega, Nat.pow_succ, Nat.mul_comm]
    · have : i = k := by omega
      subst this
      rw [List.getElem?_append_right (by rw [be_len]; omega), be_len]
      simp
end Go.Proofs.YtbmlnodimcalgaaDoor.Lf
