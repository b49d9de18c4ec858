/- Joined: TaMath LfMath LfTorn0 SfMath SfMath2 SfMath3 SfTorn0. -/

section
namespace Go.Proofs.YtjlncjabiofklaaDoor.Ta
/-- The bytes that say that more follow: of a number so far above 0. -/
def up (m : Nat) : List UInt8 := if _h : m = 0 then [] else up ((m - 1) / 128) ++ [UInt8.ofNat (128 + (m - 1) % 128)]
termination_by m
decreasing_by omega
/-- The bytes of a number. -/
def num (n : Nat) : List UInt8 := up (n / 128) ++ [UInt8.ofNat (n % 128)]
theorem up_zero : up 0 = [] := by rw [up]; simp
theorem up_pos {m : Nat} (h : 0 < m) : up m = up ((m - 1) / 128) ++ [UInt8.ofNat (128 + (m - 1) % 128)] := by
  rw [up, dif_neg (by omega)]
/-- What is taken off bytes, behind those of a number so far. -/
def take (acc : Nat) : List UInt8 → Option (Nat × List UInt8)
  | [] => none
  | c :: cs => if 144115188075855871 < acc then none
    else if c.toNat < 128 then some (acc * 128 + c.toNat, cs)
    else if acc * 128 + (c.toNat - 128) = 18446744073709551615 then none
    else take (acc * 128 + (c.toNat - 128) + 1) cs
theorem up_next (acc : Nat) (c : UInt8) (h : ¬ c.toNat < 128) : up (acc * 128 + (c.toNat - 128) + 1) = up acc ++ [c] := by
  have hc : c.toNat < 256 := c.toNat_lt
  rw [up_pos (by omega)]
  rw [show (acc * 128 + (c.toNat - 128) + 1 - 1) / 128 = acc by omega, show 128 + (acc * 128 + (c.toNat - 128) + 1 - 1) % 128 = c.toNat by omega]
  simp
theorem num_end (acc : Nat) (c : UInt8) (h : c.toNat < 128) : num (acc * 128 + c.toNat) = up acc ++ [c] := by
  unfold num
  rw [show (acc * 128 + c.toNat) / 128 = acc by omega, show (acc * 128 + c.toNat) % 128 = c.toNat by omega]
  simp
/-- What is taken, put again, are the bytes. -/
theorem take_once (l : List UInt8) : ∀ (acc n : Nat) (r : List UInt8), take acc l = some (n, r) → num n ++ r = up acc ++ l := by
  induction l with
  | nil => intro acc n r h; simp [take] at h
  | cons c cs ih =>
    intro acc n r h
    unfold take at h
    split at h
    · simp at h
    · split at h
      · rename_i hc
        simp only [Option.some.injEq, Prod.mk.injEq] at h
        obtain ⟨rfl, rfl⟩ := h
        rw [num_end acc c hc]; simp
      · split at h
        · simp at h
        · rename_i hc _
          have := ih _ _ _ h
          rw [up_next acc c hc] at this
          rw [this]; simp
theorem take_bound (l : List UInt8) : ∀ (acc n : Nat) (r : List UInt8), take acc l = some (n, r) → n < 18446744073709551616 ∧ r.length < l.length := by
  induction l with
  | nil => intro acc n r h; simp [take] at h
  | cons c cs ih =>
    intro acc n r h
    unfold take at h
    split at h
    · simp at h
    · split at h
      · simp only [Option.some.injEq, Prod.mk.injEq] at h
        obtain ⟨rfl, rfl⟩ := h
        simp; omega
      · split at h
        · simp at h
        · have := ih _ _ _ h
          simp; omega
/-- The bytes so far are taken. -/
theorem take_up (m : Nat) : ∀ l : List UInt8, m ≤ 144115188075855872 → take 0 (up m ++ l) = take m l := by
  induction m using Nat.strongRecOn with
  | _ m ih =>
    intro l hm
    by_cases h : m = 0
    · subst h; rw [up_zero]; rfl
    · rw [up_pos (by omega), List.append_assoc, ih ((m - 1) / 128) (by omega) _ (by omega)]
      have ht : (UInt8.ofNat (128 + (m - 1) % 128)).toNat = 128 + (m - 1) % 128 := by simp; omega
      simp only [List.singleton_append, take, ht]
      rw [if_neg (by omega), if_neg (by omega), if_neg (by omega)]
      congr 1
      omega
theorem take_back (n : Nat) (r : List UInt8) (h : n < 18446744073709551616) : take 0 (num n ++ r) = some (n, r) := by
  unfold num
  rw [List.append_assoc, take_up _ _ (by omega)]
  have ht : (UInt8.ofNat (n % 128)).toNat = n % 128 := by simp; omega
  simp only [List.singleton_append, take, ht]
  rw [if_neg (by omega), if_pos (by omega)]
  congr 2
  omega
theorem up_high (m : Nat) : ∀ c ∈ up m, 128 ≤ c.toNat := by
  induction m using Nat.strongRecOn with
  | _ m ih =>
    by_cases h : m = 0
    · subst h; rw [up_zero]; simp
    · rw [up_pos (by omega)]
      intro c hc
      rw [List.mem_append] at hc
      rcases hc with hc | hc
      · exact ih _ (by omega) c hc
      · simp at hc; subst hc; simp; omega
theorem take_high (l : List UInt8) : ∀ acc, (∀ c ∈ l, 128 ≤ c.toNat) → take acc l = none := by
  induction l with
  | nil => intro _ _; rfl
  | cons c cs ih =>
    intro acc h
    have hc := h c (by simp)
    unfold take
    split
    · rfl
    · rw [if_neg (by omega)]
      split
      · rfl
      · exact ih _ (fun d hd => h d (by simp [hd]))
/-- Nothing is taken off a beginning that is not all. -/
theorem take_short (n k : Nat) (h : k < (num n).length) : take 0 ((num n).take k) = none := by
  refine take_high _ 0 ?_
  intro c hc
  unfold num at hc h
  rw [List.take_append_of_le_length (by simp at h; omega)] at hc
  exact up_high _ c (List.mem_of_mem_take hc)
def S : Nat → Nat
  | 0 => 1
  | k + 1 => 128 * S k + 1
/-- How many bytes. -/
theorem up_len (k : Nat) : ∀ m, m < S k → (up m).length ≤ k := by
  induction k with
  | zero => intro m h; simp [S] at h; subst h; rw [up_zero]; simp
  | succ k ih =>
    intro m h
    simp only [S] at h
    by_cases hm : m = 0
    · subst hm; rw [up_zero]; simp
    · rw [up_pos (by omega)]
      have := ih ((m - 1) / 128) (by omega)
      simp; omega
theorem num_len (n : Nat) (h : n < 18446744073709551616) : (num n).length ≤ 10 ∧ 1 ≤ (num n).length := by
  unfold num
  have := up_len 9 (n / 128) (by simp [S]; omega)
  simp; omega
theorem up_mono (m : Nat) : ∀ m', m ≤ m' → (up m).length ≤ (up m').length := by
  induction m using Nat.strongRecOn with
  | _ m ih =>
    intro m' h
    by_cases hm : m = 0
    · subst hm; rw [up_zero]; simp
    · rw [up_pos (by omega), up_pos (m := m') (by omega)]
      have := ih ((m - 1) / 128) (by omega) ((m' - 1) / 128) (by omega)
      simp; omega
theorem num_mono (n n' : Nat) (h : n ≤ n') : (num n).length ≤ (num n').length := by
  unfold num
  have := up_mono (n / 128) (n' / 128) (by omega)
  simp; omega
theorem take_big (acc : Nat) (l : List UInt8) (h : 144115188075855871 < acc) : take acc l = none := by
  cases l with
  | nil => rfl
  | cons c cs => unfold take; rw [if_pos h]
theorem take_end (acc : Nat) (c : UInt8) (cs : List UInt8) (h : ¬ 144115188075855871 < acc) (hc : c.toNat < 128) : take acc (c :: cs) = some (acc * 128 + c.toNat, cs) := by
  unfold take; rw [if_neg h, if_pos hc]
theorem take_full (acc : Nat) (c : UInt8) (cs : List UInt8) (h : ¬ 144115188075855871 < acc) (hc : ¬ c.toNat < 128) (hf : acc * 128 + c.toNat % 128 = 18446744073709551615) : take acc (c :: cs) = none := by
  have := c.toNat_lt
  unfold take; rw [if_neg h, if_neg hc, if_pos (by omega)]
theorem take_on (acc : Nat) (c : UInt8) (cs : List UInt8) (h : ¬ 144115188075855871 < acc) (hc : ¬ c.toNat < 128) (hf : acc * 128 + c.toNat % 128 ≠ 18446744073709551615) : take acc (c :: cs) = take (acc * 128 + c.toNat % 128 + 1) cs := by
  have := c.toNat_lt
  rw [show c.toNat % 128 = c.toNat - 128 by omega] at *
  conv => lhs; unfold take
  rw [if_neg h, if_neg hc, if_neg hf]
/-- What is taken off bytes as a string. -/
def takeText (l : List UInt8) : Option (List UInt8 × List UInt8) :=
  match take 0 l with
  | some (n, r) => if n ≤ r.length then some (r.take n, r.drop n) else none
  | none => none
end Go.Proofs.YtjlncjabiofklaaDoor.Ta
end
section
namespace Go.Proofs.YtjlncjabiofklaaDoor.Lf
/-- The k lowest bytes of a number, the highest first. -/
def be : Nat → Nat → List UInt8
  | 0, _ => []
  | k + 1, n => be k (n / 256) ++ [UInt8.ofNat (n % 256)]
theorem be_len (k : Nat) : ∀ n, (be k n).length = k := by
  induction k with
  | zero => intro n; rfl
  | succ k ih => intro n; simp [be, ih]
def b8 (n : Nat) : List UInt8 := be 8 n
theorem b8_len (n : Nat) : (b8 n).length = 8 := be_len 8 n
def num (l : List UInt8) : Nat := l.foldl (fun a c => a * 256 + c.toNat) 0
theorem num_snoc (l : List UInt8) (c : UInt8) : num (l ++ [c]) = num l * 256 + c.toNat := by unfold num; rw [List.foldl_append]; rfl
theorem num_lt (k : Nat) : ∀ l : List UInt8, l.length = k → num l < 256 ^ k := by
  induction k with
  | zero => intro l h; have : l = [] := List.eq_nil_of_length_eq_zero h
            subst this; decide
  | succ k ih =>
    intro l h
    obtain ⟨c, l', rfl⟩ : ∃ c l', l = l' ++ [c] := by
      have hne : l ≠ [] := by intro e; subst e; simp at h
      exact ⟨l.getLast hne, l.dropLast, (List.dropLast_concat_getLast hne).symm⟩
    rw [num_snoc]
    have := ih l' (by simp at h; exact h)
    have hc := c.toNat_lt
    rw [Nat.pow_succ]
    omega
theorem num_be (k : Nat) : ∀ n, n < 256 ^ k → num (be k n) = n := by
  induction k with
  | zero => intro n h; simp at h; subst h; rfl
  | succ k ih =>
    intro n h
    rw [Nat.pow_succ] at h
    have := ih (n / 256) (by omega)
    show num (be k (n / 256) ++ [UInt8.ofNat (n % 256)]) = n
    rw [num_snoc, this]
    have : (UInt8.ofNat (n % 256)).toNat = n % 256 := by simp
    omega
theorem be_num (k : Nat) : ∀ l : List UInt8, l.length = k → be k (num l) = l := by
  induction k with
  | zero => intro l h; have : l = [] := List.eq_nil_of_length_eq_zero h
            subst this; rfl
  | succ k ih =>
    intro l h
    obtain ⟨c, l', rfl⟩ : ∃ c l', l = l' ++ [c] := by
      have hne : l ≠ [] := by intro e; subst e; simp at h
      exact ⟨l.getLast hne, l.dropLast, (List.dropLast_concat_getLast hne).symm⟩
    rw [num_snoc]
    have hc := c.toNat_lt
    have := ih l' (by simp at h; exact h)
    show be k ((num l' * 256 + c.toNat) / 256) ++ [UInt8.ofNat ((num l' * 256 + c.toNat) % 256)] = _
    rw [show (num l' * 256 + c.toNat) / 256 = num l' by omega, show (num l' * 256 + c.toNat) % 256 = c.toNat by omega, this]
    simp
theorem p8 : 256 ^ 8 = 18446744073709551616 := by decide
theorem num_b8 (n : Nat) (h : n < 18446744073709551616) : num (b8 n) = n := num_be 8 n (by rw [p8]; exact h)
theorem b8_num (l : List UInt8) (h : l.length = 8) : b8 (num l) = l := be_num 8 l h
theorem num_lt8 (l : List UInt8) (h : l.length = 8) : num l < 18446744073709551616 := by rw [← p8]; exact num_lt 8 l h
def full (s : List UInt8) : List UInt8 := s ++ List.replicate (48 - s.length) 0
theorem full_len (s : List UInt8) (h : s.length ≤ 48) : (full s).length = 48 := by unfold full; simp; omega
theorem full_id (s : List UInt8) (h : s.length = 48) : full s = s := by unfold full; rw [h]; simp
/-- A leaf. -/
def leaf (n : Nat) (s : List UInt8) : List UInt8 := b8 n ++ full s ++ (b8 n).reverse
theorem leaf_len (n : Nat) (s : List UInt8) (h : s.length ≤ 48) : (leaf n s).length = 64 := by
  unfold leaf; simp [b8_len, full_len s h]
def headOf (b : List UInt8) : Nat := num (b.take 8)
def footOf (b : List UInt8) : Nat := num (b.drop 56).reverse
def ends (b : List UInt8) : Nat × Nat := if b.length = 64 then (headOf b, footOf b) else (0, 0)
def mid (b : List UInt8) : List UInt8 := (b.drop 8).take 48
def get (b : List UInt8) : Option (Nat × List UInt8) := if (ends b).1 = 0 ∨ (ends b).1 ≠ (ends b).2 then none else some ((ends b).1, mid b)
theorem parts (b : List UInt8) : b = b.take 8 ++ (mid b ++ b.drop 56) := by
  have h1 : b.drop 56 = (b.drop 8).drop 48 := by rw [List.drop_drop]
  unfold mid
  rw [h1, List.take_append_drop, List.take_append_drop]
theorem head_leaf (n : Nat) (s : List UInt8) (h : n < 18446744073709551616) : headOf (leaf n s) = n := by
  unfold headOf leaf
  rw [List.append_assoc, List.take_append_of_le_length (by rw [b8_len]; omega), List.take_of_length_le (by rw [b8_len]; omega), num_b8 n h]
theorem foot_leaf (n : Nat) (s : List UInt8) (h : n < 18446744073709551616) (hs : s.length ≤ 48) : footOf (leaf n s) = n := by
  unfold footOf leaf
  rw [List.drop_append, List.drop_of_length_le (by simp [b8_len, full_len s hs])]
  simp [b8_len, full_len s hs, num_b8 n h]
theorem mid_leaf (n : Nat) (s : List UInt8) (hs : s.length ≤ 48) : mid (leaf n s) = full s := by
  unfold mid leaf
  rw [List.append_assoc, List.drop_append, List.drop_of_length_le (by rw [b8_len]; omega), b8_len]
  simp only [Nat.sub_self, List.drop_zero, List.nil_append]
  rw [List.take_append_of_le_length (by rw [full_len s hs]; omega), List.take_of_length_le (by rw [full_len s hs]; omega)]
theorem mid_len (b : List UInt8) (h : b.length = 64) : (mid b).length = 48 := by unfold mid; simp; omega
/-- The document's way: bytes are a leaf if they are the leaf of the number at the head and of what stands behind it. -/
theorem leaf_iff (b : List UInt8) (h : b.length = 64) : leaf (headOf b) (mid b) = b ↔ headOf b = footOf b := by
  have hp := parts b
  have hm := mid_len b h
  have ht : (b.take 8).length = 8 := by simp; omega
  have hd : (b.drop 56).reverse.length = 8 := by simp; omega
  have h8 : b8 (headOf b) = b.take 8 := b8_num _ ht
  unfold leaf
  rw [full_id _ hm, h8]
  constructor
  · intro e
    have e2 : b.take 8 ++ mid b ++ (b.take 8).reverse = b.take 8 ++ (mid b ++ b.drop 56) := e.trans hp
    rw [List.append_assoc] at e2
    have e3 := List.append_cancel_left (List.append_cancel_left e2)
    unfold headOf footOf
    rw [← e3, List.reverse_reverse]
  · intro e
    have e2 : b.take 8 = (b.drop 56).reverse := by
      rw [← b8_num _ ht, ← b8_num _ hd]
      exact congrArg b8 e
    have e3 : (b.take 8).reverse = b.drop 56 := by rw [e2, List.reverse_reverse]
    rw [e3, List.append_assoc, ← hp]
/-- Byte i of a number's eight. -/
theorem be_get (k : Nat) : ∀ (n i : Nat), i < k → (be k n)[i]? = some (UInt8.ofNat (n / 256 ^ (k - 1 - i) % 256)) := by
  induction k with
  | zero => intro n i h; omega
  | succ k ih =>
    intro n i h
    show (be k (n / 256) ++ [UInt8.ofNat (n % 256)])[i]? = _
    by_cases e : i < k
    · rw [List.getElem?_append_left (by rw [be_len]; exact e), ih _ _ e, Nat.div_div_eq_div_mul, show k + 1 - 1 - i = (k - 1 - i) + 1 by omega, Nat.pow_succ, Nat.mul_comm]
    · have : i = k := by omega
      subst this
      rw [List.getElem?_append_right (by rw [be_len]; omega), be_len]
      simp
end Go.Proofs.YtjlncjabiofklaaDoor.Lf
end
section
namespace Go.Proofs.YtjlncjabiofklaaDoor.Lf
theorem fold_acc (m : List UInt8) : ∀ a : Nat, m.foldl (fun a c => a * 256 + c.toNat) a = a * 256 ^ m.length + m.foldl (fun a c => a * 256 + c.toNat) 0 := by
  induction m with
  | nil => intro a; simp
  | cons c m ih =>
    intro a
    rw [List.foldl_cons, List.foldl_cons, ih (a * 256 + c.toNat), ih (0 * 256 + c.toNat), List.length_cons, Nat.pow_succ, Nat.add_mul, Nat.add_mul, Nat.mul_assoc, Nat.mul_comm 256]
    omega
theorem num_app (l m : List UInt8) : num (l ++ m) = num l * 256 ^ m.length + num m := by
  unfold num
  rw [List.foldl_append, fold_acc m (List.foldl (fun a c => a * 256 + c.toNat) 0 l)]
theorem num_split (l : List UInt8) (n : Nat) (h : l.length = 8) (hn : n ≤ 8) : num (l.take n) = num l / 256 ^ (8 - n) ∧ num (l.drop n) = num l % 256 ^ (8 - n) := by
  have h1 := num_app (l.take n) (l.drop n)
  rw [List.take_append_drop] at h1
  have h2 : (l.drop n).length = 8 - n := by rw [List.length_drop]; omega
  have h3 := num_lt (8 - n) (l.drop n) h2
  rw [h2] at h1
  have hp : 0 < 256 ^ (8 - n) := Nat.pow_pos (by decide)
  constructor
  · rw [h1, Nat.mul_comm, Nat.mul_add_div hp, Nat.div_eq_of_lt h3, Nat.add_zero]
  · rw [h1, Nat.mul_comm, Nat.mul_add_mod, Nat.mod_eq_of_lt h3]
/-- A beginning of a number's bytes over another's. -/
def over (a b : Nat) (k : Nat) : Nat := a / 256 ^ k * 256 ^ k + b % 256 ^ k
theorem over_ge (a b k : Nat) (h : b ≤ a) : b ≤ over a b k := by
  unfold over
  have h1 : b / 256 ^ k ≤ a / 256 ^ k := Nat.div_le_div_right h
  have h2 := Nat.mul_le_mul_right (256 ^ k) h1
  have h3 := Nat.div_add_mod b (256 ^ k)
  rw [Nat.mul_comm] at h3
  omega
theorem over_le (a b k : Nat) (h : a ≤ b) : over a b k ≤ b := by
  unfold over
  have h1 : a / 256 ^ k ≤ b / 256 ^ k := Nat.div_le_div_right h
  have h2 := Nat.mul_le_mul_right (256 ^ k) h1
  have h3 := Nat.div_add_mod b (256 ^ k)
  rw [Nat.mul_comm] at h3
  omega
def torn (x b : List UInt8) (n : Nat) : List UInt8 := x.take n ++ b.drop n
theorem torn_len (x b : List UInt8) (n : Nat) (hx : x.length = 64) (hb : b.length = 64) (hn : n ≤ 64) : (torn x b n).length = 64 := by
  unfold torn; simp; omega
theorem torn_head (x b : List UInt8) (n : Nat) (hx : x.length = 64) (hb : b.length = 64) (hn : n ≤ 8) : headOf (torn x b n) = over (headOf x) (headOf b) (8 - n) := by
  have e : (torn x b n).take 8 = (x.take 8).take n ++ (b.take 8).drop n := by
    unfold torn
    rw [List.take_append, List.take_of_length_le (by rw [List.length_take]; omega), List.length_take, List.take_take, List.drop_take, show min n x.length = n by omega, show min n 8 = n by omega]
  have s1 := num_split (x.take 8) n (by rw [List.length_take]; omega) hn
  have s2 := num_split (b.take 8) n (by rw [List.length_take]; omega) hn
  unfold headOf over
  rw [e, num_app, s1.1, s2.2]
  congr 2
  rw [List.length_drop, List.length_take]
  congr 1; omega
theorem torn_head8 (x b : List UInt8) (n : Nat) (hx : x.length = 64) (hn : 8 ≤ n) : headOf (torn x b n) = headOf x := by
  unfold headOf torn
  rw [List.take_append_of_le_length (by rw [List.length_take]; omega), List.take_take, show min 8 n = 8 by omega]
theorem torn_foot0 (x b : List UInt8) (n : Nat) (hx : x.length = 64) (hn : n ≤ 56) : footOf (torn x b n) = footOf b := by
  unfold footOf torn
  rw [List.drop_append, List.drop_of_length_le (by rw [List.length_take]; omega), List.length_take, List.drop_drop, List.nil_append, show n + (56 - min n x.length) = 56 by omega]
theorem torn_foot (x b : List UInt8) (m : Nat) (hx : x.length = 64) (hb : b.length = 64) (hm : m ≤ 8) : footOf (torn x b (56 + m)) = over (footOf b) (footOf x) m := by
  have e : (torn x b (56 + m)).drop 56 = (x.drop 56).take m ++ (b.drop 56).drop m := by
    unfold torn
    rw [List.drop_append_of_le_length (by rw [List.length_take]; omega), List.drop_take, List.drop_drop, show 56 + m - 56 = m by omega]
  have lb : (b.drop 56).length = 8 := by rw [List.length_drop]; omega
  have lx : (x.drop 56).length = 8 := by rw [List.length_drop]; omega
  have e1 : ((b.drop 56).drop m).reverse = (b.drop 56).reverse.take (8 - m) := by
    rw [List.take_reverse, lb, show 8 - (8 - m) = m by omega]
  have e2 : ((x.drop 56).take m).reverse = (x.drop 56).reverse.drop (8 - m) := by
    rw [List.drop_reverse, lx, show 8 - (8 - m) = m by omega]
  have s1 := num_split (b.drop 56).reverse (8 - m) (by rw [List.length_reverse]; exact lb) (by omega)
  have s2 := num_split (x.drop 56).reverse (8 - m) (by rw [List.length_reverse]; exact lx) (by omega)
  unfold footOf over
  rw [e, List.reverse_append, e1, e2, num_app, s1.1, s2.2, List.length_drop, List.length_reverse, lx, show 8 - (8 - m) = m by omega]
theorem torn_mid (x b : List UInt8) (n : Nat) (hx : x.length = 64) (hn : 56 ≤ n) : mid (torn x b n) = mid x := by
  unfold mid torn
  rw [List.drop_append_of_le_length (by rw [List.length_take]; omega), List.take_append_of_le_length (by rw [List.length_drop, List.length_take]; omega), List.drop_take, List.take_take, show min 48 (n - 8) = 48 by omega]
theorem torn_mid0 (x b : List UInt8) (n : Nat) (hx : x.length = 64) (hn : n ≤ 8) : mid (torn x b n) = mid b := by
  unfold mid torn
  rw [List.drop_append, List.drop_of_length_le (by rw [List.length_take]; omega), List.length_take, List.drop_drop, List.nil_append, show n + (8 - min n x.length) = 8 by omega]
/-- What holds of the bytes, the last writing of eight bytes at least, and its content. -/
structure Whole (b : List UInt8) (last : Nat) (c : List UInt8) : Prop where
  len : b.length = 64
  le : footOf b ≤ headOf b
  one : headOf b = footOf b → headOf b ≠ 0 → headOf b = last ∧ mid b = c
theorem whole_step (b : List UInt8) (last st n : Nat) (c s : List UInt8) (h : Whole b last c) (hst : headOf b < st) (hst2 : st < 18446744073709551616) (hs : s.length ≤ 48) (hn : n ≤ 64) :
    Whole (torn (leaf st s) b n) (if 8 ≤ n then st else last) (if 8 ≤ n then full s else c) ∧ headOf b ≤ headOf (torn (leaf st s) b n) := by
  have hx := leaf_len st s hs
  have e1 := head_leaf st s hst2
  have e2 := foot_leaf st s hst2 hs
  have e3 := mid_leaf st s hs
  have hl := h.le
  refine ⟨⟨torn_len _ _ _ hx h.len hn, ?_, ?_⟩, ?_⟩
  · by_cases h8 : n ≤ 8
    · rw [torn_head _ _ _ hx h.len h8, torn_foot0 _ _ _ hx (by omega), e1]
      have := over_ge st (headOf b) (8 - n) (by omega)
      omega
    · rw [torn_head8 _ _ _ hx (by omega), e1]
      by_cases h56 : n ≤ 56
      · rw [torn_foot0 _ _ _ hx h56]; omega
      · obtain ⟨m, rfl⟩ : ∃ m, n = 56 + m := ⟨n - 56, by omega⟩
        rw [torn_foot _ _ _ hx h.len (by omega), e2]
        exact over_le _ _ _ (by omega)
  · intro he h0
    by_cases h8 : 8 ≤ n
    · rw [if_pos h8, if_pos h8, torn_head8 _ _ _ hx h8, e1]
      rw [torn_head8 _ _ _ hx h8, e1] at he
      by_cases h56 : n < 56
      · rw [torn_foot0 _ _ _ hx (by omega)] at he; omega
      · exact ⟨rfl, by rw [torn_mid _ _ _ hx (by omega), e3]⟩
    · rw [if_neg h8, if_neg h8]
      have g1 := torn_head _ b _ hx h.len (show n ≤ 8 by omega)
      rw [e1] at g1
      have g2 := over_ge st (headOf b) (8 - n) (by omega)
      rw [torn_foot0 _ _ _ hx (by omega)] at he
      have g3 : headOf (torn (leaf st s) b n) = headOf b := by omega
      rw [g3] at he h0 ⊢
      rw [torn_mid0 _ _ _ hx (by omega)]
      exact h.one he h0
  · by_cases h8 : n ≤ 8
    · rw [torn_head _ _ _ hx h.len h8, e1]
      exact over_ge _ _ _ (by omega)
    · rw [torn_head8 _ _ _ hx (by omega), e1]; omega
theorem torn_all (x b : List UInt8) (hx : x.length = 64) (hb : b.length = 64) : torn x b 64 = x := by
  unfold torn
  rw [List.take_of_length_le (by omega), List.drop_of_length_le (by omega), List.append_nil]
theorem whole_zero : Whole (List.replicate 64 0) 0 [] := ⟨by decide, by decide, fun _ h => absurd (show headOf (List.replicate 64 0) = 0 by decide) h⟩
end Go.Proofs.YtjlncjabiofklaaDoor.Lf
end
section
namespace Go.Proofs.YtjlncjabiofklaaDoor.Sf
/-- Bytes in parts of 48, the last one as long as it is. -/
def chunks (b : List UInt8) : List (List UInt8) := if _h : b.length ≤ 48 then [b] else b.take 48 :: chunks (b.drop 48)
termination_by b.length
decreasing_by simp; omega
theorem chunks_one {b : List UInt8} (h : b.length ≤ 48) : chunks b = [b] := by rw [chunks]; simp [h]
theorem chunks_more {b : List UInt8} (h : ¬ b.length ≤ 48) : chunks b = b.take 48 :: chunks (b.drop 48) := by
  conv => lhs; rw [chunks]
  simp [h]
theorem chunks_len (n : Nat) : ∀ b : List UInt8, b.length ≤ n → 0 < b.length → (chunks b).length = (b.length + 47) / 48 := by
  induction n with
  | zero => intro b h1 h2; omega
  | succ n ih =>
    intro b h1 h2
    by_cases h : b.length ≤ 48
    · rw [chunks_one h]; simp; omega
    · rw [chunks_more h, List.length_cons, ih (b.drop 48) (by simp; omega) (by simp; omega)]
      simp; omega
theorem chunks_small (n : Nat) : ∀ b : List UInt8, b.length ≤ n → ∀ c ∈ chunks b, c.length ≤ 48 := by
  induction n with
  | zero =>
    intro b h1 c hc
    rw [chunks_one (by omega)] at hc
    obtain rfl : c = b := by simpa using hc
    omega
  | succ n ih =>
    intro b h1 c hc
    by_cases h : b.length ≤ 48
    · rw [chunks_one h] at hc
      obtain rfl : c = b := by simpa using hc
      exact h
    · rw [chunks_more h] at hc
      rcases List.mem_cons.1 hc with rfl | hc
      · simp; omega
      · exact ih (b.drop 48) (by simp; omega) c hc
theorem chunks_pad (n : Nat) : ∀ b : List UInt8, b.length ≤ n → ((chunks b).map Lf.full).flatten = b ++ List.replicate (48 * (chunks b).length - b.length) 0 := by
  induction n with
  | zero =>
    intro b h1
    rw [chunks_one (by omega)]
    simp [Lf.full]
  | succ n ih =>
    intro b h1
    by_cases h : b.length ≤ 48
    · rw [chunks_one h]; simp [Lf.full]
    · rw [chunks_more h, List.map_cons, List.flatten_cons, ih (b.drop 48) (by simp; omega), Lf.full_id _ (by simp; omega), ← List.append_assoc, List.take_append_drop]
      congr 2
      simp; omega
/-- Parts of 48 bytes are told by all of them. -/
theorem parts_inj : ∀ P Q : List (List UInt8), (∀ c ∈ P, c.length = 48) → (∀ c ∈ Q, c.length = 48) → P.length = Q.length → P.flatten = Q.flatten → P = Q := by
  intro P
  induction P with
  | nil => intro Q _ _ h _; cases Q <;> simp_all
  | cons p P ih =>
    intro Q h1 h2 h3 h4
    cases Q with
    | nil => simp at h3
    | cons q Q =>
      rw [List.flatten_cons, List.flatten_cons] at h4
      obtain ⟨rfl, h5⟩ := List.append_inj h4 (by rw [h1 p (by simp), h2 q (by simp)])
      rw [ih Q (fun c hc => h1 c (by simp [hc])) (fun c hc => h2 c (by simp [hc])) (by simpa using h3) h5]
theorem flat_len : ∀ P : List (List UInt8), (∀ c ∈ P, c.length = 48) → P.flatten.length = 48 * P.length := by
  intro P
  induction P with
  | nil => intro _; rfl
  | cons p P ih =>
    intro h
    rw [List.flatten_cons, List.length_append, ih (fun c hc => h c (by simp [hc])), h p (by simp), List.length_cons]
    omega
theorem pad_chunks (P : List (List UInt8)) (b : List UInt8) (z : Nat) (hP : ∀ c ∈ P, c.length = 48) (hb : 0 < b.length) (hl : P.length = (b.length + 47) / 48) (h : P.flatten = b ++ List.replicate z 0) : P = (chunks b).map Lf.full := by
  have hc := chunks_len b.length b (Nat.le_refl _) hb
  refine parts_inj P _ hP ?_ (by rw [List.length_map, hc, hl]) ?_
  · intro c hcm
    obtain ⟨d, hd, rfl⟩ := List.mem_map.1 hcm
    exact Lf.full_len d (chunks_small b.length b (Nat.le_refl _) d hd)
  · rw [chunks_pad b.length b (Nat.le_refl _), h]
    have h1 := flat_len P hP
    rw [h] at h1
    simp at h1
    congr 2
    omega
/-- A text with its length ahead; the leaves of a sheaf; how many they are. -/
def text (s : List UInt8) : List UInt8 := Ta.num s.length ++ s
def sheaf (n : Nat) (s : List UInt8) : List (List UInt8) := (chunks (text s)).map (Lf.leaf n)
def many (n : Nat) : Nat := ((Ta.num n).length + n + 47) / 48
theorem text_pos (s : List UInt8) : 0 < (text s).length := by unfold text Ta.num; simp; omega
theorem sheaf_len (n : Nat) (s : List UInt8) : (sheaf n s).length = many s.length := by
  unfold sheaf many
  rw [List.length_map, chunks_len _ _ (Nat.le_refl _) (text_pos s)]
  unfold text; simp
theorem leaf_full (n : Nat) (c : List UInt8) (h : c.length ≤ 48) : Lf.leaf n (Lf.full c) = Lf.leaf n c := by
  unfold Lf.leaf; rw [Lf.full_id _ (Lf.full_len c h)]
/-- The program's own number: n itself may be great. -/
theorem many_is (n : Nat) : n / 48 + (n % 48 + (Ta.num n).length + 48 - 1) / 48 = many n := by unfold many; omega
end Go.Proofs.YtjlncjabiofklaaDoor.Sf
end
section
namespace Go.Proofs.YtjlncjabiofklaaDoor.Sf
theorem leaf_of_get {x c : List UInt8} {n : Nat} (h : Lf.get x = some (n, c)) : n ≠ 0 ∧ n < 18446744073709551616 ∧ c.length = 48 ∧ c = Lf.mid x ∧ x = Lf.leaf n c := by
  by_cases hl : x.length = 64
  · have e : Lf.ends x = (Lf.headOf x, Lf.footOf x) := by unfold Lf.ends; rw [if_pos hl]
    unfold Lf.get at h
    rw [e] at h
    by_cases h0 : Lf.headOf x = 0 ∨ Lf.headOf x ≠ Lf.footOf x
    · rw [if_pos h0] at h; cases h
    · rw [if_neg h0] at h
      obtain ⟨rfl, rfl⟩ : Lf.headOf x = n ∧ Lf.mid x = c := by simpa using h
      have h1 : Lf.headOf x ≠ 0 := fun q => h0 (Or.inl q)
      have h2 : Lf.headOf x = Lf.footOf x := Classical.byContradiction fun q => h0 (Or.inr q)
      exact ⟨h1, Lf.num_lt8 _ (by simp; omega), Lf.mid_len x hl, rfl, ((Lf.leaf_iff x hl).2 h2).symm⟩
  · unfold Lf.get Lf.ends at h
    rw [if_neg hl] at h
    simp at h
theorem get_leaf (n : Nat) (c : List UInt8) (h0 : n ≠ 0) (hn : n < 18446744073709551616) (hc : c.length ≤ 48) : Lf.get (Lf.leaf n c) = some (n, Lf.full c) := by
  unfold Lf.get Lf.ends
  rw [if_pos (Lf.leaf_len n c hc)]
  simp only [Lf.head_leaf n c hn, Lf.foot_leaf n c hn hc, Lf.mid_leaf n c hc]
  simp [h0]
theorem take_app (l t : List UInt8) : ∀ (acc n : Nat) (r : List UInt8), Ta.take acc l = some (n, r) → Ta.take acc (l ++ t) = some (n, r ++ t) := by
  induction l with
  | nil => intro acc n r h; unfold Ta.take at h; cases h
  | cons c cs ih =>
    intro acc n r h
    unfold Ta.take at h
    rw [List.cons_append]
    unfold Ta.take
    split at h
    · cases h
    · rename_i h1
      rw [if_neg h1]
      split at h
      · rename_i h2
        rw [if_pos h2]
        obtain ⟨rfl, rfl⟩ : acc * 128 + c.toNat = n ∧ cs = r := by simpa using h
        rfl
      · rename_i h2
        rw [if_neg h2]
        split at h
        · cases h
        · rename_i h3
          rw [if_neg h3]
          exact ih _ _ _ h
/-- A leaf that bears the stamp. -/
def isOf (n : Nat) (x : List UInt8) : Bool := match Lf.get x with | some (k, _) => k == n | none => false
/-- The program's way: what sectors begin with. -/
def pget (L : List (List UInt8)) : Option (Nat × List UInt8 × Nat) :=
  match L with
  | [] => none
  | x :: _ =>
    match Lf.get x with
    | none => none
    | some (n, c) =>
      match Ta.take 0 c with
      | none => none
      | some (m, _) =>
        if 98304 < m ∨ L.length < many m then none
        else if (L.take (many m)).all (isOf n) then
          match Ta.takeText ((L.take (many m)).map Lf.mid).flatten with
          | none => none
          | some (s, r) => if r.all (· == 0) then some (n, s, many m) else none
        else none
/-- The sectors begin with a sheaf. -/
structure Is (L : List (List UInt8)) (n : Nat) (s : List UInt8) (k : Nat) : Prop where
  n0 : n ≠ 0
  nl : n < 18446744073709551616
  sl : s.length ≤ 98304
  kk : k = many s.length
  le : k ≤ L.length
  eq : L.take k = sheaf n s
theorem isOf_leaf {n : Nat} {x : List UInt8} (h : isOf n x = true) : (Lf.mid x).length = 48 ∧ x = Lf.leaf n (Lf.mid x) := by
  unfold isOf at h
  split at h
  · rename_i k c e
    obtain ⟨_, _, h3, h4, h5⟩ := leaf_of_get e
    obtain rfl : k = n := by simpa using h
    subst h4
    exact ⟨h3, h5⟩
  · cases h
theorem many_pos (n : Nat) : 1 ≤ many n := by unfold many Ta.num; simp; omega
theorem zeros_of {r : List UInt8} (h : r.all (· == 0) = true) : r = List.replicate r.length 0 := by
  rw [List.eq_replicate_iff]
  exact ⟨rfl, fun b hb => by simpa using (List.all_eq_true.1 h) b hb⟩
theorem is_of_pget {L : List (List UInt8)} {n k : Nat} {s : List UInt8} (h : pget L = some (n, s, k)) : Is L n s k := by
  unfold pget at h
  split at h
  · cases h
  · rename_i x L'
    split at h
    · cases h
    · rename_i n' c hx
      split at h
      · cases h
      · rename_i m r0 hm
        split at h
        · cases h
        · rename_i hle
          split at h
          · rename_i hall
            split at h
            · cases h
            · rename_i s' r ht
              split at h
              · rename_i hr
                obtain ⟨rfl, rfl, rfl⟩ : n' = n ∧ s' = s ∧ many m = k := by simpa using h
                obtain ⟨g0, g1, g2, g3, g4⟩ := leaf_of_get hx
                have hp := many_pos m
                have hT : (x :: L').take (many m) = x :: L'.take (many m - 1) := by
                  obtain ⟨q, hq⟩ : ∃ q, many m = q + 1 := ⟨many m - 1, by omega⟩
                  rw [hq]; rfl
                have hF : (((x :: L').take (many m)).map Lf.mid).flatten = c ++ ((L'.take (many m - 1)).map Lf.mid).flatten := by
                  rw [hT, List.map_cons, List.flatten_cons, ← g3]
                have hle1 : m ≤ 98304 := by omega
                have hle2 : many m ≤ (x :: L').length := by omega
                have e1 := take_app c ((L'.take (many m - 1)).map Lf.mid).flatten 0 m r0 hm
                rw [← hF] at e1
                have e2 := Ta.take_once _ _ _ _ e1
                unfold Ta.takeText at ht
                rw [e1] at ht
                simp only [] at ht
                split at ht
                · rename_i hlen
                  obtain ⟨t1, t2⟩ : (r0 ++ ((L'.take (many m - 1)).map Lf.mid).flatten).take m = s' ∧ (r0 ++ ((L'.take (many m - 1)).map Lf.mid).flatten).drop m = r := by simpa using ht
                  have hs : s'.length = m := by rw [← t1, List.length_take]; omega
                  have e3 : (((x :: L').take (many m)).map Lf.mid).flatten = text s' ++ List.replicate r.length 0 := by
                    rw [← zeros_of hr]
                    unfold text
                    rw [hs, List.append_assoc, ← t1, ← t2, List.take_append_drop, e2, Ta.up_zero]
                    rfl
                  have hall' := List.all_eq_true.1 hall
                  have hlP : (((x :: L').take (many m)).map Lf.mid).length = ((text s').length + 47) / 48 := by
                    rw [List.length_map, List.length_take, Nat.min_eq_left hle2]
                    unfold many text; rw [List.length_append, hs]
                  have e4 := pad_chunks _ (text s') r.length (fun d hd => by
                    obtain ⟨y, hy, rfl⟩ := List.mem_map.1 hd
                    exact (isOf_leaf (hall' y hy)).1) (text_pos s') hlP e3
                  refine ⟨g0, g1, by omega, by rw [hs], hle2, ?_⟩
                  have e5 : (x :: L').take (many m) = (((x :: L').take (many m)).map Lf.mid).map (Lf.leaf n') := by
                    rw [List.map_map]
                    conv => lhs; rw [← List.map_id ((x :: L').take (many m))]
                    exact List.map_congr_left fun y hy => (isOf_leaf (hall' y hy)).2
                  rw [e5, e4, List.map_map]
                  unfold sheaf
                  exact List.map_congr_left fun d hd => leaf_full n' d (chunks_small _ _ (Nat.le_refl _) d hd)
                · cases ht
              · cases h
          · cases h
theorem chunks_head (b : List UInt8) : ∃ t, chunks b = b.take 48 :: t := by
  by_cases h : b.length ≤ 48
  · exact ⟨[], by rw [chunks_one h, List.take_of_length_le h]⟩
  · exact ⟨_, chunks_more h⟩
theorem text_take (s : List UInt8) (hs : s.length ≤ 98304) (z : List UInt8) : Ta.take 0 (text s ++ z) = some (s.length, s ++ z) := by
  unfold text
  rw [List.append_assoc]
  exact Ta.take_back _ _ (by omega)
theorem head_take (s : List UInt8) (hs : s.length ≤ 98304) : ∃ r, Ta.take 0 (Lf.full ((text s).take 48)) = some (s.length, r) := by
  have h10 := (Ta.num_len s.length (by omega)).1
  unfold Lf.full text
  rw [List.take_append, List.take_of_length_le (by omega), List.append_assoc]
  exact ⟨_, Ta.take_back _ _ (by omega)⟩
theorem isOf_put (n : Nat) (c : List UInt8) (h0 : n ≠ 0) (hn : n < 18446744073709551616) (hc : c.length ≤ 48) : isOf n (Lf.leaf n c) = true := by
  unfold isOf; rw [get_leaf n c h0 hn hc]; simp
theorem pget_of_is {L : List (List UInt8)} {n k : Nat} {s : List UInt8} (h : Is L n s k) : pget L = some (n, s, k) := by
  obtain ⟨n0, nl, sl, rfl, le, eq⟩ := h
  have hp := many_pos s.length
  obtain ⟨q, hq⟩ : ∃ q, many s.length = q + 1 := ⟨many s.length - 1, by omega⟩
  cases L with
  | nil => simp at le; omega
  | cons x L' =>
    obtain ⟨t, ht⟩ := chunks_head (text s)
    have hx : x = Lf.leaf n ((text s).take 48) := by
      rw [hq] at eq
      unfold sheaf at eq
      rw [ht, List.map_cons, List.take_succ_cons] at eq
      exact (List.cons.inj eq).1
    have gx : Lf.get x = some (n, Lf.full ((text s).take 48)) := by rw [hx]; exact get_leaf n _ n0 nl (by simp; omega)
    obtain ⟨r0, hr0⟩ := head_take s sl
    have hall : ((x :: L').take (many s.length)).all (isOf n) = true := by
      rw [eq, List.all_eq_true]
      intro y hy
      obtain ⟨d, hd, rfl⟩ := List.mem_map.1 hy
      exact isOf_put n d n0 nl (chunks_small _ _ (Nat.le_refl _) d hd)
    have hflat : (((x :: L').take (many s.length)).map Lf.mid).flatten = text s ++ List.replicate (48 * (chunks (text s)).length - (text s).length) 0 := by
      rw [eq, ← chunks_pad _ _ (Nat.le_refl _)]
      unfold sheaf
      rw [List.map_map]
      congr 1
      exact List.map_congr_left fun d hd => Lf.mid_leaf n d (chunks_small _ _ (Nat.le_refl _) d hd)
    have htt : Ta.takeText (((x :: L').take (many s.length)).map Lf.mid).flatten = some (s, List.replicate (48 * (chunks (text s)).length - (text s).length) 0) := by
      unfold Ta.takeText
      rw [hflat, text_take s sl]
      simp
    unfold pget
    simp only [gx, hr0]
    rw [if_neg (by omega), if_pos hall, htt]
    simp
theorem takeText_text (s : List UInt8) (hs : s.length ≤ 98304) (z : List UInt8) : Ta.takeText (text s ++ z) = some (s, z) := by
  unfold Ta.takeText
  rw [text_take s hs]
  simp
/-- The document's way. -/
def rget (L : List (List UInt8)) : Option (Nat × List UInt8 × Nat) :=
  match L with
  | [] => none
  | x :: _ =>
    match Lf.get x with
    | none => none
    | some (n, _) =>
      match Ta.takeText ((L.takeWhile (isOf n)).map Lf.mid).flatten with
      | none => none
      | some (s, _) => if s.length ≤ 98304 ∧ many s.length ≤ L.length ∧ L.take (many s.length) = sheaf n s then some (n, s, many s.length) else none
theorem is_of_rget {L : List (List UInt8)} {n k : Nat} {s : List UInt8} (h : rget L = some (n, s, k)) : Is L n s k := by
  unfold rget at h
  split at h
  · cases h
  · split at h
    · cases h
    · rename_i n' c hx
      split at h
      · cases h
      · rename_i s' r ht
        split at h
        · rename_i hh
          obtain ⟨rfl, rfl, rfl⟩ : n' = n ∧ s' = s ∧ many s'.length = k := by simpa using h
          obtain ⟨g0, g1, _⟩ := leaf_of_get hx
          exact ⟨g0, g1, hh.1, rfl, hh.2.1, hh.2.2⟩
        · cases h
theorem rget_of_is {L : List (List UInt8)} {n k : Nat} {s : List UInt8} (h : Is L n s k) : rget L = some (n, s, k) := by
  obtain ⟨n0, nl, sl, rfl, le, eq⟩ := h
  have hp := many_pos s.length
  obtain ⟨q, hq⟩ : ∃ q, many s.length = q + 1 := ⟨many s.length - 1, by omega⟩
  cases L with
  | nil => simp at le; omega
  | cons x L' =>
    obtain ⟨t, ht⟩ := chunks_head (text s)
    have hx : x = Lf.leaf n ((text s).take 48) := by
      have eq' := eq
      rw [hq] at eq'
      unfold sheaf at eq'
      rw [ht, List.map_cons, List.take_succ_cons] at eq'
      exact (List.cons.inj eq').1
    have gx : Lf.get x = some (n, Lf.full ((text s).take 48)) := by rw [hx]; exact get_leaf n _ n0 nl (by simp; omega)
    have hall : ∀ y ∈ sheaf n s, isOf n y = true := by
      intro y hy
      obtain ⟨d, hd, rfl⟩ := List.mem_map.1 hy
      exact isOf_put n d n0 nl (chunks_small _ _ (Nat.le_refl _) d hd)
    have hw : (x :: L').takeWhile (isOf n) = sheaf n s ++ ((x :: L').drop (many s.length)).takeWhile (isOf n) := by
      conv => lhs; rw [← List.take_append_drop (many s.length) (x :: L'), eq]
      exact List.takeWhile_append_of_pos hall
    have hm : ((sheaf n s).map Lf.mid).flatten = text s ++ List.replicate (48 * (chunks (text s)).length - (text s).length) 0 := by
      rw [← chunks_pad _ _ (Nat.le_refl _)]
      unfold sheaf
      rw [List.map_map]
      congr 1
      exact List.map_congr_left fun d hd => Lf.mid_leaf n d (chunks_small _ _ (Nat.le_refl _) d hd)
    have htt : Ta.takeText (((x :: L').takeWhile (isOf n)).map Lf.mid).flatten = some (s, List.replicate (48 * (chunks (text s)).length - (text s).length) 0 ++ ((((x :: L').drop (many s.length)).takeWhile (isOf n)).map Lf.mid).flatten) := by
      rw [hw, List.map_append, List.flatten_append, hm, List.append_assoc]
      exact takeText_text s sl _
    unfold rget
    simp only [gx, htt]
    rw [if_pos ⟨sl, le, eq⟩]
theorem get_same (L : List (List UInt8)) : pget L = rget L := by
  cases h : pget L with
  | some v => obtain ⟨n, s, k⟩ := v; exact (rget_of_is (is_of_pget h)).symm
  | none =>
    cases h2 : rget L with
    | none => rfl
    | some v => obtain ⟨n, s, k⟩ := v; rw [pget_of_is (is_of_rget h2)] at h; cases h
/-- What the program tells of sectors is the sheaf that they begin with. -/
theorem pget_iff (L : List (List UInt8)) (n : Nat) (s : List UInt8) (k : Nat) : pget L = some (n, s, k) ↔ Is L n s k := ⟨is_of_pget, pget_of_is⟩
end Go.Proofs.YtjlncjabiofklaaDoor.Sf
end
section
namespace Go.Proofs.YtjlncjabiofklaaDoor.Sf
theorem Is.head {L : List (List UInt8)} {n k : Nat} {s : List UInt8} (h : Is L n s k) : L.head? = some (Lf.leaf n ((text s).take 48)) := by
  obtain ⟨n0, nl, sl, rfl, le, eq⟩ := h
  obtain ⟨q, hq⟩ : ∃ q, many s.length = q + 1 := ⟨many s.length - 1, by have := many_pos s.length; omega⟩
  cases L with
  | nil => simp at le; omega
  | cons x L' =>
    obtain ⟨t, ht⟩ := chunks_head (text s)
    rw [hq] at eq
    unfold sheaf at eq
    rw [ht, List.map_cons, List.take_succ_cons] at eq
    rw [List.head?_cons, (List.cons.inj eq).1]
/-- The first sector tells the stamp and how many there are. -/
theorem Is.same {L L2 : List (List UInt8)} {n k n2 k2 : Nat} {s s2 : List UInt8} (h : Is L n s k) (h2 : Is L2 n2 s2 k2) (e : L.head? = L2.head?) : n = n2 ∧ s.length = s2.length ∧ k = k2 := by
  rw [h.head, h2.head] at e
  have e1 := get_leaf n ((text s).take 48) h.n0 h.nl (by simp; omega)
  have e2 := get_leaf n2 ((text s2).take 48) h2.n0 h2.nl (by simp; omega)
  rw [Option.some.inj e, e2] at e1
  obtain ⟨g1, g2⟩ := Prod.mk.inj (Option.some.inj e1)
  obtain ⟨r, hr⟩ := head_take s h.sl
  obtain ⟨r2, hr2⟩ := head_take s2 h2.sl
  rw [← g2, hr2] at hr
  have g3 := (Prod.mk.inj (Option.some.inj hr)).1
  exact ⟨g1.symm, g3.symm, by rw [h.kk, h2.kk, g3]⟩
theorem is_put (n : Nat) (s : List UInt8) (R : List (List UInt8)) (n0 : n ≠ 0) (nl : n < 18446744073709551616) (sl : s.length ≤ 98304) : Is (sheaf n s ++ R) n s (many s.length) :=
  ⟨n0, nl, sl, rfl, by rw [List.length_append, sheaf_len]; omega, by rw [← sheaf_len n s]; simp⟩
/-- Of fewer sectors there is nothing. -/
theorem is_less (n : Nat) (s : List UInt8) (n0 : n ≠ 0) (nl : n < 18446744073709551616) (sl : s.length ≤ 98304) : pget ((sheaf n s).take (many s.length - 1)) = none := by
  cases h : pget ((sheaf n s).take (many s.length - 1)) with
  | none => rfl
  | some v =>
    obtain ⟨n2, s2, k2⟩ := v
    exfalso
    have I := is_of_pget h
    have J := is_put n s [] n0 nl sl
    rw [List.append_nil] at J
    have hp := many_pos s.length
    have hl := I.le
    have hp2 := many_pos s2.length
    rw [List.length_take, sheaf_len] at hl
    have hk := I.kk
    obtain ⟨q, hq⟩ : ∃ q, many s.length - 1 = q + 1 := ⟨many s.length - 2, by omega⟩
    have e : ((sheaf n s).take (many s.length - 1)).head? = (sheaf n s).head? := by
      rw [hq]
      cases sheaf n s <;> simp
    have := (I.same J e).2.2
    omega
/-- The part at a place. -/
theorem chunks_get (i : Nat) : ∀ b : List UInt8, 48 * i < b.length → (chunks b)[i]? = some ((b.drop (48 * i)).take 48) := by
  induction i with
  | zero =>
    intro b h
    obtain ⟨t, ht⟩ := chunks_head b
    rw [ht]; simp
  | succ i ih =>
    intro b h
    rw [chunks_more (by omega), List.getElem?_cons_succ, ih (b.drop 48) (by simp; omega), List.drop_drop]
    congr 3
    omega
/-- One more part. -/
theorem chunks_snoc (i : Nat) (b : List UInt8) (h : 48 * i < b.length) : (chunks b).take (i + 1) = (chunks b).take i ++ [(b.drop (48 * i)).take 48] := by
  have hg := chunks_get i b h
  rw [List.take_add_one, hg]
  rfl
/-- The least number of leaves. -/
theorem many_least (n k : Nat) (h1 : (Ta.num n).length + n ≤ 48 * k) (h2 : ∀ j, j < k → 48 * j < (Ta.num n).length + n) : k = many n := by
  unfold many
  cases k with
  | zero =>
    have : 1 ≤ (Ta.num n).length := by unfold Ta.num; simp
    omega
  | succ k => have := h2 k (by omega); omega
/-- The greatest number at the heads. -/
def top (L : List (List UInt8)) : Nat := L.foldl (fun a x => max a (Lf.ends x).1) 0
theorem top_same (n : Nat) (hn : n < 18446744073709551616) : ∀ (L : List (List UInt8)) (a : Nat), a ≤ n → (∀ c ∈ L, c.length ≤ 48) → L ≠ [] → (L.map (Lf.leaf n)).foldl (fun a x => max a (Lf.ends x).1) a = n := by
  intro L
  induction L with
  | nil => intro a _ _ h; exact absurd rfl h
  | cons c L ih =>
    intro a ha hc _
    have e : (Lf.ends (Lf.leaf n c)).1 = n := by
      unfold Lf.ends
      rw [if_pos (Lf.leaf_len n c (hc c (by simp)))]
      exact Lf.head_leaf n c hn
    rw [List.map_cons, List.foldl_cons, e, Nat.max_eq_right ha]
    by_cases hL : L = []
    · subst hL; rfl
    · exact ih n (Nat.le_refl _) (fun d hd => hc d (by simp [hd])) hL
theorem top_put (n : Nat) (s : List UInt8) (hn : n < 18446744073709551616) : top (sheaf n s) = n := by
  obtain ⟨t, ht⟩ := chunks_head (text s)
  exact top_same n hn _ 0 (Nat.zero_le _) (chunks_small _ _ (Nat.le_refl _)) (by rw [ht]; simp)
end Go.Proofs.YtjlncjabiofklaaDoor.Sf
end
section
namespace Go.Proofs.YtjlncjabiofklaaDoor.Sf
open Lf
theorem get_eq {x c : List UInt8} {m : Nat} (hx : x.length = 64) (h : Lf.get x = some (m, c)) : headOf x = m ∧ footOf x = m ∧ m ≠ 0 := by
  have e : Lf.ends x = (headOf x, footOf x) := by unfold Lf.ends; rw [if_pos hx]
  unfold Lf.get at h
  rw [e] at h
  by_cases h0 : headOf x = 0 ∨ headOf x ≠ footOf x
  · rw [if_pos h0] at h; cases h
  · rw [if_neg h0] at h
    obtain ⟨rfl, _⟩ : headOf x = m ∧ mid x = c := by simpa using h
    exact ⟨rfl, (Classical.byContradiction fun q => h0 (Or.inr fun e => q e.symm)), fun q => h0 (Or.inl q)⟩
/-- A sector under a beginning of a leaf: what is a leaf then is what it was, or the new one. -/
theorem sec_step (x b : List UInt8) (st n : Nat) (hx : x.length = 64) (hxh : headOf x = st) (hxf : footOf x = st) (hb : b.length = 64) (hle : footOf b ≤ headOf b) (hst : headOf b < st) (hn : n ≤ 64) :
    (torn x b n).length = 64 ∧ footOf (torn x b n) ≤ headOf (torn x b n) ∧ ∀ m c, Lf.get (torn x b n) = some (m, c) → (torn x b n = b ∧ m < st) ∨ (torn x b n = x ∧ m = st) := by
  have hl := torn_len x b n hx hb hn
  refine ⟨hl, ?_, ?_⟩
  · by_cases h8 : n ≤ 8
    · rw [torn_head _ _ _ hx hb h8, torn_foot0 _ _ _ hx (by omega), hxh]
      have := over_ge st (headOf b) (8 - n) (by omega)
      omega
    · rw [torn_head8 _ _ _ hx (by omega), hxh]
      by_cases h56 : n ≤ 56
      · rw [torn_foot0 _ _ _ hx h56]; omega
      · obtain ⟨m, rfl⟩ : ∃ m, n = 56 + m := ⟨n - 56, by omega⟩
        rw [torn_foot _ _ _ hx hb (by omega), hxf]
        exact over_le _ _ _ (by omega)
  · intro m c h
    obtain ⟨g1, g2, g3⟩ := get_eq hl h
    by_cases h8 : 8 ≤ n
    · rw [torn_head8 _ _ _ hx h8, hxh] at g1
      subst g1
      by_cases h56 : n < 56
      · rw [torn_foot0 _ _ _ hx (by omega)] at g2; omega
      · refine .inr ⟨?_, rfl⟩
        have e1 : leaf st (mid (torn x b n)) = torn x b n := by
          have := (leaf_iff _ hl).2 (by rw [torn_head8 _ _ _ hx h8, hxh, g2])
          rwa [torn_head8 _ _ _ hx h8, hxh] at this
        have e2 : leaf st (mid x) = x := by
          have := (leaf_iff _ hx).2 (by rw [hxh, hxf])
          rwa [hxh] at this
        rw [← e1, torn_mid _ _ _ hx (by omega), e2]
    · have k1 := torn_head _ b _ hx hb (show n ≤ 8 by omega)
      rw [hxh] at k1
      have k2 := over_ge st (headOf b) (8 - n) (by omega)
      rw [torn_foot0 _ _ _ hx (by omega)] at g2
      have k3 : headOf b = m := by omega
      refine .inl ⟨?_, by omega⟩
      have e1 : leaf m (mid (torn x b n)) = torn x b n := by
        have := (leaf_iff _ hl).2 (by rw [g1, torn_foot0 _ _ _ hx (by omega), g2])
        rwa [g1] at this
      have e2 : leaf m (mid b) = b := by
        have := (leaf_iff _ hb).2 (by rw [k3, g2])
        rwa [k3] at this
      rw [← e1, torn_mid0 _ _ _ hx (by omega), e2]
/-- One that was written: where, its stamp, its text. -/
structure Wr where
  f : Nat
  st : Nat
  s : List UInt8
def Wr.leaves (y : Wr) : List (List UInt8) := sheaf y.st y.s
def Wr.Ok (y : Wr) : Prop := y.st ≠ 0 ∧ y.st < 18446744073709551616 ∧ y.s.length ≤ 400
/-- What holds of the sectors. -/
structure Good (W : List Wr) (A : List (List UInt8)) : Prop where
  len : A.length = 12
  sec : ∀ p (h : p < A.length), A[p].length = 64 ∧ footOf A[p] ≤ headOf A[p]
  ok : ∀ y ∈ W, y.Ok
  uni : ∀ n, (∀ p (h : p < A.length) c, Lf.get A[p] ≠ some (n, c)) ∨ ∃ y ∈ W, y.st = n ∧ ∀ p (h : p < A.length) c, Lf.get A[p] = some (n, c) → y.f ≤ p ∧ y.leaves[p - y.f]? = some A[p]
theorem good_zero : Good [] (List.replicate 12 (List.replicate 64 0)) := by
  refine ⟨by simp, ?_, by simp, ?_⟩
  · intro p h
    rw [List.getElem_replicate]
    exact ⟨by decide, by decide⟩
  · intro n
    left
    intro p h c
    rw [List.getElem_replicate]
    have : Lf.get (List.replicate 64 (0 : UInt8)) = none := by decide
    rw [this]; simp
theorem top_ge (A : List (List UInt8)) : ∀ a : Nat, a ≤ A.foldl (fun a x => max a (Lf.ends x).1) a ∧ ∀ x ∈ A, (Lf.ends x).1 ≤ A.foldl (fun a x => max a (Lf.ends x).1) a := by
  induction A with
  | nil => intro a; simp
  | cons x A ih =>
    intro a
    rw [List.foldl_cons]
    obtain ⟨h1, h2⟩ := ih (max a (Lf.ends x).1)
    refine ⟨by omega, fun y hy => ?_⟩
    rcases List.mem_cons.1 hy with rfl | hy
    · omega
    · exact h2 y hy
theorem head_top {A : List (List UInt8)} {p : Nat} (h : p < A.length) (h64 : A[p].length = 64) : headOf A[p] ≤ top A := by
  have := (top_ge A 0).2 A[p] (List.getElem_mem h)
  have e : Lf.ends A[p] = (headOf A[p], footOf A[p]) := by unfold Lf.ends; rw [if_pos h64]
  rw [e] at this
  exact this
/-- The sectors from a place on under beginnings of a sheaf's leaves: the first k of them. -/
def Under (A : List (List UInt8)) (y : Wr) (N : Nat → Nat) (k : Nat) (B : List (List UInt8)) : Prop :=
  B.length = A.length ∧ ∀ p (h : p < A.length), ∃ h2 : p < B.length, B[p] = if y.f ≤ p ∧ p < y.f + k then torn (y.leaves.getD (p - y.f) []) A[p] (N (p - y.f)) else A[p]
theorem under_zero (A : List (List UInt8)) (y : Wr) (N : Nat → Nat) : Under A y N 0 A :=
  ⟨rfl, fun p h => ⟨h, by rw [if_neg (by omega)]⟩⟩
theorem under_succ {A B : List (List UInt8)} {y : Wr} {N : Nat → Nat} {k : Nat} (h : Under A y N k B) (n : Nat) (hk : k < y.leaves.length) (hf : y.f + k < A.length) :
    ∃ hB : y.f + k < B.length, B[y.f + k] = A[y.f + k] ∧ Under A y (fun j => if j = k then n else N j) (k + 1) (B.set (y.f + k) (torn y.leaves[k] B[y.f + k] n)) := by
  obtain ⟨h1, h2⟩ := h
  obtain ⟨hB, e⟩ := h2 (y.f + k) hf
  rw [if_neg (by omega)] at e
  refine ⟨hB, e, by rw [List.length_set]; exact h1, fun p hp => ?_⟩
  obtain ⟨hp2, e2⟩ := h2 p hp
  refine ⟨by rw [List.length_set]; exact hp2, ?_⟩
  by_cases hpk : p = y.f + k
  · subst hpk
    rw [List.getElem_set_self, if_pos (by omega), e, show y.f + k - y.f = k by omega]
    show _ = torn _ _ (if k = k then n else N k)
    rw [if_pos rfl]
    simp [hk]
  · rw [List.getElem_set_ne (by omega), e2]
    by_cases hc : y.f ≤ p ∧ p < y.f + k
    · rw [if_pos hc, if_pos (by omega)]
      show _ = torn _ _ (if p - y.f = k then n else N (p - y.f))
      rw [if_neg (by omega)]
    · rw [if_neg hc, if_neg (by omega)]
theorem sheaf_leaf {n : Nat} {s x : List UInt8} (hn : n < 18446744073709551616) (h : x ∈ sheaf n s) : x.length = 64 ∧ headOf x = n ∧ footOf x = n := by
  obtain ⟨d, hd, rfl⟩ := List.mem_map.1 h
  have h48 := chunks_small _ _ (Nat.le_refl _) d hd
  exact ⟨leaf_len n d h48, head_leaf n d hn, foot_leaf n d hn h48⟩
theorem good_step {W : List Wr} {A B : List (List UInt8)} {y : Wr} {N : Nat → Nat} (h : Good W A) (hy : y.Ok) (htop : top A < y.st) (hN : ∀ j, N j ≤ 64) (hu : Under A y N y.leaves.length B) : Good (W ++ [y]) B := by
  obtain ⟨hl, hp⟩ := hu
  have key : ∀ p (hpB : p < B.length), B[p].length = 64 ∧ footOf B[p] ≤ headOf B[p] ∧ ∀ m c, Lf.get B[p] = some (m, c) → (∃ hA : p < A.length, B[p] = A[p] ∧ m < y.st) ∨ (m = y.st ∧ y.f ≤ p ∧ y.leaves[p - y.f]? = some B[p]) := by
    intro p hpB
    have hpA : p < A.length := by omega
    obtain ⟨_, e⟩ := hp p hpA
    obtain ⟨a1, a2⟩ := h.sec p hpA
    have a3 := head_top hpA a1
    by_cases hc : y.f ≤ p ∧ p < y.f + y.leaves.length
    · rw [if_pos hc] at e
      have hj : p - y.f < y.leaves.length := by omega
      have hx : y.leaves.getD (p - y.f) [] = y.leaves[p - y.f] := by simp [hj]
      rw [hx] at e
      obtain ⟨x1, x2, x3⟩ := sheaf_leaf hy.2.1 (show y.leaves[p - y.f] ∈ sheaf y.st y.s from List.getElem_mem hj)
      obtain ⟨s1, s2, s3⟩ := sec_step y.leaves[p - y.f] A[p] y.st (N (p - y.f)) x1 x2 x3 a1 a2 (by omega) (hN _)
      rw [e]
      refine ⟨s1, s2, fun m c hm => ?_⟩
      rcases s3 m c hm with ⟨q1, q2⟩ | ⟨q1, q2⟩
      · exact .inl ⟨hpA, q1, q2⟩
      · exact .inr ⟨q2, hc.1, by rw [q1]; simp [hj]⟩
    · rw [if_neg hc] at e
      rw [e]
      refine ⟨a1, a2, fun m c hm => .inl ⟨hpA, rfl, ?_⟩⟩
      have := (get_eq a1 hm).1
      omega
  refine ⟨by rw [hl, h.len], fun p hpB => ⟨(key p hpB).1, (key p hpB).2.1⟩, ?_, fun n => ?_⟩
  · intro z hz
    rcases List.mem_append.1 hz with hz | hz
    · exact h.ok z hz
    · rw [List.mem_singleton.1 hz]; exact hy
  · by_cases hn : n = y.st
    · right
      refine ⟨y, by simp, hn.symm, fun p hpB c hc => ?_⟩
      rcases (key p hpB).2.2 n c hc with ⟨_, _, q⟩ | ⟨_, q1, q2⟩
      · omega
      · exact ⟨q1, q2⟩
    · rcases h.uni n with hno | ⟨z, hz, hzn, hzp⟩
      · left
        intro p hpB c hc
        rcases (key p hpB).2.2 n c hc with ⟨hA, q1, _⟩ | ⟨q, _⟩
        · rw [q1] at hc; exact hno p hA c hc
        · exact hn q
      · right
        refine ⟨z, by simp [hz], hzn, fun p hpB c hc => ?_⟩
        rcases (key p hpB).2.2 n c hc with ⟨hA, q1, _⟩ | ⟨q, _⟩
        · rw [q1] at hc ⊢; exact hzp p hA c hc
        · exact absurd q hn
/-- One that was written whole is there. -/
theorem whole_is {A B : List (List UInt8)} {y : Wr} {N : Nat → Nat} (hy : y.Ok) (h64 : ∀ p (h : p < A.length), A[p].length = 64) (hfit : y.f + y.leaves.length ≤ A.length) (hN : ∀ j, j < y.leaves.length → N j = 64) (hu : Under A y N y.leaves.length B) : pget (B.drop y.f) = some (y.st, y.s, y.leaves.length) := by
  obtain ⟨hl, hp⟩ := hu
  have e : (B.drop y.f).take y.leaves.length = y.leaves := by
    refine List.ext_getElem (by simp; omega) fun j h1 h2 => ?_
    obtain ⟨hB, e⟩ := hp (y.f + j) (by omega)
    rw [if_pos (by omega), show y.f + j - y.f = j by omega, hN j h2] at e
    rw [List.getElem_take, List.getElem_drop, e]
    have hx : y.leaves.getD j [] = y.leaves[j] := by simp [h2]
    rw [hx]
    exact torn_all _ _ (sheaf_leaf hy.2.1 (show y.leaves[j] ∈ sheaf y.st y.s from List.getElem_mem h2)).1 (h64 _ (by omega))
  refine pget_of_is ⟨hy.1, hy.2.1, by have := hy.2.2; omega, sheaf_len _ _, by simp; omega, e⟩
/-- What sectors begin with is one that was written. -/
theorem one_is {W : List Wr} {A : List (List UInt8)} {k n m : Nat} {s : List UInt8} (h : Good W A) (hk : k < 12) (hg : pget (A.drop k) = some (n, s, m)) : ∃ y ∈ W, y.st = n ∧ y.f ≤ k ∧ k + m ≤ y.f + y.leaves.length ∧ (k = y.f → s = y.s) := by
  have I := is_of_pget hg
  have hm1 : 1 ≤ m := by rw [I.kk]; exact many_pos _
  have hle := I.le
  rw [List.length_drop, h.len] at hle
  have at_ : ∀ j, j < m → ∃ (hj : k + j < A.length) (c : List UInt8), Lf.get A[k + j] = some (n, c) ∧ (sheaf n s)[j]? = some A[k + j] := by
    intro j hj
    have hkj : k + j < A.length := by rw [h.len]; omega
    have e1 : ((A.drop k).take m)[j]? = some A[k + j] := by
      rw [List.getElem?_take_of_lt hj, List.getElem?_drop, List.getElem?_eq_getElem hkj]
    rw [I.eq] at e1
    have hmem : A[k + j] ∈ sheaf n s := List.mem_of_getElem? e1
    obtain ⟨d, hd, e2⟩ := List.mem_map.1 hmem
    exact ⟨hkj, full d, by rw [← e2]; exact get_leaf n d I.n0 I.nl (chunks_small _ _ (Nat.le_refl _) d hd), e1⟩
  rcases h.uni n with hno | ⟨y, hy, hyn, hyp⟩
  · obtain ⟨h0, c, hc, _⟩ := at_ 0 (by omega)
    exact absurd hc (hno _ h0 c)
  · refine ⟨y, hy, hyn, ?_, ?_, ?_⟩
    · obtain ⟨h0, c, hc, _⟩ := at_ 0 (by omega)
      exact (hyp _ h0 c hc).1
    · obtain ⟨h0, c, hc, _⟩ := at_ (m - 1) (by omega)
      obtain ⟨q1, q2⟩ := hyp _ h0 c hc
      have := (List.getElem?_eq_some_iff.1 q2).1
      omega
    · intro hkf
      have hok := h.ok y hy
      have hall : ∀ j, j < m → y.leaves[j]? = (sheaf n s)[j]? := by
        intro j hj
        obtain ⟨h0, c, hc, e⟩ := at_ j hj
        obtain ⟨q1, q2⟩ := hyp _ h0 c hc
        rw [e, ← q2]
        congr 1
        omega
      have hsl : (sheaf n s).length = m := by rw [sheaf_len, I.kk]
      have hml : m ≤ y.leaves.length := by
        obtain ⟨h0, c, hc, e⟩ := at_ (m - 1) (by omega)
        obtain ⟨q1, q2⟩ := hyp _ h0 c hc
        have := (List.getElem?_eq_some_iff.1 q2).1
        omega
      have htk : y.leaves.take m = sheaf n s := by
        refine List.ext_getElem? fun j => ?_
        by_cases hj : j < m
        · rw [List.getElem?_take_of_lt hj, hall j hj]
        · rw [List.getElem?_eq_none (by simp; omega), List.getElem?_eq_none (by omega)]
      have J : Is y.leaves n s m := ⟨I.n0, I.nl, I.sl, I.kk, hml, htk⟩
      have K := is_put y.st y.s [] hok.1 hok.2.1 (by have := hok.2.2; omega)
      rw [List.append_nil] at K
      have p1 := pget_of_is J
      have p2 := pget_of_is K
      have p3 : pget y.leaves = some (y.st, y.s, many y.s.length) := p2
      rw [p1] at p3
      simp at p3
      exact p3.2.1
end Go.Proofs.YtjlncjabiofklaaDoor.Sf
end
