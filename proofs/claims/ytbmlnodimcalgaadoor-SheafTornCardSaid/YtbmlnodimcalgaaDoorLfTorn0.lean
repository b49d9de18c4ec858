/- Plain lists: beginnings of leaves written over 64 bytes. -/
import Derived.Test.YtbmlnodimcalgaaDoorLfMath
namespace Go.Proofs.YtbmlnodimcalgaaDoor.Lf
theorem fold_acc (m : List UInt8) : ∀ a : Nat, m.foldl (fun a c => a * 256 + c.toNat) a = a * 256 ^ m.length + m.foldl (fun a c => a * 256 + c.toNat) 0 := by
  induction m with
  | nil => intro a; simp
  | cons c m ih =>
    intro a
    rw [List.foldl_cons, List.foldl_cons, ih (a * 256 + c.toNat), ih (0 * 256 + c.toNat), List.length_cons, Nat.pow_succ, Nat.add_mul, Nat.add_mul, Nat.mul_assoc, Nat.mul_comm 256]
    omega
theorem num_app (l m : List UInt8) : num (l ++ m) = num l * 256 ^ m.length + num m := by
  unfold num
  rw [List.foldl_append, fold_acc m (List.foldl (fun a c => a * 256 + c.toNat) 0 l)]
theorem num_split (l : List UInt8) (n : Nat) (h : l.length = 8) (hn : n ≤ 8) : num (l.take n) = num l / 256 ^ (8 - n) ∧ num (l.drop n) = num l % 256 ^ (8 - n) := by
  have h1 := num_app (l.take n) (l.drop n)
  rw [List.take_append_drop] at h1
  have h2 : (l.drop n).length = 8 - n := by rw [List.length_drop]; omega
  have h3 := num_lt (8 - n) (l.drop n) h2
  rw [h2] at h1
  have hp : 0 < 256 ^ (8 - n) := Nat.pow_pos (by decide)
  constructor
  · rw [h1, Nat.mul_comm, Nat.mul_add_div hp, Nat.div_eq_of_lt h3, Nat.add_zero]
  · rw [h1, Nat.mul_comm, Nat.mul_add_mod, Nat.mod_eq_of_lt h3]
/-- A beginning of a number's bytes over another's. -/
def over (a b : Nat) (k : Nat) : Nat := a / 256 ^ k * 256 ^ k + b % 256 ^ k
theorem over_ge (a b k : Nat) (h : b ≤ a) : b ≤ over a b k := by
  unfold over
  have h1 : b / 256 ^ k ≤ a / 256 ^ k := Nat.div_le_div_right h
  have h2 := Nat.mul_le_mul_right (256 ^ k) h1
  have h3 := Nat.div_add_mod b (256 ^ k)
  rw [Nat.mul_comm] at h3
  omega
theorem over_le (a b k : Nat) (h : a ≤ b) : over a b k ≤ b := by
  unfold over
  have h1 : a / 256 ^ k ≤ b / 256 ^ k := Nat.div_le_div_right h
  have h2 := Nat.mul_le_mul_right (256 ^ k) h1
  have h3 := Nat.div_add_mod b (256 ^ k)
  rw [Nat.mul_comm] at h3
  omega
def torn (x b : List UInt8) (n : Nat) : List UInt8 := x.take n ++ b.drop n
theorem torn_len (x b : List UInt8) (n : Nat) (hx : x.length = 64) (hb : b.length = 64) (hn : n ≤ 64) : (torn x b n).length = 64 := by
  unfold torn; simp; omega
theorem torn_head (x b : List UInt8) (n : Nat) (hx : x.length = 64) (hb : b.length = 64) (hn : n ≤ 8) : headOf (torn x b n) = over (headOf x) (headOf b) (8 - n) := by
  have e : (torn x b n).take 8 = (x.take 8).take n ++ (b.take 8).drop n := by
    unfold torn
    rw [List.take_append, List.take_of_length_le (by rw [List.length_take]; omega), List.length_take, List.take_take, List.drop_take, show min n x.length = n by omega, show min n 8 = n by omega]
  have s1 := num_split (x.take 8) n (by rw [List.length_take]; omega) hn
  have s2 := num_split (b.take 8) n (by rw [List.length_take]; omega) hn
  unfold headOf over
  rw [e, num_app, s1.1, s2.2]
  congr 2
  rw [List.length_drop, List.length_take]
  congr 1; omega
theorem torn_head8 (x b : List UInt8) (n : Nat) (hx : x.length = 64) (hn : 8 ≤ n) : headOf (torn x b n) = headOf x := by
  unfold headOf torn
  rw [List.take_append_of_le_length (by rw [List.length_take]; omega), List.take_take, show min 8 n = 8 by omega]
theorem torn_foot0 (x b : List UInt8) (n : Nat) (hx : x.length = 64) (hn : n ≤ 56) : footOf (torn x b n) = footOf b := by
  unfold footOf torn
  rw [List.drop_append, List.drop_of_length_le (by rw [List.length_take]; omega), List.length_take, List.drop_drop, List.nil_append, show n + (56 - min n x.length) = 56 by omega]
theorem torn_foot (x b : List UInt8) (m : Nat) (hx : x.length = 64) (hb : b.length = 64) (hm : m ≤ 8) : footOf (torn x b (56 + m)) = over (footOf b) (footOf x) m := by
  have e : (torn x b (56 + m)).drop 56 = (x.drop 56).take m ++ (b.drop 56).drop m := by
    unfold torn
    rw [List.drop_append_of_le_length (by rw [List.length_take]; omega), List.drop_take, List.drop_drop, show 56 + m - 56 = m by omega]
  have lb : (b.drop 56).length = 8 := by rw [List.length_drop]; omega
  have lx : (x.drop 56).length = 8 := by rw [List.length_drop]; omega
  have e1 : ((b.drop 56).drop m).reverse = (b.drop 56).reverse.take (8 - m) := by
    rw [List.take_reverse, lb, show 8 - (8 - m) = m by omega]
  have e2 : ((x.drop 56).take m).reverse = (x.drop 56).reverse.drop (8 - m) := by
    rw [List.drop_reverse, lx, show 8 - (8 - m) = m by omega]
  have s1 := num_split (b.drop 56).reverse (8 - m) (by rw [List.length_reverse]; exact lb) (by omega)
  have s2 := num_split (x.drop 56).reverse (8 - m) (by rw [List.length_reverse]; exact lx) (by omega)
  unfold footOf over
  rw [e, List.reverse_append, e1, e2, num_app, s1.1, s2.2, List.length_drop, List.length_reverse, lx, show 8 - (8 - m) = m by omega]
theorem torn_mid (x b : List UInt8) (n : Nat) (hx : x.length = 64) (hn : 56 ≤ n) : mid (torn x b n) = mid x := by
  unfold mid torn
  rw [List.drop_append_of_le_length (by rw [List.length_take]; omega), List.take_append_of_le_length (by rw [List.length_drop, List.length_take]; omega), List.drop_take, List.take_take, show min 48 (n - 8) = 48 by omega]
theorem torn_mid0 (x b : List UInt8) (n : Nat) (hx : x.length = 64) (hn : n ≤ 8) : mid (torn x b n) = mid b := by
  unfold mid torn
  rw [List.drop_append, List.drop_of_length_le (by rw [List.length_take]; omega), List.length_take, List.drop_drop, List.nil_append, show n + (8 - min n x.length) = 8 by omega]
/-- What holds of the bytes, the last writing of eight bytes at least, and its content. -/
structure Whole (b : List UInt8) (last : Nat) (c : List UInt8) : Prop where
  len : b.length = 64
  le : footOf b ≤ headOf b
  one : headOf b = footOf b → headOf b ≠ 0 → headOf b = last ∧ mid b = c
theorem whole_step (b : List UInt8) (last st n : Nat) (c s : List UInt8) (h : Whole b last c) (hst : headOf b < st) (hst2 : st < 18446744073709551616) (hs : s.length ≤ 48) (hn : n ≤ 64) :
    Whole (torn (leaf st s) b n) (if 8 ≤ n then st else last) (if 8 ≤ n then full s else c) ∧ headOf b ≤ headOf (torn (leaf st s) b n) := by
  have hx := leaf_len st s hs
  have e1 := head_leaf st s hst2
  have e2 := foot_leaf st s hst2 hs
  have e3 := mid_leaf st s hs
  have hl := h.le
  refine ⟨⟨torn_len _ _ _ hx h.len hn, ?_, ?_⟩, ?_⟩
  · by_cases h8 : n ≤ 8
    · rw [torn_head _ _ _ hx h.len h8, torn_foot0 _ _ _ hx (by omega), e1]
      have := over_ge st (headOf b) (8 - n) (by omega)
      omega
    · rw [torn_head8 _ _ _ hx (by omega), e1]
      by_cases h56 : n ≤ 56
      · rw [torn_foot0 _ _ _ hx h56]; omega
      · obtain ⟨m, rfl⟩ : ∃ m, n = 56 + m := ⟨n - 56, by omega⟩
        rw [torn_foot _ _ _ hx h.len (by omega), e2]
        exact over_le _ _ _ (by omega)
  · intro he h0
    by_cases h8 : 8 ≤ n
    · rw [if_pos h8, if_pos h8, torn_head8 _ _ _ hx h8, e1]
      rw [torn_head8 _ _ _ hx h8, e1] at he
      by_cases h56 : n < 56
      · rw [torn_foot0 _ _ _ hx (by omega)] at he; omega
      · exact ⟨rfl, by rw [torn_mid _ _ _ hx (by omega), e3]⟩
    · rw [if_neg h8, if_neg h8]
      have g1 := torn_head _ b _ hx h.len (show n ≤ 8 by omega)
      rw [e1] at g1
      have g2 := over_ge st (headOf b) (8 - n) (by omega)
      rw [torn_foot0 _ _ _ hx (by omega)] at he
      have g3 : headOf (torn (leaf st s) b n) = headOf b := by omega
      rw [g3] at he h0 ⊢
      rw [torn_mid0 _ _ _ hx (by omega)]
      exact h.one he h0
  · by_cases h8 : n ≤ 8
    · rw [torn_head _ _ _ hx h.len h8, e1]
      exact over_ge _ _ _ (by omega)
    · rw [torn_head8 _ _ _ hx (by omega), e1]; omega
theorem torn_all (x b : List UInt8) (hx : x.length = 64) (hb : b.length = 64) : torn x b 64 = x := by
  unfold torn
  rw [List.take_of_length_le (by omega), List.drop_of_length_le (by omega), List.append_nil]
theorem whole_zero : Whole (List.replicate 64 0) 0 [] := ⟨by decide, by decide, fun _ h => absurd (show headOf (List.replicate 64 0) = 0 by decide) h⟩
end Go.Proofs.YtbmlnodimcalgaaDoor.Lf
