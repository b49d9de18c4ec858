/- Joined: ArMath ArMath2 ArMath3 ArMath4 TaMath. -/

section
namespace Go.Proofs.Ytnblilonjpfdnaa.Ar
/-- The distance from 0. -/
def mag (n : Int) : Int := if n < 0 then -n else n
theorem mag_bd (n : Int) (h1 : -9223372036854775808 ≤ n) (h2 : n ≤ 9223372036854775807) : 0 ≤ mag n ∧ mag n ≤ 9223372036854775808 := by unfold mag; split <;> omega
theorem mul_bd {x y B : Int} (h1 : 0 ≤ x) (h2 : x ≤ B) (h3 : 0 ≤ y) (h4 : y ≤ B) : 0 ≤ x * y ∧ x * y ≤ B * B :=
  ⟨Int.mul_nonneg h1 h3, Int.mul_le_mul h2 h4 h3 (by omega)⟩
theorem prod_parts (ah al bh bl : Int) : (ah * 4294967296 + al) * (bh * 4294967296 + bl) = (ah * bh) * 18446744073709551616 + (ah * bl + al * bh) * 4294967296 + al * bl := by
  grind
theorem prod_words (a b : Int) (h1 : 0 ≤ a) (h2 : a < 18446744073709551616) (h3 : 0 ≤ b) (h4 : b < 18446744073709551616) :
    let low := (a % 4294967296) * (b % 4294967296)
    let mid := (a / 4294967296) * (b % 4294967296) + low / 4294967296
    let oth := (a % 4294967296) * (b / 4294967296) + mid % 4294967296
    (0 ≤ low ∧ low < 18446744073709551616) ∧ (0 ≤ (a / 4294967296) * (b % 4294967296) ∧ mid < 18446744073709551616) ∧ (0 ≤ (a % 4294967296) * (b / 4294967296) ∧ oth < 18446744073709551616) ∧
    0 ≤ (a / 4294967296) * (b / 4294967296) ∧
    (a / 4294967296) * (b / 4294967296) + mid / 4294967296 + oth / 4294967296 = a * b / 18446744073709551616 ∧
    oth % 4294967296 * 4294967296 + low % 4294967296 = a * b % 18446744073709551616 ∧ a * b / 18446744073709551616 < 18446744073709551616 := by
  intro low mid oth
  have e := prod_parts (a / 4294967296) (a % 4294967296) (b / 4294967296) (b % 4294967296)
  rw [show a / 4294967296 * 4294967296 + a % 4294967296 = a by omega, show b / 4294967296 * 4294967296 + b % 4294967296 = b by omega] at e
  have p1 := mul_bd (x := a % 4294967296) (y := b % 4294967296) (B := 4294967295) (by omega) (by omega) (by omega) (by omega)
  have p2 := mul_bd (x := a / 4294967296) (y := b % 4294967296) (B := 4294967295) (by omega) (by omega) (by omega) (by omega)
  have p3 := mul_bd (x := a % 4294967296) (y := b / 4294967296) (B := 4294967295) (by omega) (by omega) (by omega) (by omega)
  have p4 := mul_bd (x := a / 4294967296) (y := b / 4294967296) (B := 4294967295) (by omega) (by omega) (by omega) (by omega)
  simp only [low, mid, oth]
  generalize a % 4294967296 * (b % 4294967296) = X at *
  generalize a / 4294967296 * (b % 4294967296) = Y at *
  generalize a % 4294967296 * (b / 4294967296) = Z at *
  generalize a / 4294967296 * (b / 4294967296) = W at *
  generalize a * b = P at *
  omega

/-- What fits 64 bits. -/
def Fits (n : Int) : Prop := -9223372036854775808 ≤ n ∧ n ≤ 9223372036854775807
instance (n : Int) : Decidable (Fits n) := by unfold Fits; infer_instance
def val (n : Int) : Int := if Fits n then n else 0
def ok (n : Int) : Bool := decide (Fits n)
/-- The sign given to a magnitude. -/
def sg (neg : Bool) (m : Int) : Int := if neg then -m else m
theorem sg_mul (a b : Int) : sg (xor (decide (a < 0)) (decide (b < 0))) (mag a * mag b) = a * b := by
  unfold sg mag
  by_cases ha : a < 0 <;> by_cases hb : b < 0 <;> simp [ha, hb, Int.neg_mul, Int.mul_neg]
theorem words (P : Int) : P / 18446744073709551616 * 18446744073709551616 + P % 18446744073709551616 = P := by omega
theorem prod_bd (x y : Int) (h1 : 0 ≤ x) (h2 : x ≤ 9223372036854775808) (h3 : 0 ≤ y) (h4 : y ≤ 9223372036854775808) : 0 ≤ x * y ∧ x * y ≤ 85070591730234615865843651857942052864 :=
  ⟨Int.mul_nonneg h1 h3, Int.le_trans (Int.mul_le_mul h2 h4 h3 (by omega)) (by decide)⟩
end Go.Proofs.Ytnblilonjpfdnaa.Ar
end
section
namespace Go.Proofs.Ytnblilonjpfdnaa.Ar
/-- Behind all bits but k: what was divided so far is c times Q and r. -/
def Inv (h l c : Int) (k : Nat) (Q r : Int) : Prop := 0 ≤ Q ∧ 0 ≤ r ∧ r < c ∧ (h % c) * 2 ^ (64 - k) + l / 2 ^ k = c * Q + r ∧ Q < 2 ^ (64 - k)
theorem inv_start (h l c : Int) (c0 : 1 ≤ c) (l0 : 0 ≤ l) (l1 : l < 18446744073709551616) : Inv h l c 64 0 (h % c) := by
  refine ⟨by omega, Int.emod_nonneg _ (by omega), Int.emod_lt_of_pos _ (by omega), ?_, by decide⟩
  have : l / 2 ^ 64 = 0 := by omega
  rw [this]; simp
theorem inv_step (h l c : Int) (k : Nat) (Q r : Int) (hk : k + 1 ≤ 64) (H : Inv h l c (k + 1) Q r) :
    (c ≤ 2 * r + l / 2 ^ k % 2 → Inv h l c k (2 * Q + 1) (2 * r + l / 2 ^ k % 2 - c)) ∧ (2 * r + l / 2 ^ k % 2 < c → Inv h l c k (2 * Q) (2 * r + l / 2 ^ k % 2)) := by
  obtain ⟨q0, r0, r1, e, q1⟩ := H
  have e64 : 64 - k = (64 - (k + 1)) + 1 := by omega
  have p1 : (2 : Int) ^ (64 - k) = 2 ^ (64 - (k + 1)) * 2 := by rw [e64, Int.pow_succ]
  have p2 : l / 2 ^ (k + 1) = l / 2 ^ k / 2 := by rw [Int.pow_succ, Int.ediv_ediv_of_nonneg (Int.pow_nonneg (by decide))]
  rw [p2] at e
  have m1 : h % c * (2 ^ (64 - (k + 1)) * 2) = 2 * (h % c * 2 ^ (64 - (k + 1))) := by grind
  have m2 : c * (2 * Q) = 2 * (c * Q) := by grind
  have m3 : c * (2 * Q + 1) = 2 * (c * Q) + c := by grind
  unfold Inv
  rw [p1, m1, m2, m3]
  generalize l / 2 ^ k = L at *
  generalize h % c * 2 ^ (64 - (k + 1)) = V at *
  generalize (2 : Int) ^ (64 - (k + 1)) = B at *
  constructor
  · intro hc
    exact ⟨by omega, by omega, by omega, by omega, by omega⟩
  · intro hc
    exact ⟨by omega, by omega, by omega, by omega, by omega⟩
theorem inv_end (h l c Q r : Int) (c0 : 1 ≤ c) (H : Inv h l c 0 Q r) :
    (h * 18446744073709551616 + l) / c / 18446744073709551616 = h / c ∧ (h * 18446744073709551616 + l) / c % 18446744073709551616 = Q ∧ (h * 18446744073709551616 + l) % c = r := by
  obtain ⟨q0, r0, r1, e, q1⟩ := H
  have e2 : h * 18446744073709551616 + l = r + c * (h / c * 18446744073709551616 + Q) := by
    have := Int.mul_ediv_add_emod h c
    simp at e
    grind
  have e3 : (h * 18446744073709551616 + l) / c = h / c * 18446744073709551616 + Q := by
    rw [e2, Int.add_mul_ediv_left _ _ (by omega), Int.ediv_eq_zero_of_lt r0 r1]; omega
  have e4 : (h * 18446744073709551616 + l) % c = r := by
    rw [e2, Int.add_mul_emod_self_left, Int.emod_eq_of_lt r0 r1]
  rw [e3, e4]
  simp at q1
  omega
/-- The quotient's bits so far: room is left, and the next one is new. -/
theorem inv_bits (h l c : Int) (k : Nat) (Q r : Int) (hk : k + 1 ≤ 64) (H : Inv h l c (k + 1) Q r) :
    0 ≤ Q * 2 ^ (k + 1) ∧ Q * 2 ^ (k + 1) + 2 ^ k < 18446744073709551616 ∧ Q * 2 ^ (k + 1) % 2 ^ (k + 1) = 0 ∧ (0 : Int) < 2 ^ k ∧ (2 : Int) ^ k < 2 ^ (k + 1) ∧ (2 * Q) * 2 ^ k = Q * 2 ^ (k + 1) ∧ (2 * Q + 1) * 2 ^ k = Q * 2 ^ (k + 1) + 2 ^ k := by
  obtain ⟨q0, _, _, _, q1⟩ := H
  have p0 : (0 : Int) < 2 ^ k := Int.pow_pos (by decide)
  have p1 : (2 : Int) ^ (k + 1) = 2 ^ k * 2 := Int.pow_succ _ _
  have p2 : (2 : Int) ^ (64 - (k + 1)) * 2 ^ (k + 1) = 18446744073709551616 := by rw [← Int.pow_add, show 64 - (k + 1) + (k + 1) = 64 by omega]; rfl
  have p3 : (Q + 1) * 2 ^ (k + 1) ≤ 2 ^ (64 - (k + 1)) * 2 ^ (k + 1) := Int.mul_le_mul_of_nonneg_right (by omega) (by omega)
  have p4 : (Q + 1) * 2 ^ (k + 1) = Q * 2 ^ (k + 1) + 2 ^ (k + 1) := by grind
  refine ⟨Int.mul_nonneg q0 (by omega), by omega, Int.mul_emod_left _ _, p0, by omega, by rw [p1]; grind, by rw [p1]; grind⟩
end Go.Proofs.Ytnblilonjpfdnaa.Ar
end
section
namespace Go.Proofs.Ytnblilonjpfdnaa.Ar
/-- The nearest integer to P by c, a half upwards. -/
def near (P c : Int) : Int := (2 * P + c) / (2 * c)
theorem near_pos (M c : Int) (c0 : 1 ≤ c) (_m0 : 0 ≤ M) : near M c = if c ≤ 2 * (M % c) then M / c + 1 else M / c := by
  unfold near
  have e := Int.mul_ediv_add_emod M c
  have r0 := Int.emod_nonneg M (show c ≠ 0 by omega)
  have r1 := Int.emod_lt_of_pos M (show 0 < c by omega)
  rw [show 2 * M + c = (2 * (M % c) + c) + 2 * c * (M / c) by grind, Int.add_mul_ediv_left _ _ (by omega)]
  split
  · rw [show 2 * (M % c) + c = (2 * (M % c) - c) + 2 * c * 1 by omega, Int.add_mul_ediv_left _ _ (by omega), Int.ediv_eq_zero_of_lt (by omega) (by omega)]; omega
  · rw [Int.ediv_eq_zero_of_lt (by omega) (by omega)]; omega
theorem near_neg (M c : Int) (c0 : 1 ≤ c) (_m0 : 0 ≤ M) : near (-M) c = -(if c < 2 * (M % c) then M / c + 1 else M / c) := by
  unfold near
  have e := Int.mul_ediv_add_emod M c
  have r0 := Int.emod_nonneg M (show c ≠ 0 by omega)
  have r1 := Int.emod_lt_of_pos M (show 0 < c by omega)
  rw [show 2 * -M + c = (c - 2 * (M % c)) + 2 * c * (-(M / c)) by grind, Int.add_mul_ediv_left _ _ (by omega)]
  split
  · rw [show c - 2 * (M % c) = (3 * c - 2 * (M % c)) + 2 * c * (-1) by omega, Int.add_mul_ediv_left _ _ (by omega), Int.ediv_eq_zero_of_lt (by omega) (by omega)]; omega
  · rw [Int.ediv_eq_zero_of_lt (by omega) (by omega)]; omega
/-- The quotient, rounded down, and the rest, of a number below 0. -/
theorem floor_neg (M c : Int) (c0 : 1 ≤ c) (h : 0 < M % c) : (-M) / c = -(M / c + 1) ∧ (-M) % c = c - M % c := by
  have e := Int.mul_ediv_add_emod M c
  have r1 := Int.emod_lt_of_pos M (show 0 < c by omega)
  have e2 : -M = (c - M % c) + c * (-(M / c + 1)) := by grind
  constructor
  · rw [e2, Int.add_mul_ediv_left _ _ (by omega), Int.ediv_eq_zero_of_lt (by omega) (by omega)]; omega
  · rw [e2, Int.add_mul_emod_self_left, Int.emod_eq_of_lt (by omega) (by omega)]
theorem floor_neg0 (M c : Int) (c0 : 1 ≤ c) (h : M % c = 0) : (-M) / c = -(M / c) ∧ (-M) % c = 0 := by
  have e := Int.mul_ediv_add_emod M c
  rw [h] at e
  have e2 : -M = 0 + c * (-(M / c)) := by grind
  constructor
  · rw [e2, Int.add_mul_ediv_left _ _ (by omega), Int.zero_ediv]; omega
  · rw [e2, Int.add_mul_emod_self_left, Int.zero_emod]
theorem quo_bd (M c : Int) (c0 : 1 ≤ c) (m0 : 0 ≤ M) : 0 ≤ M / c ∧ M / c ≤ M := ⟨Int.ediv_nonneg m0 (by omega), Int.ediv_le_self _ m0⟩
end Go.Proofs.Ytnblilonjpfdnaa.Ar
end
section
namespace Go.Proofs.Ytnblilonjpfdnaa.Ar
/-- What is above 0, and what is below, summed apart. -/
def posS (l : List Int) : Int := (l.map fun x => if x < 0 then 0 else x).sum
def negS (l : List Int) : Int := (l.map fun x => if x < 0 then -x else 0).sum
theorem sum_parts (l : List Int) : l.sum = posS l - negS l := by
  induction l with
  | nil => rfl
  | cons x l ih =>
    simp only [posS, negS, List.map_cons, List.sum_cons] at *
    split <;> omega
theorem posS_snoc (l : List Int) (x : Int) : posS (l ++ [x]) = posS l + if x < 0 then 0 else x := by simp [posS]
theorem negS_snoc (l : List Int) (x : Int) : negS (l ++ [x]) = negS l + if x < 0 then -x else 0 := by simp [negS]
theorem sums_bd (l : List Int) (h : ∀ x ∈ l, -9223372036854775808 ≤ x ∧ x ≤ 9223372036854775807) : 0 ≤ posS l ∧ posS l ≤ l.length * 9223372036854775808 ∧ 0 ≤ negS l ∧ negS l ≤ l.length * 9223372036854775808 := by
  induction l with
  | nil => simp [posS, negS]
  | cons x l ih =>
    have := ih (fun y hy => h y (by simp [hy]))
    have := h x (by simp)
    simp only [posS, negS, List.map_cons, List.sum_cons, List.length_cons] at *
    split <;> omega
theorem take_snoc (zs : List Int) (k : Nat) (h : k < zs.length) : zs.take (k + 1) = zs.take k ++ [zs.getD k 0] := by
  rw [List.take_succ_eq_append_getElem h]; simp [h]
end Go.Proofs.Ytnblilonjpfdnaa.Ar
end
section
namespace Go.Proofs.Ytnblilonjpfdnaa.Ta
/-- The bytes that say that more follow: of a number so far above 0. -/
def up (m : Nat) : List UInt8 := if _h : m = 0 then [] else up ((m - 1) / 128) ++ [UInt8.ofNat (128 + (m - 1) % 128)]
termination_by m
decreasing_by omega
/-- The bytes of a number. -/
def num (n : Nat) : List UInt8 := up (n / 128) ++ [UInt8.ofNat (n % 128)]
theorem up_zero : up 0 = [] := by rw [up]; simp
theorem up_pos {m : Nat} (h : 0 < m) : up m = up ((m - 1) / 128) ++ [UInt8.ofNat (128 + (m - 1) % 128)] := by
  rw [up, dif_neg (by omega)]
/-- What is taken off bytes, behind those of a number so far. -/
def take (acc : Nat) : List UInt8 → Option (Nat × List UInt8)
  | [] => none
  | c :: cs => if 144115188075855871 < acc then none
    else if c.toNat < 128 then some (acc * 128 + c.toNat, cs)
    else if acc * 128 + (c.toNat - 128) = 18446744073709551615 then none
    else take (acc * 128 + (c.toNat - 128) + 1) cs
theorem up_next (acc : Nat) (c : UInt8) (h : ¬ c.toNat < 128) : up (acc * 128 + (c.toNat - 128) + 1) = up acc ++ [c] := by
  have hc : c.toNat < 256 := c.toNat_lt
  rw [up_pos (by omega)]
  rw [show (acc * 128 + (c.toNat - 128) + 1 - 1) / 128 = acc by omega, show 128 + (acc * 128 + (c.toNat - 128) + 1 - 1) % 128 = c.toNat by omega]
  simp
theorem num_end (acc : Nat) (c : UInt8) (h : c.toNat < 128) : num (acc * 128 + c.toNat) = up acc ++ [c] := by
  unfold num
  rw [show (acc * 128 + c.toNat) / 128 = acc by omega, show (acc * 128 + c.toNat) % 128 = c.toNat by omega]
  simp
/-- What is taken, put again, are the bytes. -/
theorem take_once (l : List UInt8) : ∀ (acc n : Nat) (r : List UInt8), take acc l = some (n, r) → num n ++ r = up acc ++ l := by
  induction l with
  | nil => intro acc n r h; simp [take] at h
  | cons c cs ih =>
    intro acc n r h
    unfold take at h
    split at h
    · simp at h
    · split at h
      · rename_i hc
        simp only [Option.some.injEq, Prod.mk.injEq] at h
        obtain ⟨rfl, rfl⟩ := h
        rw [num_end acc c hc]; simp
      · split at h
        · simp at h
        · rename_i hc _
          have := ih _ _ _ h
          rw [up_next acc c hc] at this
          rw [this]; simp
theorem take_bound (l : List UInt8) : ∀ (acc n : Nat) (r : List UInt8), take acc l = some (n, r) → n < 18446744073709551616 ∧ r.length < l.length := by
  induction l with
  | nil => intro acc n r h; simp [take] at h
  | cons c cs ih =>
    intro acc n r h
    unfold take at h
    split at h
    · simp at h
    · split at h
      · simp only [Option.some.injEq, Prod.mk.injEq] at h
        obtain ⟨rfl, rfl⟩ := h
        simp; omega
      · split at h
        · simp at h
        · have := ih _ _ _ h
          simp; omega
/-- The bytes so far are taken. -/
theorem take_up (m : Nat) : ∀ l : List UInt8, m ≤ 144115188075855872 → take 0 (up m ++ l) = take m l := by
  induction m using Nat.strongRecOn with
  | _ m ih =>
    intro l hm
    by_cases h : m = 0
    · subst h; rw [up_zero]; rfl
    · rw [up_pos (by omega), List.append_assoc, ih ((m - 1) / 128) (by omega) _ (by omega)]
      have ht : (UInt8.ofNat (128 + (m - 1) % 128)).toNat = 128 + (m - 1) % 128 := by simp; omega
      simp only [List.singleton_append, take, ht]
      rw [if_neg (by omega), if_neg (by omega), if_neg (by omega)]
      congr 1
      omega
theorem take_back (n : Nat) (r : List UInt8) (h : n < 18446744073709551616) : take 0 (num n ++ r) = some (n, r) := by
  unfold num
  rw [List.append_assoc, take_up _ _ (by omega)]
  have ht : (UInt8.ofNat (n % 128)).toNat = n % 128 := by simp; omega
  simp only [List.singleton_append, take, ht]
  rw [if_neg (by omega), if_pos (by omega)]
  congr 2
  omega
theorem up_high (m : Nat) : ∀ c ∈ up m, 128 ≤ c.toNat := by
  induction m using Nat.strongRecOn with
  | _ m ih =>
    by_cases h : m = 0
    · subst h; rw [up_zero]; simp
    · rw [up_pos (by omega)]
      intro c hc
      rw [List.mem_append] at hc
      rcases hc with hc | hc
      · exact ih _ (by omega) c hc
      · simp at hc; subst hc; simp; omega
theorem take_high (l : List UInt8) : ∀ acc, (∀ c ∈ l, 128 ≤ c.toNat) → take acc l = none := by
  induction l with
  | nil => intro _ _; rfl
  | cons c cs ih =>
    intro acc h
    have hc := h c (by simp)
    unfold take
    split
    · rfl
    · rw [if_neg (by omega)]
      split
      · rfl
      · exact ih _ (fun d hd => h d (by simp [hd]))
/-- Nothing is taken off a beginning that is not all. -/
theorem take_short (n k : Nat) (h : k < (num n).length) : take 0 ((num n).take k) = none := by
  refine take_high _ 0 ?_
  intro c hc
  unfold num at hc h
  rw [List.take_append_of_le_length (by simp at h; omega)] at hc
  exact up_high _ c (List.mem_of_mem_take hc)
def S : Nat → Nat
  | 0 => 1
  | k + 1 => 128 * S k + 1
/-- How many bytes. -/
theorem up_len (k : Nat) : ∀ m, m < S k → (up m).length ≤ k := by
  induction k with
  | zero => intro m h; simp [S] at h; subst h; rw [up_zero]; simp
  | succ k ih =>
    intro m h
    simp only [S] at h
    by_cases hm : m = 0
    · subst hm; rw [up_zero]; simp
    · rw [up_pos (by omega)]
      have := ih ((m - 1) / 128) (by omega)
      simp; omega
theorem num_len (n : Nat) (h : n < 18446744073709551616) : (num n).length ≤ 10 ∧ 1 ≤ (num n).length := by
  unfold num
  have := up_len 9 (n / 128) (by simp [S]; omega)
  simp; omega
theorem up_mono (m : Nat) : ∀ m', m ≤ m' → (up m).length ≤ (up m').length := by
  induction m using Nat.strongRecOn with
  | _ m ih =>
    intro m' h
    by_cases hm : m = 0
    · subst hm; rw [up_zero]; simp
    · rw [up_pos (by omega), up_pos (m := m') (by omega)]
      have := ih ((m - 1) / 128) (by omega) ((m' - 1) / 128) (by omega)
      simp; omega
theorem num_mono (n n' : Nat) (h : n ≤ n') : (num n).length ≤ (num n').length := by
  unfold num
  have := up_mono (n / 128) (n' / 128) (by omega)
  simp; omega
theorem take_big (acc : Nat) (l : List UInt8) (h : 144115188075855871 < acc) : take acc l = none := by
  cases l with
  | nil => rfl
  | cons c cs => unfold take; rw [if_pos h]
theorem take_end (acc : Nat) (c : UInt8) (cs : List UInt8) (h : ¬ 144115188075855871 < acc) (hc : c.toNat < 128) : take acc (c :: cs) = some (acc * 128 + c.toNat, cs) := by
  unfold take; rw [if_neg h, if_pos hc]
theorem take_full (acc : Nat) (c : UInt8) (cs : List UInt8) (h : ¬ 144115188075855871 < acc) (hc : ¬ c.toNat < 128) (hf : acc * 128 + c.toNat % 128 = 18446744073709551615) : take acc (c :: cs) = none := by
  have := c.toNat_lt
  unfold take; rw [if_neg h, if_neg hc, if_pos (by omega)]
theorem take_on (acc : Nat) (c : UInt8) (cs : List UInt8) (h : ¬ 144115188075855871 < acc) (hc : ¬ c.toNat < 128) (hf : acc * 128 + c.toNat % 128 ≠ 18446744073709551615) : take acc (c :: cs) = take (acc * 128 + c.toNat % 128 + 1) cs := by
  have := c.toNat_lt
  rw [show c.toNat % 128 = c.toNat - 128 by omega] at *
  conv => lhs; unfold take
  rw [if_neg h, if_neg hc, if_neg hf]
/-- What is taken off bytes as a string. -/
def takeText (l : List UInt8) : Option (List UInt8 × List UInt8) :=
  match take 0 l with
  | some (n, r) => if n ≤ r.length then some (r.take n, r.drop n) else none
  | none => none
end Go.Proofs.Ytnblilonjpfdnaa.Ta
end
