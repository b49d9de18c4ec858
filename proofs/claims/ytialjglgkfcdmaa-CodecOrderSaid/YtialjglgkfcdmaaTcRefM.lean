/- Plain lists: numbers told apart by their bytes. -/
import Derived.Test.YtialjglgkfcdmaaTcTake
namespace Go.Proofs.Ytialjglgkfcdmaa.Ta
def isHi (c : UInt8) : Bool := decide (128 ≤ c.toNat)
theorem low_of (n : Nat) : isHi (UInt8.ofNat (n % 128)) = false := by
  unfold isHi
  have : (UInt8.ofNat (n % 128)).toNat = n % 128 := by simp; omega
  rw [this, decide_eq_false (by omega)]
theorem num_hi (m : Nat) (d : List UInt8) : (num m ++ d).takeWhile isHi = up (m / 128) := by
  unfold num
  rw [List.append_assoc, List.takeWhile_append_of_pos (fun c hc => by unfold isHi; exact decide_eq_true (up_high _ c hc))]
  simp [low_of]
theorem num_pre (m x : Nat) (d r : List UInt8) (h : num m ++ d = num x ++ r) : num m = num x := by
  have h1 := num_hi m d
  rw [h, num_hi] at h1
  unfold num at h ⊢
  rw [h1, List.append_assoc, List.append_assoc] at h
  have h2 := List.append_cancel_left h
  simp at h2
  rw [h1, h2.1]
def val (l : List UInt8) : Nat := l.foldl (fun a c => a * 128 + c.toNat % 128 + 1) 0
theorem val_up (m : Nat) : val (up m) = m := by
  induction m using Nat.strongRecOn with
  | _ m ih =>
    by_cases h : m = 0
    · subst h; rw [up_zero]; rfl
    · rw [up_pos (by omega)]
      have := ih ((m - 1) / 128) (by omega)
      unfold val at *
      rw [List.foldl_append, this]
      have ht : (UInt8.ofNat (128 + (m - 1) % 128)).toNat = 128 + (m - 1) % 128 := by simp; omega
      simp only [List.foldl_cons, List.foldl_nil, ht]
      omega
theorem val_num (n : Nat) : val (num n) = n + 1 := by
  unfold num
  have := val_up (n / 128)
  unfold val at *
  rw [List.foldl_append, this]
  have ht : (UInt8.ofNat (n % 128)).toNat = n % 128 := by simp; omega
  simp only [List.foldl_cons, List.foldl_nil, ht]
  omega
theorem num_inj {m x : Nat} (h : num m = num x) : m = x := by
  have h1 := val_num m
  rw [h, val_num] at h1
  omega
theorem take_over (b d : List UInt8) (m : Nat) (hb : num m ++ d = b) (hm : 18446744073709551616 ≤ m) : take 0 b = none := by
  cases h : take 0 b with
  | none => rfl
  | some p =>
    obtain ⟨x, r⟩ := p
    have h1 := take_once _ _ _ _ h
    have h2 := take_bound _ _ _ _ h
    rw [up_zero, List.nil_append, ← hb] at h1
    have := num_inj (num_pre _ _ _ _ h1)
    omega
theorem take_hi (b : List UInt8) (acc j : Nat) (hu : up acc = b.take j) (hj : b.length ≤ j ∨ 10 ≤ j) : take 0 b = none := by
  cases h : take 0 b with
  | none => rfl
  | some p =>
    obtain ⟨x, r⟩ := p
    have h1 := take_once _ _ _ _ h
    have h2 := take_bound _ _ _ _ h
    rw [up_zero, List.nil_append] at h1
    have h3 := num_len x h2.1
    exfalso
    have h4 : UInt8.ofNat (x % 128) ∈ b.take j := by
      rw [← h1]
      rcases hj with hj | hj
      · rw [List.take_of_length_le (by rw [h1]; exact hj)]
        unfold num; simp
      · rw [List.take_append]
        rw [List.take_of_length_le (by omega)]
        unfold num; simp
    rw [← hu] at h4
    have h5 := up_high _ _ h4
    have : (UInt8.ofNat (x % 128)).toNat = x % 128 := by simp; omega
    omega
theorem up_more (b : List UInt8) (acc j : Nat) (hu : up acc = b.take j) (h : j < b.length) (hc : ¬ b[j].toNat < 128) : up (acc * 128 + (b[j].toNat - 128) + 1) = b.take (j + 1) := by
  rw [up_next acc b[j] hc, hu, List.take_succ_eq_append_getElem h]
theorem num_more (b : List UInt8) (acc j : Nat) (hu : up acc = b.take j) (h : j < b.length) (hc : b[j].toNat < 128) : num (acc * 128 + b[j].toNat) = b.take (j + 1) := by
  rw [num_end acc b[j] hc, hu, List.take_succ_eq_append_getElem h]
theorem take_here (b : List UInt8) (acc j : Nat) (hu : up acc = b.take j) (h : j < b.length) (hc : b[j].toNat < 128) (hm : acc * 128 + b[j].toNat < 18446744073709551616) : take 0 b = some (acc * 128 + b[j].toNat, b.drop (j + 1)) := by
  have h1 := num_more b acc j hu h hc
  have h2 := take_back (acc * 128 + b[j].toNat) (b.drop (j + 1)) hm
  rw [h1, List.take_append_drop] at h2
  exact h2
theorem take_not (b : List UInt8) (acc j : Nat) (hu : up acc = b.take j) (h : j < b.length) (hc : b[j].toNat < 128) (hm : ¬ acc * 128 + b[j].toNat < 18446744073709551616) : take 0 b = none := by
  have h1 := num_more b acc j hu h hc
  exact take_over b (b.drop (j + 1)) (acc * 128 + b[j].toNat) (by rw [h1, List.take_append_drop]) (by omega)
end Go.Proofs.Ytialjglgkfcdmaa.Ta
