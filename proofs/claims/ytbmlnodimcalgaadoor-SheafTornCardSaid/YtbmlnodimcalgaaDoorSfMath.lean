/- Sheaves: plain mathematics. -/
import Derived.Test.YtbmlnodimcalgaaDoorTaMath
import Derived.Test.YtbmlnodimcalgaaDoorLfMath
namespace Go.Proofs.YtbmlnodimcalgaaDoor.Sf
/-- Bytes in parts of 48, the last one as long as it is. -/
def chunks (b : List UInt8) : List (List UInt8) := if _h : b.length ≤ 48 then [b] else b.take 48 :: chunks (b.drop 48)
termination_by b.length
decreasing_by simp; omega
theorem chunks_one {b : List UInt8} (h : b.length ≤ 48) : chunks b = [b] := by rw [chunks]; simp [h]
theorem chunks_more {b : List UInt8} (h : ¬ b.length ≤ 48) : chunks b = b.take 48 :: chunks (b.drop 48) := by
  conv => lhs; rw [chunks]
  simp [h]
theorem chunks_len (n : Nat) : ∀ b : List UInt8, b.length ≤ n → 0 < b.length → (chunks b).length = (b.length + 47) / 48 := by
  induction n with
  | zero => intro b h1 h2; omega
  | succ n ih =>
    intro b h1 h2
    by_cases h : b.length ≤ 48
    · rw [chunks_one h]; simp; omega
    · rw [chunks_more h, List.length_cons, ih (b.drop 48) (by simp; omega) (by simp; omega)]
      simp; omega
theorem chunks_small (n : Nat) : ∀ b : List UInt8, b.length ≤ n → ∀ c ∈ chunks b, c.length ≤ 48 := by
  induction n with
  | zero =>
    intro b h1 c hc
    rw [chunks_one (by omega)] at hc
    obtain rfl : c = b := by simpa using hc
    omega
  | succ n ih =>
    intro b h1 c hc
    by_cases h : b.length ≤ 48
    · rw [chunks_one h] at hc
      obtain rfl : c = b := by simpa using hc
      exact h
    · rw [chunks_more h] at hc
      rcases List.mem_cons.1 hc with rfl | hc
      · simp; omega
      · exact ih (b.drop 48) (by simp; omega) c hc
theorem chunks_pad (n : Nat) : ∀ b : List UInt8, b.length ≤ n → ((chunks b).map Lf.full).flatten = b ++ List.replicate (48 * (chunks b).length - b.length) 0 := by
  induction n with
  | zero =>
    intro b h1
    rw [chunks_one (by omega)]
    simp [Lf.full]
  | succ n ih =>
    intro b h1
    by_cases h : b.length ≤ 48
    · rw [chunks_one h]; simp [Lf.full]
    · rw [chunks_more h, List.map_cons, List.flatten_cons, ih (b.drop 48) (by simp; omega), Lf.full_id _ (by simp; omega), ← List.append_assoc, List.take_append_drop]
      congr 2
      simp; omega
/-- Parts of 48 bytes are told by all of them. -/
theorem parts_inj : ∀ P Q : List (List UInt8), (∀ c ∈ P, c.length = 48) → (∀ c ∈ Q, c.length = 48) → P.length = Q.length → P.flatten = Q.flatten → P = Q := by
  intro P
  induction P with
  | nil => intro Q _ _ h _; cases Q <;> simp_all
  | cons p P ih =>
    intro Q h1 h2 h3 h4
    cases Q with
    | nil => simp at h3
    | cons q Q =>
      rw [List.flatten_cons, List.flatten_cons] at h4
      obtain ⟨rfl, h5⟩ := List.append_inj h4 (by rw [h1 p (by simp), h2 q (by simp)])
      rw [ih Q (fun c hc => h1 c (by simp [hc])) (fun c hc => h2 c (by simp [hc])) (by simpa using h3) h5]
theorem flat_len : ∀ P : List (List UInt8), (∀ c ∈ P, c.length = 48) → P.flatten.length = 48 * P.length := by
  intro P
  induction P with
  | nil => intro _; rfl
  | cons p P ih =>
    intro h
    rw [List.flatten_cons, List.length_append, ih (fun c hc => h c (by simp [hc])), h p (by simp), List.length_cons]
    omega
theorem pad_chunks (P : List (List UInt8)) (b : List UInt8) (z : Nat) (hP : ∀ c ∈ P, c.length = 48) (hb : 0 < b.length) (hl : P.length = (b.length + 47) / 48) (h : P.flatten = b ++ List.replicate z 0) : P = (chunks b).map Lf.full := by
  have hc := chunks_len b.length b (Nat.le_refl _) hb
  refine parts_inj P _ hP ?_ (by rw [List.length_map, hc, hl]) ?_
  · intro c hcm
    obtain ⟨d, hd, rfl⟩ := List.mem_map.1 hcm
    exact Lf.full_len d (chunks_small b.length b (Nat.le_refl _) d hd)
  · rw [chunks_pad b.length b (Nat.le_refl _), h]
    have h1 := flat_len P hP
    rw [h] at h1
    simp at h1
    congr 2
    omega
/-- A text with its length ahead; the leaves of a sheaf; how many they are. -/
def text (s : List UInt8) : List UInt8 := Ta.num s.length ++ s
def sheaf (n : Nat) (s : List UInt8) : List (List UInt8) := (chunks (text s)).map (Lf.leaf n)
def many (n : Nat) : Nat := ((Ta.num n).length + n + 47) / 48
theorem text_pos (s : List UInt8) : 0 < (text s).length := by unfold text Ta.num; simp; omega
theorem sheaf_len (n : Nat) (s : List UInt8) : (sheaf n s).length = many s.length := by
  unfold sheaf many
  rw [List.length_map, chunks_len _ _ (Nat.le_refl _) (text_pos s)]
  unfold text; simp
theorem leaf_full (n : Nat) (c : List UInt8) (h : c.length ≤ 48) : Lf.leaf n (Lf.full c) = Lf.leaf n c := by
  unfold Lf.leaf; rw [Lf.full_id _ (Lf.full_len c h)]
/-- The program's own number: n itself may be great. -/
theorem many_is (n : Nat) : n / 48 + (n % 48 + (Ta.num n).length + 48 - 1) / 48 = many n := by unfold many; omega
end Go.Proofs.YtbmlnodimcalgaaDoor.Sf
