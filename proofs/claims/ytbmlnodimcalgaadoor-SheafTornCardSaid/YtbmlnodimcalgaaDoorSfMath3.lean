/- Sheaves: put and got back: plain mathematics. -/
import Derived.Test.YtbmlnodimcalgaaDoorSfMath2
namespace Go.Proofs.YtbmlnodimcalgaaDoor.Sf
theorem Is.head {L : List (List UInt8)} {n k : Nat} {s : List UInt8} (h : Is L n s k) : L.head? = some (Lf.leaf n ((text s).take 48)) := by
  obtain ⟨n0, nl, sl, rfl, le, eq⟩ := h
  obtain ⟨q, hq⟩ : ∃ q, many s.length = q + 1 := ⟨many s.length - 1, by have := many_pos s.length; omega⟩
  cases L with
  | nil => simp at le; omega
  | cons x L' =>
    obtain ⟨t, ht⟩ := chunks_head (text s)
    rw [hq] at eq
    unfold sheaf at eq
    rw [ht, List.map_cons, List.take_succ_cons] at eq
    rw [List.head?_cons, (List.cons.inj eq).1]
/-- The first sector tells the stamp and how many there are. -/
theorem Is.same {L L2 : List (List UInt8)} {n k n2 k2 : Nat} {s s2 : List UInt8} (h : Is L n s k) (h2 : Is L2 n2 s2 k2) (e : L.head? = L2.head?) : n = n2 ∧ s.length = s2.length ∧ k = k2 := by
  rw [h.head, h2.head] at e
  have e1 := get_leaf n ((text s).take 48) h.n0 h.nl (by simp; omega)
  have e2 := get_leaf n2 ((text s2).take 48) h2.n0 h2.nl (by simp; omega)
  rw [Option.some.inj e, e2] at e1
  obtain ⟨g1, g2⟩ := Prod.mk.inj (Option.some.inj e1)
  obtain ⟨r, hr⟩ := head_take s h.sl
  obtain ⟨r2, hr2⟩ := head_take s2 h2.sl
  rw [← g2, hr2] at hr
  have g3 := (Prod.mk.inj (Option.some.inj hr)).1
  exact ⟨g1.symm, g3.symm, by rw [h.kk, h2.kk, g3]⟩
theorem is_put (n : Nat) (s : List UInt8) (R : List (List UInt8)) (n0 : n ≠ 0) (nl : n < 18446744073709551616) (sl : s.length ≤ 98304) : Is (sheaf n s ++ R) n s (many s.length) :=
  ⟨n0, nl, sl, rfl, by rw [List.length_append, sheaf_len]; omega, by rw [← sheaf_len n s]; simp⟩
/-- Of fewer sectors there is nothing. -/
theorem is_less (n : Nat) (s : List UInt8) (n0 : n ≠ 0) (nl : n < 18446744073709551616) (sl : s.length ≤ 98304) : pget ((sheaf n s).take (many s.length - 1)) = none := by
  cases h : pget ((sheaf n s).take (many s.length - 1)) with
  | none => rfl
  | some v =>
    obtain ⟨n2, s2, k2⟩ := v
    exfalso
    have I := is_of_pget h
    have J := is_put n s [] n0 nl sl
    rw [List.append_nil] at J
    have hp := many_pos s.length
    have hl := I.le
    have hp2 := many_pos s2.length
    rw [List.length_take, sheaf_len] at hl
    have hk := I.kk
    obtain ⟨q, hq⟩ : ∃ q, many s.length - 1 = q + 1 := ⟨many s.length - 2, by omega⟩
    have e : ((sheaf n s).take (many s.length - 1)).head? = (sheaf n s).head? := by
      rw [hq]
      cases sheaf n s <;> simp
    have := (I.same J e).2.2
    omega
/-- The part at a place. -/
theorem chunks_get (i : Nat) : ∀ b : List UInt8, 48 * i < b.length → (chunks b)[i]? = some ((b.drop (48 * i)).take 48) := by
  induction i with
  | zero =>
    intro b h
    obtain ⟨t, ht⟩ := chunks_head b
    rw [ht]; simp
  | succ i ih =>
    intro b h
    rw [chunks_more (by omega), List.getElem?_cons_succ, ih (b.drop 48) (by simp; omega), List.drop_drop]
    congr 3
    omega
/-- One more part. -/
theorem chunks_snoc (i : Nat) (b : List UInt8) (h : 48 * i < b.length) : (chunks b).take (i + 1) = (chunks b).take i ++ [(b.drop (48 * i)).take 48] := by
  have hg := chunks_get i b h
  rw [List.take_add_one, hg]
  rfl
/-- The least number of leaves. -/
theorem many_least (n k : Nat) (h1 : (Ta.num n).length + n ≤ 48 * k) (h2 : ∀ j, j < k → 48 * j < (Ta.num n).length + n) : k = many n := by
  unfold many
  cases k with
  | zero =>
    have : 1 ≤ (Ta.num n).length := by unfold Ta.num; simp
    omega
  | succ k => have := h2 k (by omega); omega
/-- The greatest number at the heads. -/
def top (L : List (List UInt8)) : Nat := L.foldl (fun a x => max a (Lf.ends x).1) 0
theorem top_same (n : Nat) (hn : n < 18446744073709551616) : ∀ (L : List (List UInt8)) (a : Nat), a ≤ n → (∀ c ∈ L, c.length ≤ 48) → L ≠ [] → (L.map (Lf.leaf n)).foldl (fun a x => max a (Lf.ends x).1) a = n := by
  intro L
  induction L with
  | nil => intro a _ _ h; exact absurd rfl h
  | cons c L ih =>
    intro a ha hc _
    have e : (Lf.ends (Lf.leaf n c)).1 = n := by
      unfold Lf.ends
      rw [if_pos (Lf.leaf_len n c (hc c (by simp)))]
      exact Lf.head_leaf n c hn
    rw [List.map_cons, List.foldl_cons, e, Nat.max_eq_right ha]
    by_cases hL : L = []
    · subst hL; rfl
    · exact ih n (Nat.le_refl _) (fun d hd => hc d (by simp [hd])) hL
theorem top_put (n : Nat) (s : List UInt8) (hn : n < 18446744073709551616) : top (sheaf n s) = n := by
  obtain ⟨t, ht⟩ := chunks_head (text s)
  exact top_same n hn _ 0 (Nat.zero_le _) (chunks_small _ _ (Nat.le_refl _)) (by rw [ht]; simp)
end Go.Proofs.YtbmlnodimcalgaaDoor.Sf
