/- Keys: plain mathematics of the bytes of fields. -/
import Derived.Test.YtialjglgkfcdmaaOrFit
namespace Go.Proofs.Ytialjglgkfcdmaa.Or
/-- The bytes that a number takes, the highest first. -/
def shortL (n : Nat) : List UInt8 := if _h : n = 0 then [] else shortL (n / 256) ++ [UInt8.ofNat (n % 256)]
termination_by n
decreasing_by omega
theorem short_zero : shortL 0 = [] := by unfold shortL; simp
theorem short_pos {n : Nat} (h : 0 < n) : shortL n = shortL (n / 256) ++ [UInt8.ofNat (n % 256)] := by
  rw [shortL, dif_neg (by omega)]
theorem short_le (k : Nat) : ∀ n, n < 256 ^ k → (shortL n).length ≤ k := by
  induction k with
  | zero => intro n h; obtain rfl : n = 0 := by simpa using h
            rw [short_zero]; simp
  | succ k ih =>
    intro n h
    rcases Nat.eq_zero_or_pos n with rfl | h0
    · rw [short_zero]; simp
    · rw [short_pos h0, List.length_append]
      have := ih (n / 256) (by rw [Nat.pow_succ] at h; omega)
      simpa using this
theorem short8 {n : Nat} (h : n < 18446744073709551616) : (shortL n).length ≤ 8 := short_le 8 n (by omega)
def valL (l : List UInt8) : Nat := l.foldl (fun a c => 256 * a + c.toNat) 0
theorem val_snoc (l : List UInt8) (c : UInt8) : valL (l ++ [c]) = 256 * valL l + c.toNat := by simp [valL]
theorem snoc_of {α : Type} (l : List α) (h : l ≠ []) : ∃ l' c, l = l' ++ [c] := ⟨l.dropLast, l.getLast h, (List.dropLast_concat_getLast h).symm⟩
theorem val_lt (k : Nat) : ∀ l : List UInt8, l.length ≤ k → valL l < 256 ^ k := by
  induction k with
  | zero => intro l h; obtain rfl : l = [] := List.length_eq_zero_iff.1 (by omega)
            simp [valL]
  | succ k ih =>
    intro l h
    by_cases hl : l = []
    · subst hl; exact Nat.pow_pos (by decide)
    · obtain ⟨l', c, rfl⟩ := snoc_of l hl
      rw [val_snoc, Nat.pow_succ]
      have := ih l' (by simp at h; omega)
      have := c.toNat_lt
      omega
theorem val_short (n : Nat) : valL (shortL n) = n := by
  induction n using Nat.strongRecOn with
  | ind n ih =>
    rcases Nat.eq_zero_or_pos n with rfl | h0
    · rw [short_zero]; rfl
    · rw [short_pos h0, val_snoc, ih (n / 256) (by omega)]
      have : (UInt8.ofNat (n % 256)).toNat = n % 256 := by simp
      omega
theorem val_pos (l : List UInt8) (c : UInt8) (hc : c ≠ 0) : 0 < valL (c :: l) := by
  have hc' : 0 < c.toNat := by
    rcases Nat.eq_zero_or_pos c.toNat with h | h
    · exact absurd (UInt8.toNat_inj.1 h) hc
    · exact h
  have key : ∀ (l : List UInt8) (a : Nat), 0 < a → 0 < l.foldl (fun a c => 256 * a + c.toNat) a := by
    intro l
    induction l with
    | nil => intro a h; exact h
    | cons x t ih => intro a h; exact ih (256 * a + x.toNat) (by omega)
  unfold valL
  exact key l (256 * 0 + c.toNat) (by omega)
theorem short_val (n : Nat) : ∀ l : List UInt8, l.length = n → (∀ c t, l = c :: t → c ≠ 0) → shortL (valL l) = l := by
  induction n with
  | zero => intro l h _; obtain rfl := List.length_eq_zero_iff.1 h; exact short_zero
  | succ n ih =>
    intro l h hh
    have hl : l ≠ [] := by intro e; subst e; simp at h
    have hv : 0 < valL l := by
      cases l with
      | nil => exact absurd rfl hl
      | cons c t => exact val_pos t c (hh c t rfl)
    obtain ⟨l', c, rfl⟩ := snoc_of l hl
    rw [short_pos hv, val_snoc]
    have hc := c.toNat_lt
    have e1 : (256 * valL l' + c.toNat) / 256 = valL l' := by omega
    have e2 : (256 * valL l' + c.toNat) % 256 = c.toNat := by omega
    rw [e1, e2, ih l' (by simp at h; omega) (fun d t e => hh d (t ++ [c]) (by rw [e]; rfl))]
    simp
theorem short_head {n : Nat} {c : UInt8} {t : List UInt8} (h : shortL n = c :: t) : c ≠ 0 := by
  induction n using Nat.strongRecOn generalizing c t with
  | ind n ih =>
    rcases Nat.eq_zero_or_pos n with rfl | h0
    · rw [short_zero] at h; cases h
    · rw [short_pos h0] at h
      cases h2 : shortL (n / 256) with
      | nil =>
        rw [h2] at h
        have hz : n / 256 = 0 := by have := val_short (n / 256); rw [h2] at this; exact this.symm
        have : c = UInt8.ofNat (n % 256) := by simpa using (List.cons.inj h).1.symm
        subst this
        intro e
        have := congrArg UInt8.toNat e
        simp at this
        omega
      | cons d t2 =>
        rw [h2] at h
        obtain rfl : d = c := (List.cons.inj h).1
        exact ih (n / 256) (by omega) h2
/-- The complement. -/
def cpl (c : UInt8) : UInt8 := UInt8.ofNat (255 - c.toNat)
theorem cpl_nat (c : UInt8) : (cpl c).toNat = 255 - c.toNat := by unfold cpl; have := c.toNat_lt; simp; omega
theorem cpl_cpl (c : UInt8) : cpl (cpl c) = c := by
  apply UInt8.toNat_inj.1
  rw [cpl_nat, cpl_nat]
  have := c.toNat_lt; omega
theorem cpl_map (l : List UInt8) : (l.map cpl).map cpl = l := by
  rw [List.map_map]; conv => rhs; rw [← List.map_id l]
  exact List.map_congr_left fun c _ => cpl_cpl c
def numL (base n : Nat) : List UInt8 := UInt8.ofNat (base + (shortL n).length) :: shortL n
def escL (l : List UInt8) : List UInt8 := l.flatMap fun c => if c = 0 then [0, 255] else [c]
/-- A field's bytes. -/
def enc (c : UInt8) (f : Fd) : List UInt8 :=
  if c.toNat = 110 then numL 0 f.n.toNat
  else if c.toNat = 105 then (if f.i < 0 then (numL 128 (-f.i - 1).toNat).map cpl else numL 128 f.i.toNat)
  else escL f.s.data.toList ++ [0, 0]
def encAll : List UInt8 → List Fd → List UInt8
  | c :: K, f :: L => enc c f ++ encAll K L
  | _, _ => []
structure Fd.ok (f : Fd) : Prop where
  n0 : 0 ≤ f.n
  n1 : f.n < 18446744073709551616
  i0 : -9223372036854775808 ≤ f.i
  i1 : f.i < 9223372036854775808
theorem enc_ne (c : UInt8) (f : Fd) : enc c f ≠ [] := by
  unfold enc numL
  split
  · simp
  · split
    · split <;> simp
    · simp
/-- What a number's bytes are at the head of others. -/
def fl (b : Bool) (c : UInt8) : UInt8 := if b then cpl c else c
theorem fl_fl (b : Bool) (c : UInt8) : fl b (fl b c) = c := by cases b <;> simp [fl, cpl_cpl]
theorem fl_map (b : Bool) (l : List UInt8) : (l.map (fl b)).map (fl b) = l := by
  rw [List.map_map]; conv => rhs; rw [← List.map_id l]
  exact List.map_congr_left fun c _ => fl_fl b c
def manyL (base : Nat) (b : Bool) (B : List UInt8) : Nat := ((fl b (B.getD 0 0)).toNat + 256 - base) % 256
def tnum (base : Nat) (b : Bool) (B : List UInt8) : Option (Nat × List UInt8) :=
  if 8 < manyL base b B then none
  else if B.length ≤ manyL base b B then none
  else if 0 < manyL base b B ∧ fl b (B.getD 1 0) = 0 then none
  else some (valL (((B.drop 1).take (manyL base b B)).map (fl b)), B.drop (1 + manyL base b B))
theorem tnum_sound {base : Nat} {b : Bool} {B r : List UInt8} {n : Nat} (hb : base ≤ 128) (h : tnum base b B = some (n, r)) (hB : B ≠ []) : B = (numL base n).map (fl b) ++ r ∧ n < 18446744073709551616 := by
  unfold tnum at h
  split at h
  · cases h
  · split at h
    · cases h
    · split at h
      · cases h
      · rename_i h8 hlen hz
        obtain ⟨rfl, rfl⟩ := Prod.mk.inj (Option.some.inj h)
        obtain ⟨m, hm⟩ : ∃ m, manyL base b B = m := ⟨_, rfl⟩
        rw [hm] at h8 hlen hz ⊢
        cases B with
        | nil => exact absurd rfl hB
        | cons c t =>
          simp only [List.drop_one, List.tail_cons, List.length_cons] at hlen ⊢
          have hs : shortL (valL ((t.take m).map (fl b))) = (t.take m).map (fl b) := by
            refine short_val _ _ rfl fun d u e => ?_
            intro hd
            apply hz
            cases t with
            | nil => simp at e
            | cons x u2 =>
              cases m with
              | zero => simp at e
              | succ m =>
                rw [List.take_succ_cons, List.map_cons] at e
                refine ⟨by omega, ?_⟩
                show fl b x = 0
                rw [(List.cons.inj e).1, hd]
          refine ⟨?_, ?_⟩
          · unfold numL
            rw [hs, List.map_cons, fl_map]
            have hl : ((t.take m).map (fl b)).length = m := by simp; omega
            rw [hl, show 1 + m = m + 1 by omega, List.drop_succ_cons, List.cons_append, List.take_append_drop]
            congr 1
            have : UInt8.ofNat (base + m) = fl b c := by
              apply UInt8.toNat_inj.1
              have hm' : ((fl b c).toNat + 256 - base) % 256 = m := hm
              have := (fl b c).toNat_lt
              simp
              omega
            rw [this, fl_fl]
          · have := val_lt 8 ((t.take m).map (fl b)) (by simp; omega)
            omega
theorem tnum_whole (base : Nat) (b : Bool) (n : Nat) (r : List UInt8) (hb : base ≤ 128) (hn : n < 18446744073709551616) : tnum base b ((numL base n).map (fl b) ++ r) = some (n, r) := by
  have h8 := short8 hn
  have hm : manyL base b ((numL base n).map (fl b) ++ r) = (shortL n).length := by
    unfold manyL numL
    simp only [List.map_cons, List.cons_append, List.getD_cons_zero, fl_fl]
    simp
    omega
  unfold tnum
  rw [hm]
  have hlen : ((numL base n).map (fl b) ++ r).length = (shortL n).length + 1 + r.length := by unfold numL; simp; omega
  rw [if_neg (by omega), if_neg (by omega)]
  have hd : ((numL base n).map (fl b) ++ r).drop 1 = (shortL n).map (fl b) ++ r := by unfold numL; simp
  have hd2 : ((numL base n).map (fl b) ++ r).drop (1 + (shortL n).length) = r := by
    rw [← List.drop_drop, hd, List.drop_append, List.drop_of_length_le (by simp)]; simp
  rw [hd2, hd]
  have ht : ((shortL n).map (fl b) ++ r).take (shortL n).length = (shortL n).map (fl b) := by
    rw [List.take_append_of_le_length (by simp), List.take_of_length_le (by simp)]
  rw [ht, fl_map, val_short, if_neg]
  rintro ⟨h0, hz⟩
  cases hs : shortL n with
  | nil => rw [hs] at h0; simp at h0
  | cons c t =>
    apply short_head hs
    rw [← fl_fl b c, ← hz]
    unfold numL; rw [hs]; rfl
end Go.Proofs.Ytialjglgkfcdmaa.Or
