/- Keys: plain mathematics of what is taken off bytes. -/
import Derived.Test.YtialjglgkfcdmaaOrPut
namespace Go.Proofs.Ytialjglgkfcdmaa.Or
def takeS : List UInt8 → Option (List UInt8 × List UInt8)
  | [] => none
  | [_] => none
  | c :: d :: r => if c = 0 then (if d = 0 then some ([], r) else if d = 255 then (takeS r).map (fun x => (0 :: x.1, x.2)) else none) else (takeS (d :: r)).map fun x => (c :: x.1, x.2)
theorem esc_cons (c : UInt8) (t : List UInt8) : escL (c :: t) = (if c = 0 then [0, 255] else [c]) ++ escL t := by simp [escL]
theorem takeS_cons {c : UInt8} (hc : c ≠ 0) (B : List UInt8) : takeS (c :: B) = (takeS B).map fun x => (c :: x.1, x.2) := by
  cases B with
  | nil => rfl
  | cons d r => rw [takeS, if_neg hc]
theorem takeS_whole (l r : List UInt8) : takeS (escL l ++ ([0, 0] ++ r)) = some (l, r) := by
  induction l with
  | nil => simp [escL, takeS]
  | cons c t ih =>
    rw [esc_cons]
    by_cases hc : c = 0
    · rw [if_pos hc]
      simp only [List.cons_append, List.nil_append, takeS] at ih ⊢
      rw [ih, hc]
      simp
    · rw [if_neg hc, List.append_assoc, List.singleton_append, takeS_cons hc, ih]
      rfl
theorem takeS_sound (n : Nat) : ∀ (B l r : List UInt8), B.length ≤ n → takeS B = some (l, r) → B = escL l ++ ([0, 0] ++ r) := by
  induction n with
  | zero => intro B l r hB h; obtain rfl := List.length_eq_zero_iff.1 (by omega : B.length = 0); cases h
  | succ n ih =>
    intro B l r hB h
    cases B with
    | nil => cases h
    | cons c B =>
      by_cases hc : c = 0
      · cases B with
        | nil => cases h
        | cons d B =>
          rw [takeS, if_pos hc] at h
          by_cases hd : d = 0
          · rw [if_pos hd] at h
            obtain ⟨rfl, rfl⟩ := Prod.mk.inj (Option.some.inj h)
            rw [hc, hd]
            rfl
          · rw [if_neg hd] at h
            by_cases hd2 : d = 255
            · rw [if_pos hd2] at h
              cases h2 : takeS B with
              | none => rw [h2] at h; cases h
              | some x =>
                rw [h2] at h
                obtain ⟨rfl, rfl⟩ := Prod.mk.inj (Option.some.inj h)
                have := ih B x.1 x.2 (by simp at hB; omega) h2
                rw [esc_cons, if_pos rfl, hc, hd2]
                conv => lhs; rw [this]
                rfl
            · rw [if_neg hd2] at h; cases h
      · rw [takeS_cons hc] at h
        cases h2 : takeS B with
        | none => rw [h2] at h; cases h
        | some x =>
          rw [h2] at h
          obtain ⟨rfl, rfl⟩ := Prod.mk.inj (Option.some.inj h)
          have := ih B x.1 x.2 (by simp at hB; omega) h2
          rw [esc_cons, if_neg hc]
          conv => lhs; rw [this]
          rfl
def negB (B : List UInt8) : Bool := decide ((B.getD 0 0).toNat < 128)
def takeI (B : List UInt8) : Option (Int × List UInt8) := match tnum 128 (negB B) B with
  | none => none
  | some (n, r) => if 9223372036854775808 ≤ n then none else some (if negB B then -(n : Int) - 1 else (n : Int), r)
def takeF (c : UInt8) (B : List UInt8) : Option (Fd × List UInt8) :=
  if c.toNat = 110 then (tnum 0 false B).map fun x => (⟨x.1, 0, ⟨#[]⟩⟩, x.2)
  else if c.toNat = 105 then (takeI B).map fun x => (⟨0, x.1, ⟨#[]⟩⟩, x.2)
  else (takeS B).map fun x => (⟨0, 0, ⟨x.1.toArray⟩⟩, x.2)
theorem fl_false (l : List UInt8) : l.map (fl false) = l := by
  conv => rhs; rw [← List.map_id l]
  exact List.map_congr_left fun c _ => rfl
theorem num_head {n : Nat} (hn : n < 18446744073709551616) (r : List UInt8) : negB ((numL 128 n).map cpl ++ r) = true ∧ negB (numL 128 n ++ r) = false := by
  have h8 := short8 hn
  unfold negB numL
  constructor
  · simp only [List.map_cons, List.cons_append, List.getD_cons_zero, decide_eq_true_eq]
    rw [cpl_nat]; simp; omega
  · simp only [List.cons_append, List.getD_cons_zero, decide_eq_false_iff_not]
    simp; omega
theorem takeI_sound {B r : List UInt8} {i : Int} (h : takeI B = some (i, r)) (hB : B ≠ []) : B = (if i < 0 then (numL 128 (-i - 1).toNat).map cpl else numL 128 i.toNat) ++ r ∧ -9223372036854775808 ≤ i ∧ i < 9223372036854775808 := by
  unfold takeI at h
  split at h
  · cases h
  · rename_i n r' ht
    split at h
    · cases h
    · rename_i hn
      obtain ⟨hi, rfl⟩ := Prod.mk.inj (Option.some.inj h)
      obtain ⟨hs, hn2⟩ := tnum_sound (by omega) ht hB
      cases hb : negB B with
      | true =>
        rw [hb] at hi hs
        simp only [if_true] at hi
        subst hi
        refine ⟨?_, by omega, by omega⟩
        rw [if_pos (by omega), show (-(-(n : Int) - 1) - 1).toNat = n by omega]
        exact hs
      | false =>
        rw [hb] at hi hs
        simp only [Bool.false_eq_true, if_false] at hi
        subst hi
        refine ⟨?_, by omega, by omega⟩
        rw [if_neg (by omega), Int.toNat_natCast]
        rw [fl_false] at hs
        exact hs
theorem takeI_whole {i : Int} (r : List UInt8) (h0 : -9223372036854775808 ≤ i) (h1 : i < 9223372036854775808) : takeI ((if i < 0 then (numL 128 (-i - 1).toNat).map cpl else numL 128 i.toNat) ++ r) = some (i, r) := by
  by_cases hi : i < 0
  · rw [if_pos hi]
    unfold takeI
    have hh := (num_head (n := (-i - 1).toNat) (by omega) r).1
    have ht := tnum_whole 128 true (-i - 1).toNat r (by omega) (by omega)
    have e : (numL 128 (-i - 1).toNat).map (fl true) = (numL 128 (-i - 1).toNat).map cpl := rfl
    rw [e] at ht
    rw [hh, ht]
    have e1 : ¬ 9223372036854775808 ≤ (-i - 1).toNat := by omega
    have e2 : -(((-i - 1).toNat : Nat) : Int) - 1 = i := by omega
    simp only [if_true, if_neg e1, e2]
  · rw [if_neg hi]
    unfold takeI
    have hh := (num_head (n := i.toNat) (by omega) r).2
    have ht := tnum_whole 128 false i.toNat r (by omega) (by omega)
    rw [fl_false] at ht
    rw [hh, ht]
    have e1 : ¬ 9223372036854775808 ≤ i.toNat := by omega
    have e2 : ((i.toNat : Nat) : Int) = i := by omega
    simp only [Bool.false_eq_true, if_false, if_neg e1, e2]
def Letter (c : UInt8) : Prop := c.toNat = 110 ∨ c.toNat = 105 ∨ c.toNat = 115
theorem take_sound {c : UInt8} {B r : List UInt8} {f : Fd} (hc : Letter c) (h : takeF c B = some (f, r)) (hB : B ≠ []) : B = enc c f ++ r ∧ fitsB c f = true ∧ f.ok := by
  unfold takeF at h
  rcases hc with hc | hc | hc
  · rw [if_pos hc] at h
    cases ht : tnum 0 false B with
    | none => rw [ht] at h; cases h
    | some x =>
      rw [ht] at h
      obtain ⟨rfl, rfl⟩ := Prod.mk.inj (Option.some.inj h)
      obtain ⟨hs, hn⟩ := tnum_sound (by omega) ht hB
      rw [fl_false] at hs
      refine ⟨by rw [enc_n hc]; exact hs, by unfold fitsB; rw [if_pos hc]; rfl, ⟨by simp, by simp; omega, by simp, by simp⟩⟩
  · rw [if_neg (by omega), if_pos hc] at h
    cases ht : takeI B with
    | none => rw [ht] at h; cases h
    | some x =>
      rw [ht] at h
      obtain ⟨rfl, rfl⟩ := Prod.mk.inj (Option.some.inj h)
      obtain ⟨hs, h0, h1⟩ := takeI_sound ht hB
      refine ⟨by rw [enc_i hc]; exact hs, by unfold fitsB; rw [if_neg (by omega), if_pos hc]; rfl, ⟨by simp, by simp, h0, h1⟩⟩
  · rw [if_neg (by omega), if_neg (by omega)] at h
    cases ht : takeS B with
    | none => rw [ht] at h; cases h
    | some x =>
      rw [ht] at h
      obtain ⟨rfl, rfl⟩ := Prod.mk.inj (Option.some.inj h)
      have hs := takeS_sound _ B x.1 x.2 (Nat.le_refl _) ht
      refine ⟨by rw [enc_s hc, List.append_assoc]; exact hs, by unfold fitsB; rw [if_neg (by omega), if_neg (by omega)]; rfl, ⟨by simp, by simp, by simp, by simp⟩⟩
theorem take_whole {c : UInt8} {f : Fd} (r : List UInt8) (hc : Letter c) (hf : fitsB c f = true) (hok : f.ok) : takeF c (enc c f ++ r) = some (f, r) := by
  have ho := (only_fits c f).1 hf
  obtain ⟨n, i, s⟩ := f
  obtain ⟨n0, n1, i0, i1⟩ := hok
  simp only at n0 n1 i0 i1
  unfold takeF
  rcases hc with hc | hc | hc
  · rw [enc_n hc, if_pos hc]
    unfold Fd.only at ho
    rw [if_pos hc] at ho
    simp only [Fd.mk.injEq, true_and] at ho
    obtain ⟨rfl, rfl⟩ := ho
    have ht := tnum_whole 0 false n.toNat r (by omega) (by omega)
    rw [fl_false] at ht
    simp only
    rw [ht]
    simp only [Option.map_some]
    congr 3
    omega
  · rw [enc_i hc, if_neg (by omega), if_pos hc]
    unfold Fd.only at ho
    rw [if_neg (by omega), if_pos hc] at ho
    simp only [Fd.mk.injEq, true_and] at ho
    obtain ⟨rfl, rfl⟩ := ho
    simp only
    rw [takeI_whole r i0 i1]
    rfl
  · rw [enc_s hc, if_neg (by omega), if_neg (by omega)]
    unfold Fd.only at ho
    rw [if_neg (by omega), if_neg (by omega)] at ho
    simp only [Fd.mk.injEq, and_true] at ho
    obtain ⟨rfl, rfl⟩ := ho
    simp only
    rw [List.append_assoc, takeS_whole]
    rfl
/-- The fields of bytes. -/
def takeAll : List UInt8 → List UInt8 → Option (List Fd)
  | _, [] => some []
  | [], _ :: _ => none
  | c :: K, b :: B => match takeF c (b :: B) with
    | none => none
    | some (f, r) => (takeAll K r).map fun L => f :: L
structure Good (K : List UInt8) (L : List Fd) (B : List UInt8) : Prop where
  len : L.length ≤ K.length
  fits : ∀ j (h : j < L.length), fitsB (K[j]'(by omega)) L[j] = true
  ok : ∀ f ∈ L, f.ok
  enc : encAll K L = B
theorem takeAll_sound : ∀ (K B : List UInt8) (L : List Fd), (∀ c ∈ K, Letter c) → takeAll K B = some L → Good K L B
  | K, [], L, _, h => by
    have : L = [] := by cases K <;> simp [takeAll] at h <;> exact h
    subst this
    exact ⟨by simp, fun j h => absurd h (by simp), fun f h => by simp at h, encAll_nil K⟩
  | [], _ :: _, L, _, h => by cases h
  | c :: K, b :: B, L, hK, h => by
    rw [takeAll] at h
    split at h
    · cases h
    · rename_i f r ht
      cases h2 : takeAll K r with
      | none => rw [h2] at h; cases h
      | some M =>
        rw [h2] at h
        obtain rfl := Option.some.inj h
        obtain ⟨hs, hf, hok⟩ := take_sound (hK c (by simp)) ht (by simp)
        obtain ⟨g1, g2, g3, g4⟩ := takeAll_sound K r M (fun d hd => hK d (by simp [hd])) h2
        refine ⟨by simp; omega, ?_, ?_, ?_⟩
        · intro j hj
          cases j with
          | zero => exact hf
          | succ j => exact g2 j (by simpa using hj)
        · intro g hg
          rcases List.mem_cons.1 hg with rfl | hg
          · exact hok
          · exact g3 g hg
        · rw [encAll, g4, ← hs]
theorem takeAll_whole : ∀ (K : List UInt8) (L : List Fd) (B : List UInt8), (∀ c ∈ K, Letter c) → Good K L B → takeAll K B = some L
  | K, [], B, _, h => by
    have := h.enc
    rw [encAll_nil] at this
    subst this
    cases K <;> rfl
  | [], f :: L, B, _, h => by have := h.len; simp at this
  | c :: K, f :: L, B, hK, h => by
    have he := h.enc
    rw [encAll] at he
    cases B with
    | nil => exact absurd (List.append_eq_nil_iff.1 he).1 (enc_ne c f)
    | cons b B =>
      rw [takeAll, ← he, take_whole _ (hK c (by simp)) (show fitsB c f = true from h.fits 0 (by simp)) (h.ok f (by simp))]
      simp only
      rw [takeAll_whole K L (encAll K L) (fun d hd => hK d (by simp [hd])) ⟨by have := h.len; simpa using this, fun j hj => h.fits (j + 1) (by simpa using hj), fun g hg => h.ok g (by simp [hg]), rfl⟩]
      rfl
theorem kinds_letters {K : List UInt8} (h : kindsB K = true) : ∀ c ∈ K, Letter c := by
  intro c hc
  obtain ⟨k, hk, rfl⟩ := List.getElem_of_mem hc
  exact kinds_at h k hk
theorem good_fit {K : List UInt8} {L : List Fd} {B : List UInt8} (hk : kindsB K = true) (h : Good K L B) : fitB K L = true := fit_yes hk h.len h.fits
theorem fit_good {K : List UInt8} {L : List Fd} (h : fitB K L = true) (hok : ∀ f ∈ L, f.ok) : Good K L (encAll K L) := ⟨(fit_len h).2, fun j hj => fit_at h j hj _, hok, rfl⟩
/-- The fields of a key, or an error. -/
def getF (K B : List UInt8) : List Fd × Int :=
  if kindsB K then if 1024 < B.length then ([], 3) else match takeAll K B with
    | none => ([], 5)
    | some L => (L, 0)
  else ([], 2)
end Go.Proofs.Ytialjglgkfcdmaa.Or
