/- Records: plain mathematics of their bytes. -/
import Derived.Test.YtialjglgkfcdmaaOrTake
import Derived.Test.YtialjglgkfcdmaaTcMath5
import Derived.Test.YtialjglgkfcdmaaTcPut2
namespace Go.Proofs.Ytialjglgkfcdmaa.Or
open Go.Proofs.Ytialjglgkfcdmaa.Tal
/-- A field's bytes. -/
def cb (c : UInt8) (f : Fd) : List UInt8 := if c.toNat = 110 then Ta.num f.n.toNat else if c.toNat = 105 then Ta.num (zig f.i) else txt f.s.data.toList
theorem cb_n {c : UInt8} {f : Fd} (h : c.toNat = 110) : cb c f = Ta.num f.n.toNat := by unfold cb; rw [if_pos h]
theorem cb_i {c : UInt8} {f : Fd} (h : c.toNat = 105) : cb c f = Ta.num (zig f.i) := by unfold cb; rw [if_neg (by omega), if_pos h]
theorem cb_s {c : UInt8} {f : Fd} (h : c.toNat = 115) : cb c f = txt f.s.data.toList := by unfold cb; rw [if_neg (by omega), if_neg (by omega)]
def recAll : List UInt8 → List Fd → List UInt8
  | c :: K, f :: L => cb c f ++ recAll K L
  | _, _ => []
theorem recAll_nil (K : List UInt8) : recAll K [] = [] := by cases K <;> rfl
theorem recAll_next : ∀ (K : List UInt8) (L : List Fd) (k : Nat) (hk : k < K.length) (hl : k < L.length), recAll K (L.take (k + 1)) = recAll K (L.take k) ++ cb K[k] L[k]
  | _ :: _, _ :: _, 0, _, _ => by simp [recAll, recAll_nil]
  | _ :: K, _ :: L, k + 1, hk, hl => by
    simp only [List.take_succ_cons, recAll, List.getElem_cons_succ]
    rw [recAll_next K L k (by simpa using hk) (by simpa using hl), List.append_assoc]
theorem recAll_le : ∀ (K : List UInt8) (L : List Fd) (k : Nat), (recAll K (L.take k)).length ≤ (recAll K L).length
  | [], L, k => by cases L <;> cases k <;> simp [recAll]
  | _ :: _, [], k => by simp
  | _ :: K, _ :: L, 0 => by simp [recAll]
  | c :: K, f :: L, k + 1 => by
    simp only [List.take_succ_cons, recAll, List.length_append]
    have := recAll_le K L k
    omega
def takeC (c : UInt8) (B : List UInt8) : Option (Fd × List UInt8) :=
  if c.toNat = 110 then (Ta.take 0 B).map fun x => (⟨x.1, 0, ⟨#[]⟩⟩, x.2)
  else if c.toNat = 105 then (Ta.take 0 B).map fun x => (⟨0, unz x.1, ⟨#[]⟩⟩, x.2)
  else (Ta.takeText B).map fun x => (⟨0, 0, ⟨x.1.toArray⟩⟩, x.2)
theorem takeC_sound {c : UInt8} {B r : List UInt8} {f : Fd} (hc : Letter c) (h : takeC c B = some (f, r)) : B = cb c f ++ r ∧ fitsB c f = true ∧ f.ok ∧ r.length ≤ B.length ∧ f.s.size ≤ B.length := by
  unfold takeC at h
  rcases hc with hc | hc | hc
  · rw [if_pos hc] at h
    cases ht : Ta.take 0 B with
    | none => rw [ht] at h; cases h
    | some x =>
      rw [ht] at h
      obtain ⟨rfl, rfl⟩ := Prod.mk.inj (Option.some.inj h)
      have h1 := Ta.take_once _ _ _ _ ht
      have h2 := Ta.take_bound _ _ _ _ ht
      rw [Ta.up_zero, List.nil_append] at h1
      refine ⟨by rw [cb_n hc]; exact h1.symm, by unfold fitsB; rw [if_pos hc]; rfl, ⟨by simp, by show (x.1 : Int) < _; omega, by simp, by simp⟩, by omega, Nat.zero_le _⟩
  · rw [if_neg (by omega), if_pos hc] at h
    cases ht : Ta.take 0 B with
    | none => rw [ht] at h; cases h
    | some x =>
      rw [ht] at h
      obtain ⟨rfl, rfl⟩ := Prod.mk.inj (Option.some.inj h)
      have h1 := Ta.take_once _ _ _ _ ht
      have h2 := Ta.take_bound _ _ _ _ ht
      have h3 := unz_range x.1 h2.1
      rw [Ta.up_zero, List.nil_append] at h1
      refine ⟨by rw [cb_i hc]; simp only [zig_unz]; exact h1.symm, by unfold fitsB; rw [if_neg (by omega), if_pos hc]; rfl, ⟨by simp, by simp, h3.1, by show unz x.1 < _; omega⟩, by omega, Nat.zero_le _⟩
  · rw [if_neg (by omega), if_neg (by omega)] at h
    cases ht : Ta.takeText B with
    | none => rw [ht] at h; cases h
    | some x =>
      rw [ht] at h
      obtain ⟨rfl, rfl⟩ := Prod.mk.inj (Option.some.inj h)
      have h1 := takeText_once _ _ _ ht
      have h2 := congrArg List.length h1
      unfold txt at h2
      simp only [List.length_append] at h2
      refine ⟨by rw [cb_s hc]; exact h1.symm, by unfold fitsB; rw [if_neg (by omega), if_neg (by omega)]; rfl, ⟨by simp, by simp, by simp, by simp⟩, by omega, by show x.1.length ≤ _; omega⟩
theorem takeC_whole {c : UInt8} {f : Fd} (r : List UInt8) (hc : Letter c) (hf : fitsB c f = true) (hok : f.ok) (hs : f.s.size < 18446744073709551616) : takeC c (cb c f ++ r) = some (f, r) := by
  have ho := (only_fits c f).1 hf
  obtain ⟨n, i, s⟩ := f
  obtain ⟨n0, n1, i0, i1⟩ := hok
  simp only at n0 n1 i0 i1 hs
  unfold takeC
  rcases hc with hc | hc | hc
  · rw [cb_n hc, if_pos hc]
    unfold Fd.only at ho
    rw [if_pos hc] at ho
    simp only [Fd.mk.injEq, true_and] at ho
    obtain ⟨rfl, rfl⟩ := ho
    simp only
    rw [Ta.take_back _ _ (by omega)]
    simp only [Option.map_some]
    congr 3
    omega
  · rw [cb_i hc, if_neg (by omega), if_pos hc]
    unfold Fd.only at ho
    rw [if_neg (by omega), if_pos hc] at ho
    simp only [Fd.mk.injEq, true_and] at ho
    obtain ⟨rfl, rfl⟩ := ho
    simp only
    rw [Ta.take_back _ _ (zig_lt _ (by omega) (by omega))]
    simp only [Option.map_some, unz_zig]
  · rw [cb_s hc, if_neg (by omega), if_neg (by omega)]
    unfold Fd.only at ho
    rw [if_neg (by omega), if_neg (by omega)] at ho
    simp only [Fd.mk.injEq, and_true] at ho
    obtain ⟨rfl, rfl⟩ := ho
    simp only
    rw [takeText_back _ _ (by simp; omega)]
    rfl
/-- The fields of bytes, one for each letter. -/
def takeR : List UInt8 → List UInt8 → Option (List Fd)
  | [], [] => some []
  | [], _ :: _ => none
  | c :: K, B => match takeC c B with
    | none => none
    | some (f, r) => (takeR K r).map fun L => f :: L
structure GoodR (K : List UInt8) (L : List Fd) (B : List UInt8) : Prop where
  len : L.length = K.length
  fits : ∀ j (h : j < L.length), fitsB (K[j]'(by omega)) L[j] = true
  ok : ∀ f ∈ L, f.ok ∧ f.s.size < 18446744073709551616
  enc : recAll K L = B
theorem takeR_sound : ∀ (K B : List UInt8) (L : List Fd), (∀ c ∈ K, Letter c) → B.length ≤ 1000000 → takeR K B = some L → GoodR K L B
  | [], [], L, _, _, h => by
    obtain rfl : L = [] := by simpa [takeR] using h.symm
    exact ⟨rfl, fun j h => absurd h (by simp), fun f h => by simp at h, rfl⟩
  | [], _ :: _, L, _, _, h => by cases h
  | c :: K, B, L, hK, hB, h => by
    rw [takeR] at h
    split at h
    · cases h
    · rename_i f r ht
      cases h2 : takeR K r with
      | none => rw [h2] at h; cases h
      | some M =>
        rw [h2] at h
        obtain rfl := Option.some.inj h
        obtain ⟨hs, hf, hok, hr, hsz⟩ := takeC_sound (hK c (by simp)) ht
        obtain ⟨g1, g2, g3, g4⟩ := takeR_sound K r M (fun d hd => hK d (by simp [hd])) (by omega) h2
        refine ⟨by simp [g1], ?_, ?_, ?_⟩
        · intro j hj
          cases j with
          | zero => exact hf
          | succ j => exact g2 j (by simpa using hj)
        · intro g hg
          rcases List.mem_cons.1 hg with rfl | hg
          · exact ⟨hok, by omega⟩
          · exact g3 g hg
        · rw [recAll, g4, ← hs]
theorem takeR_whole : ∀ (K : List UInt8) (L : List Fd) (B : List UInt8), (∀ c ∈ K, Letter c) → GoodR K L B → takeR K B = some L
  | [], [], B, _, h => by
    have := h.enc
    simp [recAll] at this
    subst this
    rfl
  | [], _ :: _, _, _, h => by have := h.len; simp at this
  | _ :: _, [], _, _, h => by have := h.len; simp at this
  | c :: K, f :: L, B, hK, h => by
    have he := h.enc
    rw [recAll] at he
    have hok := h.ok f (by simp)
    rw [takeR, ← he, takeC_whole _ (hK c (by simp)) (show fitsB c f = true from h.fits 0 (by simp)) hok.1 hok.2]
    simp only
    rw [takeR_whole K L (recAll K L) (fun d hd => hK d (by simp [hd])) ⟨by have := h.len; simpa using this, fun j hj => h.fits (j + 1) (by simpa using hj), fun g hg => h.ok g (by simp [hg]), rfl⟩]
    rfl
/-- The bytes of a record, or an error. -/
def cput (K : List UInt8) (L : List Fd) : List UInt8 × Int :=
  if kindsB K then if L.length = K.length ∧ fitB K L = true then if 8192 < (recAll K L).length then ([], 3) else (recAll K L, 0) else ([], 5) else ([], 2)
theorem cput_kinds {K : List UInt8} {L : List Fd} (h : kindsB K = false) : cput K L = ([], 2) := by unfold cput; rw [h]; rfl
theorem cput_unfit {K : List UInt8} {L : List Fd} (hk : kindsB K = true) (h : ¬ (L.length = K.length ∧ fitB K L = true)) : cput K L = ([], 5) := by unfold cput; rw [hk, if_pos rfl, if_neg h]
theorem cput_long {K : List UInt8} {L : List Fd} (hk : kindsB K = true) (h1 : L.length = K.length) (h : fitB K L = true) (hl : 8192 < (recAll K L).length) : cput K L = ([], 3) := by unfold cput; rw [hk, if_pos rfl, if_pos ⟨h1, h⟩, if_pos hl]
theorem cput_ok {K : List UInt8} {L : List Fd} (hk : kindsB K = true) (h1 : L.length = K.length) (h : fitB K L = true) (hl : (recAll K L).length ≤ 8192) : cput K L = (recAll K L, 0) := by unfold cput; rw [hk, if_pos rfl, if_pos ⟨h1, h⟩, if_neg (by omega)]
/-- The record of bytes, or an error. -/
def cget (K B : List UInt8) : List Fd × Int :=
  if kindsB K then if 8192 < B.length then ([], 3) else match takeR K B with
    | none => ([], 5)
    | some L => (L, 0)
  else ([], 2)
theorem cget_kinds {K B : List UInt8} (h : kindsB K = false) : cget K B = ([], 2) := by unfold cget; rw [h]; rfl
theorem cget_long {K B : List UInt8} (h : kindsB K = true) (hl : 8192 < B.length) : cget K B = ([], 3) := by unfold cget; rw [h, if_pos rfl, if_pos hl]
theorem cget_none {K B : List UInt8} (h : kindsB K = true) (hl : ¬ 8192 < B.length) (ht : takeR K B = none) : cget K B = ([], 5) := by unfold cget; rw [h, if_pos rfl, if_neg hl, ht]
theorem cget_some {K B : List UInt8} {L : List Fd} (h : kindsB K = true) (hl : ¬ 8192 < B.length) (ht : takeR K B = some L) : cget K B = (L, 0) := by unfold cget; rw [h, if_pos rfl, if_neg hl, ht]
theorem fitB_good {K : List UInt8} {L : List Fd} {B : List UInt8} (hk : kindsB K = true) (h : GoodR K L B) : fitB K L = true := fit_yes hk (by have := h.len; omega) h.fits
theorem cput_good {K : List UInt8} {L : List Fd} {B : List UInt8} (hok : ∀ f ∈ L, f.ok ∧ f.s.size < 18446744073709551616) (h : cput K L = (B, 0)) : kindsB K = true ∧ GoodR K L B ∧ B.length ≤ 8192 := by
  cases hk : kindsB K with
  | false => rw [cput_kinds hk] at h; simp at h
  | true =>
    by_cases hf : L.length = K.length ∧ fitB K L = true
    · rcases Nat.lt_or_ge 8192 (recAll K L).length with hl | hl
      · rw [cput_long hk hf.1 hf.2 hl] at h; simp at h
      · rw [cput_ok hk hf.1 hf.2 hl] at h
        obtain ⟨rfl, -⟩ := Prod.mk.inj h
        exact ⟨rfl, ⟨hf.1, fun j hj => fit_at hf.2 j hj _, hok, rfl⟩, hl⟩
    · rw [cput_unfit hk hf] at h; simp at h
theorem cget_of_cput {K : List UInt8} {L : List Fd} {B : List UInt8} (hok : ∀ f ∈ L, f.ok ∧ f.s.size < 18446744073709551616) (h : cput K L = (B, 0)) : cget K B = (L, 0) := by
  obtain ⟨hk, hg, hl⟩ := cput_good hok h
  exact cget_some hk (by omega) (takeR_whole K L B (kinds_letters hk) hg)
theorem cget_cases (K B : List UInt8) : (∃ L, cget K B = (L, 0) ∧ cput K L = (B, 0) ∧ GoodR K L B ∧ kindsB K = true) ∨ (∃ q, cget K B = ([], q) ∧ (q == 0) = false) := by
  cases hk : kindsB K with
  | false => exact .inr ⟨2, cget_kinds hk, rfl⟩
  | true =>
    rcases Nat.lt_or_ge 8192 B.length with hl | hl
    · exact .inr ⟨3, cget_long hk hl, rfl⟩
    · cases ht : takeR K B with
      | none => exact .inr ⟨5, cget_none hk (by omega) ht, rfl⟩
      | some L =>
        have hg := takeR_sound K B L (kinds_letters hk) (by omega) ht
        refine .inl ⟨L, cget_some hk (by omega) ht, ?_, hg, rfl⟩
        rw [cput_ok hk hg.len (fitB_good hk hg) (by rw [hg.enc]; exact hl), hg.enc]
end Go.Proofs.Ytialjglgkfcdmaa.Or
