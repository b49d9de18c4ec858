/- Package row: what is read of sectors, sheaf by sheaf; the mathematics. -/
import Derived.Test.YtnfjgmdpokpbbaaDoorRgA
import Derived.Test.YtnfjgmdpokpbbaaDoorDvMath
namespace Go.Proofs.YtnfjgmdpokpbbaaDoor.Rk
open Sf
abbrev Sec := List UInt8
/-- What was read. -/
structure Ld where
  T : List (List UInt8)
  first : Nat
  last : Nat
  e : Nat
def Ld.zero : Ld := ⟨[], 0, 0, 0⟩
def Ld.took (s : Ld) (n : Nat) (t : List UInt8) (k : Nat) : Ld := ⟨s.T ++ [t], if s.T.length = 0 then n else s.first, n, s.e + k⟩
def step (L : List Sec) (s : Ld) : Option Ld := match pget (L.drop s.e) with
  | some (n, t, k) => if n ≤ s.last then none else some (s.took n t k)
  | none => none
inductive Reads (L : List Sec) : Ld → Prop
  | nil : Reads L Ld.zero
  | more {a b : Ld} : Reads L a → step L a = some b → Reads L b
inductive Chain (L : List Sec) : Ld → Ld → Prop
  | refl (a : Ld) : Chain L a a
  | head {a b c : Ld} : step L a = some b → Chain L b c → Chain L a c
theorem Chain.snoc {L : List Sec} {a b c : Ld} (h : Chain L a b) (h2 : step L b = some c) : Chain L a c := by
  induction h with
  | refl a => exact .head h2 (.refl _)
  | head h1 _ ih => exact .head h1 (ih h2)
theorem Reads.chain {L : List Sec} {a : Ld} (h : Reads L a) : Chain L Ld.zero a := by
  induction h with
  | nil => exact .refl _
  | more _ h2 ih => exact ih.snoc h2
/-- All that can be read. -/
structure Loaded (L : List Sec) (s : Ld) : Prop where
  r : Reads L s
  stop : step L s = none
theorem Loaded.from {L : List Sec} {a z : Ld} (h : Reads L a) (hz : Loaded L z) : Chain L a z := by
  induction h with
  | nil => exact hz.r.chain
  | more h1 h2 ih =>
    cases ih with
    | refl => rw [hz.stop] at h2; cases h2
    | head h3 h4 => rw [h3] at h2; cases h2; exact h4
theorem Loaded.one {L : List Sec} {a z : Ld} (h : Loaded L a) (hz : Loaded L z) : a = z := by
  cases Loaded.from h.r hz with
  | refl => rfl
  | head h3 _ => rw [h.stop] at h3; cases h3
theorem step_some {L : List Sec} {a b : Ld} (h : step L a = some b) : ∃ n t k, Is (L.drop a.e) n t k ∧ a.last < n ∧ b = a.took n t k := by
  unfold step at h
  split at h
  · rename_i n t k hg
    by_cases hl : n ≤ a.last
    · rw [if_pos hl] at h; cases h
    · rw [if_neg hl] at h; cases h; exact ⟨n, t, k, is_of_pget hg, by omega, rfl⟩
  · cases h
theorem step_of {L : List Sec} {a : Ld} {n k : Nat} {t : List UInt8} (h : Is (L.drop a.e) n t k) (hl : a.last < n) : step L a = some (a.took n t k) := by
  unfold step
  rw [pget_of_is h]
  exact if_neg (by omega)
theorem step_none {L : List Sec} {a : Ld} (h : ∀ n t k, Is (L.drop a.e) n t k → n ≤ a.last) : step L a = none := by
  cases hs : step L a with
  | none => rfl
  | some b =>
    obtain ⟨n, t, k, h1, h2, _⟩ := step_some hs
    have := h n t k h1
    omega
theorem step_stop {L : List Sec} {a : Ld} (h : step L a = none) {n k : Nat} {t : List UInt8} (hi : Is (L.drop a.e) n t k) : n ≤ a.last := by
  rcases Nat.lt_or_ge a.last n with hl | hl
  · rw [step_of hi hl] at h; cases h
  · exact hl
theorem is_pos {L : List Sec} {n k : Nat} {t : List UInt8} (h : Is L n t k) : 1 ≤ k := by rw [h.kk]; exact many_pos _
/-- The first sector of a sheaf. -/
theorem Is.at0 {L : List Sec} {n k e : Nat} {t : List UInt8} (h : Is (L.drop e) n t k) : ∃ he : e < L.length, Lf.headOf L[e] = n ∧ L[e].length = 64 ∧ (Lf.ends L[e]).1 = n := by
  have hp := is_pos h
  have hl := h.le
  rw [List.length_drop] at hl
  have he : e < L.length := by omega
  have hm : L[e] ∈ sheaf n t := by
    rw [← h.eq, List.mem_take_iff_getElem]
    exact ⟨0, by simp; omega, by simp⟩
  obtain ⟨h1, h2, h3⟩ := sheaf_leaf h.nl hm
  exact ⟨he, h2, h1, by unfold Lf.ends; rw [if_pos h1]; exact h2⟩
theorem top_mem {L : List Sec} {x : Sec} (h : x ∈ L) : (Lf.ends x).1 ≤ top L := (top_ge L 0).2 x h
theorem Is.top {L : List Sec} {n k e : Nat} {t : List UInt8} (h : Is (L.drop e) n t k) : n ≤ top L := by
  obtain ⟨he, _, _, h3⟩ := Is.at0 h
  rw [← h3]
  exact top_mem (List.getElem_mem he)
/-- What holds of all that was read. -/
structure Fine (L : List Sec) (s : Ld) : Prop where
  le : s.e ≤ L.length
  tl : s.T.length ≤ s.e
  last : s.last ≤ top L
  t : ∀ t ∈ s.T, t.length ≤ 98304
  z : s.T.length = 0 → s = Ld.zero
  f : s.first ≤ s.last
  l64 : s.last < 18446744073709551616
  f1 : s.T.length ≠ 0 → ∃ h : 0 < L.length, Lf.headOf (L[0]) = s.first ∧ L[0].length = 64
theorem Reads.fine {L : List Sec} {s : Ld} (h : Reads L s) : Fine L s := by
  induction h with
  | nil => exact ⟨Nat.zero_le _, Nat.le_refl _, Nat.zero_le _, fun t ht => (by cases ht), fun _ => rfl, Nat.le_refl _, (by decide), fun h => absurd rfl h⟩
  | more h1 h2 ih =>
    rename_i a b
    obtain ⟨n, t, k, hi, hl, rfl⟩ := step_some h2
    have hp := is_pos hi
    have hle := hi.le
    rw [List.length_drop] at hle
    have h3 := ih.le
    have h4 := ih.tl
    have h5 := ih.f
    refine ⟨by show a.e + k ≤ _; omega, by show (a.T ++ [t]).length ≤ a.e + k; simp; omega, Is.top hi, ?_, fun h => ?_, ?_, hi.nl, fun _ => ?_⟩
    · intro u hu
      rcases List.mem_append.1 hu with hu | hu
      · exact ih.t u hu
      · simp at hu; subst hu; exact hi.sl
    · have : (a.T ++ [t]).length = 0 := h
      simp at this
    · show (if a.T.length = 0 then n else a.first) ≤ n
      split <;> omega
    · show ∃ h : 0 < L.length, Lf.headOf (L[0]) = (if a.T.length = 0 then n else a.first) ∧ L[0].length = 64
      by_cases h0 : a.T.length = 0
      · have := ih.z h0
        subst this
        rw [if_pos h0]
        obtain ⟨he, h6, h7, _⟩ := Is.at0 hi
        exact ⟨he, h6, h7⟩
      · rw [if_neg h0]; exact ih.f1 h0
theorem Chain.e {L : List Sec} {a b : Ld} (h : Chain L a b) : a.e ≤ b.e := by
  induction h with
  | refl => exact Nat.le_refl _
  | head h1 _ ih =>
    obtain ⟨n, t, k, _, _, rfl⟩ := step_some h1
    exact Nat.le_trans (Nat.le_add_right _ _) ih
/-- Sectors that begin alike. -/
theorem is_alike {L M : List Sec} {e E n k : Nat} {t : List UInt8} (hl : L.length = M.length) (hLM : ∀ i, i < E → L[i]? = M[i]?) (h : Is (L.drop e) n t k) (hE : e + k ≤ E) : Is (M.drop e) n t k := by
  refine ⟨h.n0, h.nl, h.sl, h.kk, by have := h.le; simp at this ⊢; omega, ?_⟩
  rw [← h.eq]
  apply List.ext_getElem?
  intro i
  by_cases hi : i < k
  · rw [List.getElem?_take_of_lt hi, List.getElem?_take_of_lt hi, List.getElem?_drop, List.getElem?_drop, hLM _ (by omega)]
  · rw [List.getElem?_eq_none (by simp; omega), List.getElem?_eq_none (by simp; omega)]
theorem Reads.alike {L M : List Sec} {s : Ld} {E : Nat} (hl : L.length = M.length) (hLM : ∀ i, i < E → L[i]? = M[i]?) (h : Reads L s) (hE : s.e ≤ E) : Reads M s := by
  induction h with
  | nil => exact .nil
  | more h1 h2 ih =>
    obtain ⟨n, t, k, hi, hlt, rfl⟩ := step_some h2
    have hE' : _ + k ≤ E := hE
    exact .more (ih (by omega)) (step_of (is_alike hl hLM hi hE') hlt)
/-- Sectors from one on replaced. -/
def placed (L : List Sec) (at' : Nat) (B : List Sec) : List Sec := L.take at' ++ (B ++ L.drop (at' + B.length))
theorem placed_len {L B : List Sec} {p : Nat} (h : p + B.length ≤ L.length) : (placed L p B).length = L.length := by unfold placed; simp; omega
theorem placed_lt {L B : List Sec} {p i : Nat} (h : p + B.length ≤ L.length) (hi : i < p) : (placed L p B)[i]? = L[i]? := by
  unfold placed
  rw [List.getElem?_append_left (by simp; omega), List.getElem?_take_of_lt hi]
theorem placed_mid {L B : List Sec} {p i : Nat} (h : p + B.length ≤ L.length) (hi : i < B.length) : (placed L p B)[p + i]? = B[i]? := by
  unfold placed
  rw [List.getElem?_append_right (by simp; omega), List.getElem?_append_left (by simp; omega)]
  congr 1; simp; omega
theorem placed_ge {L B : List Sec} {p i : Nat} (h : p + B.length ≤ L.length) (hi : p + B.length ≤ i) : (placed L p B)[i]? = L[i]? := by
  unfold placed
  rw [List.getElem?_append_right (by simp; omega), List.getElem?_append_right (by simp; omega), List.getElem?_drop]
  congr 1; simp; omega
theorem placed_drop {L B : List Sec} {p : Nat} (h : p + B.length ≤ L.length) : (placed L p B).drop p = B ++ L.drop (p + B.length) := by
  unfold placed
  rw [List.drop_left' (by simp; omega)]
theorem placed_is {L : List Sec} {p n : Nat} {t : List UInt8} (n0 : n ≠ 0) (nl : n < 18446744073709551616) (sl : t.length ≤ 98304) (h : p + many t.length ≤ L.length) : Is ((placed L p (sheaf n t)).drop p) n t (many t.length) := by
  rw [placed_drop (by rw [sheaf_len]; exact h)]
  exact is_put n t _ n0 nl sl
theorem top_le {L : List Sec} {m : Nat} (h : ∀ x ∈ L, (Lf.ends x).1 ≤ m) : top L ≤ m := by
  unfold top
  suffices ∀ (L : List Sec) (a : Nat), a ≤ m → (∀ x ∈ L, (Lf.ends x).1 ≤ m) → L.foldl (fun a x => max a (Lf.ends x).1) a ≤ m from this L 0 (Nat.zero_le _) h
  intro L
  induction L with
  | nil => intro a ha _; exact ha
  | cons x L ih => intro a ha h; exact ih _ (Nat.max_le.2 ⟨ha, h x List.mem_cons_self⟩) fun y hy => h y (List.mem_cons_of_mem _ hy)
theorem top_placed {L : List Sec} {p n : Nat} {t : List UInt8} (nl : n < 18446744073709551616) (ht : top L < n) : top (placed L p (sheaf n t)) = n := by
  have hs := sheaf_len n t
  have hB : ∀ x ∈ sheaf n t, (Lf.ends x).1 = n := fun x hx => by
    obtain ⟨h1, h2, _⟩ := sheaf_leaf nl hx
    unfold Lf.ends; rw [if_pos h1]; exact h2
  refine Nat.le_antisymm (top_le fun x hx => ?_) ?_
  · unfold placed at hx
    rcases List.mem_append.1 hx with hx | hx
    · exact Nat.le_of_lt (Nat.lt_of_le_of_lt (top_mem (List.mem_of_mem_take hx)) ht)
    · rcases List.mem_append.1 hx with hx | hx
      · rw [hB x hx]; exact Nat.le_refl _
      · exact Nat.le_of_lt (Nat.lt_of_le_of_lt (top_mem (List.mem_of_mem_drop hx)) ht)
  · have hp : 0 < (sheaf n t).length := by rw [hs]; exact many_pos _
    have hm : (sheaf n t)[0] ∈ placed L p (sheaf n t) := by
      unfold placed
      exact List.mem_append_right _ (List.mem_append_left _ (List.getElem_mem hp))
    have := top_mem hm
    rwa [hB _ (List.getElem_mem hp)] at this
/-- What was left behind has lesser stamps. -/
theorem stop_behind {L : List Sec} {p n : Nat} {t : List UInt8} {a : Ld} (ht : top L < n) (h : p + many t.length ≤ L.length) (he : a.e = p + many t.length) (hl : a.last = n) : step (placed L p (sheaf n t)) a = none := by
  have hs := sheaf_len n t
  refine step_none fun m u k hi => ?_
  rw [he] at hi
  obtain ⟨h1, _, _, h4⟩ := Is.at0 hi
  have h5 := placed_ge (L := L) (B := sheaf n t) (p := p) (i := p + many t.length) (by rw [hs]; exact h) (by rw [hs]; exact Nat.le_refl _)
  rw [List.getElem?_eq_getElem h1] at h5
  have := top_mem (List.mem_of_getElem? h5.symm)
  rw [h4] at this
  omega
/-- One more sheaf. -/
theorem loaded_add {L : List Sec} {s : Ld} {n : Nat} {t : List UInt8} (hL : Loaded L s) (nl : n < 18446744073709551616) (sl : t.length ≤ 98304) (ht : top L < n) (h : s.e + many t.length ≤ L.length) :
    Loaded (placed L s.e (sheaf n t)) (s.took n t (many t.length)) := by
  have hs := sheaf_len n t
  have hf := hL.r.fine
  have hpl := placed_len (L := L) (B := sheaf n t) (p := s.e) (by rw [hs]; exact h)
  refine ⟨.more (hL.r.alike hpl.symm (fun i hi => (placed_lt (by rw [hs]; exact h) hi).symm) (Nat.le_refl _)) (step_of (placed_is (by omega) nl sl h) (by have := hf.last; omega)), stop_behind ht h rfl rfl⟩
/-- A beginning. -/
theorem loaded_begin {L : List Sec} {n : Nat} {t : List UInt8} (nl : n < 18446744073709551616) (sl : t.length ≤ 98304) (ht : top L < n) (h : many t.length ≤ L.length) :
    Loaded (placed L 0 (sheaf n t)) (Ld.zero.took n t (many t.length)) :=
  ⟨.more .nil (step_of (a := Ld.zero) (placed_is (p := 0) (show n ≠ 0 by omega) nl sl (show 0 + many t.length ≤ L.length by omega)) (show 0 < n by omega)), stop_behind (p := 0) ht (show 0 + many t.length ≤ L.length by omega) rfl rfl⟩
theorem loaded_zero (n : Nat) : Loaded (List.replicate n (List.replicate 64 0)) Ld.zero := by
  refine ⟨.nil, step_none fun m u k hi => ?_⟩
  obtain ⟨h1, h2, _, _⟩ := Is.at0 hi
  have h3 := hi.n0
  rw [List.getElem_replicate] at h2
  have : Lf.headOf (List.replicate 64 0) = 0 := by decide
  omega
end Go.Proofs.YtnfjgmdpokpbbaaDoor.Rk
