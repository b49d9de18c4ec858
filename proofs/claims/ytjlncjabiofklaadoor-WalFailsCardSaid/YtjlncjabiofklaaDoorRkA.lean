/- Joined: RkMath RkFail. -/
import Derived.Test.YtjlncjabiofklaaDoorRgA
import Derived.Test.YtjlncjabiofklaaDoorDjA
section
namespace Go.Proofs.YtjlncjabiofklaaDoor.Rk
open Sf
abbrev Sec := List UInt8
/-- What was read. -/
structure Ld where
  T : List (List UInt8)
  first : Nat
  last : Nat
  e : Nat
def Ld.zero : Ld := ⟨[], 0, 0, 0⟩
def Ld.took (s : Ld) (n : Nat) (t : List UInt8) (k : Nat) : Ld := ⟨s.T ++ [t], if s.T.length = 0 then n else s.first, n, s.e + k⟩
def step (L : List Sec) (s : Ld) : Option Ld := match pget (L.drop s.e) with
  | some (n, t, k) => if n ≤ s.last then none else some (s.took n t k)
  | none => none
inductive Reads (L : List Sec) : Ld → Prop
  | nil : Reads L Ld.zero
  | more {a b : Ld} : Reads L a → step L a = some b → Reads L b
inductive Chain (L : List Sec) : Ld → Ld → Prop
  | refl (a : Ld) : Chain L a a
  | head {a b c : Ld} : step L a = some b → Chain L b c → Chain L a c
theorem Chain.snoc {L : List Sec} {a b c : Ld} (h : Chain L a b) (h2 : step L b = some c) : Chain L a c := by
  induction h with
  | refl a => exact .head h2 (.refl _)
  | head h1 _ ih => exact .head h1 (ih h2)
theorem Reads.chain {L : List Sec} {a : Ld} (h : Reads L a) : Chain L Ld.zero a := by
  induction h with
  | nil => exact .refl _
  | more _ h2 ih => exact ih.snoc h2
/-- All that can be read. -/
structure Loaded (L : List Sec) (s : Ld) : Prop where
  r : Reads L s
  stop : step L s = none
theorem Loaded.from {L : List Sec} {a z : Ld} (h : Reads L a) (hz : Loaded L z) : Chain L a z := by
  induction h with
  | nil => exact hz.r.chain
  | more h1 h2 ih =>
    cases ih with
    | refl => rw [hz.stop] at h2; cases h2
    | head h3 h4 => rw [h3] at h2; cases h2; exact h4
theorem Loaded.one {L : List Sec} {a z : Ld} (h : Loaded L a) (hz : Loaded L z) : a = z := by
  cases Loaded.from h.r hz with
  | refl => rfl
  | head h3 _ => rw [h.stop] at h3; cases h3
theorem step_some {L : List Sec} {a b : Ld} (h : step L a = some b) : ∃ n t k, Is (L.drop a.e) n t k ∧ a.last < n ∧ b = a.took n t k := by
  unfold step at h
  split at h
  · rename_i n t k hg
    by_cases hl : n ≤ a.last
    · rw [if_pos hl] at h; cases h
    · rw [if_neg hl] at h; cases h; exact ⟨n, t, k, is_of_pget hg, by omega, rfl⟩
  · cases h
theorem step_of {L : List Sec} {a : Ld} {n k : Nat} {t : List UInt8} (h : Is (L.drop a.e) n t k) (hl : a.last < n) : step L a = some (a.took n t k) := by
  unfold step
  rw [pget_of_is h]
  exact if_neg (by omega)
theorem step_none {L : List Sec} {a : Ld} (h : ∀ n t k, Is (L.drop a.e) n t k → n ≤ a.last) : step L a = none := by
  cases hs : step L a with
  | none => rfl
  | some b =>
    obtain ⟨n, t, k, h1, h2, _⟩ := step_some hs
    have := h n t k h1
    omega
theorem step_stop {L : List Sec} {a : Ld} (h : step L a = none) {n k : Nat} {t : List UInt8} (hi : Is (L.drop a.e) n t k) : n ≤ a.last := by
  rcases Nat.lt_or_ge a.last n with hl | hl
  · rw [step_of hi hl] at h; cases h
  · exact hl
theorem is_pos {L : List Sec} {n k : Nat} {t : List UInt8} (h : Is L n t k) : 1 ≤ k := by rw [h.kk]; exact many_pos _
/-- The first sector of a sheaf. -/
theorem Is.at0 {L : List Sec} {n k e : Nat} {t : List UInt8} (h : Is (L.drop e) n t k) : ∃ he : e < L.length, Lf.headOf L[e] = n ∧ L[e].length = 64 ∧ (Lf.ends L[e]).1 = n := by
  have hp := is_pos h
  have hl := h.le
  rw [List.length_drop] at hl
  have he : e < L.length := by omega
  have hm : L[e] ∈ sheaf n t := by
    rw [← h.eq, List.mem_take_iff_getElem]
    exact ⟨0, by simp; omega, by simp⟩
  obtain ⟨h1, h2, h3⟩ := sheaf_leaf h.nl hm
  exact ⟨he, h2, h1, by unfold Lf.ends; rw [if_pos h1]; exact h2⟩
theorem top_mem {L : List Sec} {x : Sec} (h : x ∈ L) : (Lf.ends x).1 ≤ top L := (top_ge L 0).2 x h
theorem Is.top {L : List Sec} {n k e : Nat} {t : List UInt8} (h : Is (L.drop e) n t k) : n ≤ top L := by
  obtain ⟨he, _, _, h3⟩ := Is.at0 h
  rw [← h3]
  exact top_mem (List.getElem_mem he)
/-- What holds of all that was read. -/
structure Fine (L : List Sec) (s : Ld) : Prop where
  le : s.e ≤ L.length
  tl : s.T.length ≤ s.e
  last : s.last ≤ top L
  t : ∀ t ∈ s.T, t.length ≤ 98304
  z : s.T.length = 0 → s = Ld.zero
  f : s.first ≤ s.last
  l64 : s.last < 18446744073709551616
  f1 : s.T.length ≠ 0 → ∃ h : 0 < L.length, Lf.headOf (L[0]) = s.first ∧ L[0].length = 64
theorem Reads.fine {L : List Sec} {s : Ld} (h : Reads L s) : Fine L s := by
  induction h with
  | nil => exact ⟨Nat.zero_le _, Nat.le_refl _, Nat.zero_le _, fun t ht => (by cases ht), fun _ => rfl, Nat.le_refl _, (by decide), fun h => absurd rfl h⟩
  | more h1 h2 ih =>
    rename_i a b
    obtain ⟨n, t, k, hi, hl, rfl⟩ := step_some h2
    have hp := is_pos hi
    have hle := hi.le
    rw [List.length_drop] at hle
    have h3 := ih.le
    have h4 := ih.tl
    have h5 := ih.f
    refine ⟨by show a.e + k ≤ _; omega, by show (a.T ++ [t]).length ≤ a.e + k; simp; omega, Is.top hi, ?_, fun h => ?_, ?_, hi.nl, fun _ => ?_⟩
    · intro u hu
      rcases List.mem_append.1 hu with hu | hu
      · exact ih.t u hu
      · simp at hu; subst hu; exact hi.sl
    · have : (a.T ++ [t]).length = 0 := h
      simp at this
    · show (if a.T.length = 0 then n else a.first) ≤ n
      split <;> omega
    · show ∃ h : 0 < L.length, Lf.headOf (L[0]) = (if a.T.length = 0 then n else a.first) ∧ L[0].length = 64
      by_cases h0 : a.T.length = 0
      · have := ih.z h0
        subst this
        rw [if_pos h0]
        obtain ⟨he, h6, h7, _⟩ := Is.at0 hi
        exact ⟨he, h6, h7⟩
      · rw [if_neg h0]; exact ih.f1 h0
theorem Chain.e {L : List Sec} {a b : Ld} (h : Chain L a b) : a.e ≤ b.e := by
  induction h with
  | refl => exact Nat.le_refl _
  | head h1 _ ih =>
    obtain ⟨n, t, k, _, _, rfl⟩ := step_some h1
    exact Nat.le_trans (Nat.le_add_right _ _) ih
/-- Sectors that begin alike. -/
theorem is_alike {L M : List Sec} {e E n k : Nat} {t : List UInt8} (hl : L.length = M.length) (hLM : ∀ i, i < E → L[i]? = M[i]?) (h : Is (L.drop e) n t k) (hE : e + k ≤ E) : Is (M.drop e) n t k := by
  refine ⟨h.n0, h.nl, h.sl, h.kk, by have := h.le; simp at this ⊢; omega, ?_⟩
  rw [← h.eq]
  apply List.ext_getElem?
  intro i
  by_cases hi : i < k
  · rw [List.getElem?_take_of_lt hi, List.getElem?_take_of_lt hi, List.getElem?_drop, List.getElem?_drop, hLM _ (by omega)]
  · rw [List.getElem?_eq_none (by simp; omega), List.getElem?_eq_none (by simp; omega)]
theorem Reads.alike {L M : List Sec} {s : Ld} {E : Nat} (hl : L.length = M.length) (hLM : ∀ i, i < E → L[i]? = M[i]?) (h : Reads L s) (hE : s.e ≤ E) : Reads M s := by
  induction h with
  | nil => exact .nil
  | more h1 h2 ih =>
    obtain ⟨n, t, k, hi, hlt, rfl⟩ := step_some h2
    have hE' : _ + k ≤ E := hE
    exact .more (ih (by omega)) (step_of (is_alike hl hLM hi hE') hlt)
/-- Sectors from one on replaced. -/
def placed (L : List Sec) (at' : Nat) (B : List Sec) : List Sec := L.take at' ++ (B ++ L.drop (at' + B.length))
theorem placed_len {L B : List Sec} {p : Nat} (h : p + B.length ≤ L.length) : (placed L p B).length = L.length := by unfold placed; simp; omega
theorem placed_lt {L B : List Sec} {p i : Nat} (h : p + B.length ≤ L.length) (hi : i < p) : (placed L p B)[i]? = L[i]? := by
  unfold placed
  rw [List.getElem?_append_left (by simp; omega), List.getElem?_take_of_lt hi]
theorem placed_mid {L B : List Sec} {p i : Nat} (h : p + B.length ≤ L.length) (hi : i < B.length) : (placed L p B)[p + i]? = B[i]? := by
  unfold placed
  rw [List.getElem?_append_right (by simp; omega), List.getElem?_append_left (by simp; omega)]
  congr 1; simp; omega
theorem placed_ge {L B : List Sec} {p i : Nat} (h : p + B.length ≤ L.length) (hi : p + B.length ≤ i) : (placed L p B)[i]? = L[i]? := by
  unfold placed
  rw [List.getElem?_append_right (by simp; omega), List.getElem?_append_right (by simp; omega), List.getElem?_drop]
  congr 1; simp; omega
theorem placed_drop {L B : List Sec} {p : Nat} (h : p + B.length ≤ L.length) : (placed L p B).drop p = B ++ L.drop (p + B.length) := by
  unfold placed
  rw [List.drop_left' (by simp; omega)]
theorem placed_is {L : List Sec} {p n : Nat} {t : List UInt8} (n0 : n ≠ 0) (nl : n < 18446744073709551616) (sl : t.length ≤ 98304) (h : p + many t.length ≤ L.length) : Is ((placed L p (sheaf n t)).drop p) n t (many t.length) := by
  rw [placed_drop (by rw [sheaf_len]; exact h)]
  exact is_put n t _ n0 nl sl
theorem top_le {L : List Sec} {m : Nat} (h : ∀ x ∈ L, (Lf.ends x).1 ≤ m) : top L ≤ m := by
  unfold top
  suffices ∀ (L : List Sec) (a : Nat), a ≤ m → (∀ x ∈ L, (Lf.ends x).1 ≤ m) → L.foldl (fun a x => max a (Lf.ends x).1) a ≤ m from this L 0 (Nat.zero_le _) h
  intro L
  induction L with
  | nil => intro a ha _; exact ha
  | cons x L ih => intro a ha h; exact ih _ (Nat.max_le.2 ⟨ha, h x List.mem_cons_self⟩) fun y hy => h y (List.mem_cons_of_mem _ hy)
theorem top_placed {L : List Sec} {p n : Nat} {t : List UInt8} (nl : n < 18446744073709551616) (ht : top L < n) : top (placed L p (sheaf n t)) = n := by
  have hs := sheaf_len n t
  have hB : ∀ x ∈ sheaf n t, (Lf.ends x).1 = n := fun x hx => by
    obtain ⟨h1, h2, _⟩ := sheaf_leaf nl hx
    unfold Lf.ends; rw [if_pos h1]; exact h2
  refine Nat.le_antisymm (top_le fun x hx => ?_) ?_
  · unfold placed at hx
    rcases List.mem_append.1 hx with hx | hx
    · exact Nat.le_of_lt (Nat.lt_of_le_of_lt (top_mem (List.mem_of_mem_take hx)) ht)
    · rcases List.mem_append.1 hx with hx | hx
      · rw [hB x hx]; exact Nat.le_refl _
      · exact Nat.le_of_lt (Nat.lt_of_le_of_lt (top_mem (List.mem_of_mem_drop hx)) ht)
  · have hp : 0 < (sheaf n t).length := by rw [hs]; exact many_pos _
    have hm : (sheaf n t)[0] ∈ placed L p (sheaf n t) := by
      unfold placed
      exact List.mem_append_right _ (List.mem_append_left _ (List.getElem_mem hp))
    have := top_mem hm
    rwa [hB _ (List.getElem_mem hp)] at this
/-- What was left behind has lesser stamps. -/
theorem stop_behind {L : List Sec} {p n : Nat} {t : List UInt8} {a : Ld} (ht : top L < n) (h : p + many t.length ≤ L.length) (he : a.e = p + many t.length) (hl : a.last = n) : step (placed L p (sheaf n t)) a = none := by
  have hs := sheaf_len n t
  refine step_none fun m u k hi => ?_
  rw [he] at hi
  obtain ⟨h1, _, _, h4⟩ := Is.at0 hi
  have h5 := placed_ge (L := L) (B := sheaf n t) (p := p) (i := p + many t.length) (by rw [hs]; exact h) (by rw [hs]; exact Nat.le_refl _)
  rw [List.getElem?_eq_getElem h1] at h5
  have := top_mem (List.mem_of_getElem? h5.symm)
  rw [h4] at this
  omega
/-- One more sheaf. -/
theorem loaded_add {L : List Sec} {s : Ld} {n : Nat} {t : List UInt8} (hL : Loaded L s) (nl : n < 18446744073709551616) (sl : t.length ≤ 98304) (ht : top L < n) (h : s.e + many t.length ≤ L.length) :
    Loaded (placed L s.e (sheaf n t)) (s.took n t (many t.length)) := by
  have hs := sheaf_len n t
  have hf := hL.r.fine
  have hpl := placed_len (L := L) (B := sheaf n t) (p := s.e) (by rw [hs]; exact h)
  refine ⟨.more (hL.r.alike hpl.symm (fun i hi => (placed_lt (by rw [hs]; exact h) hi).symm) (Nat.le_refl _)) (step_of (placed_is (by omega) nl sl h) (by have := hf.last; omega)), stop_behind ht h rfl rfl⟩
/-- A beginning. -/
theorem loaded_begin {L : List Sec} {n : Nat} {t : List UInt8} (nl : n < 18446744073709551616) (sl : t.length ≤ 98304) (ht : top L < n) (h : many t.length ≤ L.length) :
    Loaded (placed L 0 (sheaf n t)) (Ld.zero.took n t (many t.length)) :=
  ⟨.more .nil (step_of (a := Ld.zero) (placed_is (p := 0) (show n ≠ 0 by omega) nl sl (show 0 + many t.length ≤ L.length by omega)) (show 0 < n by omega)), stop_behind (p := 0) ht (show 0 + many t.length ≤ L.length by omega) rfl rfl⟩
theorem loaded_zero (n : Nat) : Loaded (List.replicate n (List.replicate 64 0)) Ld.zero := by
  refine ⟨.nil, step_none fun m u k hi => ?_⟩
  obtain ⟨h1, h2, _, _⟩ := Is.at0 hi
  have h3 := hi.n0
  rw [List.getElem_replicate] at h2
  have : Lf.headOf (List.replicate 64 0) = 0 := by decide
  omega
end Go.Proofs.YtjlncjabiofklaaDoor.Rk
end
section
namespace Go.Proofs.YtjlncjabiofklaaDoor.Rk
open Sf Lf
/-- Sectors as they may be: the foot's number is at most the head's. -/
def Fs (L : List Sec) : Prop := ∀ x ∈ L, x.length = 64 ∧ footOf x ≤ headOf x
/-- A part of all sectors. -/
def seg (V : List Sec) (f n : Nat) : List Sec := (V.drop f).take n
theorem seg_get {V : List Sec} {f n i : Nat} (h : i < n) : (seg V f n)[i]? = V[f + i]? := by
  unfold seg
  rw [List.getElem?_take_of_lt h, List.getElem?_drop]
theorem seg_len {V : List Sec} {f n : Nat} (h : f + n ≤ V.length) : (seg V f n).length = n := by unfold seg; simp; omega
theorem seg_none {V : List Sec} {f n i : Nat} (h : n ≤ i) : (seg V f n)[i]? = none := List.getElem?_eq_none (by unfold seg; simp; omega)
/-- Writes from a sector on. -/
def ws : Nat → List Sec → List (Nat × Sec)
  | _, [] => []
  | p, b :: B => (p, b) :: ws (p + 1) B
theorem ws_len (B : List Sec) : ∀ p, (ws p B).length = B.length := by
  induction B with
  | nil => intro p; rfl
  | cons b B ih => intro p; simp [ws, ih]
theorem ws_snoc (B : List Sec) (b : Sec) : ∀ p, ws p (B ++ [b]) = ws p B ++ [(p + B.length, b)] := by
  induction B with
  | nil => intro p; rfl
  | cons c B ih => intro p; simp [ws, ih]; omega
theorem ws_mem {B : List Sec} {q : Nat × Sec} : ∀ {p}, q ∈ ws p B → p ≤ q.1 ∧ q.1 < p + B.length ∧ q.2 ∈ B := by
  induction B with
  | nil => intro p h; cases h
  | cons b B ih =>
    intro p h
    rcases List.mem_cons.1 h with rfl | h
    · exact ⟨Nat.le_refl _, by simp, List.mem_cons_self⟩
    · obtain ⟨h1, h2, h3⟩ := ih h
      exact ⟨by omega, by simp; omega, List.mem_cons_of_mem _ h3⟩
/-- Some sectors under beginnings of others. -/
structure TornBy (D : List Sec) (p : Nat) (B C : List Sec) : Prop where
  len : C.length = D.length
  mid : ∀ j b d, B[j]? = some b → D[p + j]? = some d → ∃ k, k ≤ 64 ∧ C[p + j]? = some (torn b d k)
  out : ∀ i, i < p ∨ p + B.length ≤ i → C[i]? = D[i]?
theorem torn_0 (x b : Sec) : torn x b 0 = b := by simp [torn]
theorem TornBy.more {D B C : List Sec} {p m : Nat} (h : TornBy D p (B.take m) C) : TornBy D p B C := by
  refine ⟨h.len, fun j b d hb hd => ?_, fun i hi => h.out i (hi.imp id fun hi => by simp; omega)⟩
  by_cases hj : j < m
  · exact h.mid j b d (by rw [List.getElem?_take_of_lt hj]; exact hb) hd
  · refine ⟨0, by omega, ?_⟩
    rw [torn_0, h.out _ (.inr (by simp; omega)), hd]
theorem crash_get (c : Dv.Cr) (B : List Sec) : ∀ (p i : Nat) (D : List Sec) (q : Nat), q < D.length → (Dv.crashTo c (ws p B) i D)[q]? = some (if h : p ≤ q ∧ q < p + B.length then torn (B[q - p]'(by omega)) (D.getD q []) (c.cut (i + (q - p))) else D.getD q []) := by
  induction B with
  | nil =>
    intro p i D q hq
    rw [dif_neg (by simp)]
    simp [ws, Dv.crashTo, hq, List.getD]
  | cons b B ih =>
    intro p i D q hq
    show (Dv.crashTo c (ws (p + 1) B) (i + 1) (D.set p (torn b (D.getD p []) (c.cut i))))[q]? = _
    rw [ih _ _ _ _ (by simpa using hq)]
    congr 1
    by_cases hp : q = p
    · subst hp
      rw [dif_neg (by omega), dif_pos ⟨Nat.le_refl _, by simp⟩]
      simp [List.getD, hq]
    · have e : (D.set p (torn b (D.getD p []) (c.cut i))).getD q [] = D.getD q [] := by simp [List.getD, List.getElem?_set_ne (Ne.symm hp)]
      rw [e]
      by_cases h : p ≤ q ∧ q < p + (b :: B).length
      · have h' : p + 1 ≤ q ∧ q < p + 1 + B.length := ⟨by omega, by have := h.2; simp at this; omega⟩
        rw [dif_pos h', dif_pos h]
        have e2 : (b :: B)[q - p]'(by omega) = B[q - (p + 1)]'(by omega) := by
          have : q - p = (q - (p + 1)) + 1 := by omega
          simp [this]
        rw [e2, show i + 1 + (q - (p + 1)) = i + (q - p) by omega]
      · have h' : ¬ (p + 1 ≤ q ∧ q < p + 1 + B.length) := fun h' => h ⟨by omega, by simp; omega⟩
        rw [dif_neg h', dif_neg h]
theorem crash_in (c : Dv.Cr) (B : List Sec) (f n p i : Nat) (D : List Sec) (hf : f + n ≤ D.length) (hp : p + B.length ≤ n) : TornBy (seg D f n) p B (seg (Dv.crashTo c (ws (f + p) B) i D) f n) := by
  have hl : (Dv.crashTo c (ws (f + p) B) i D).length = D.length := Dv.crashTo_len _ _ _ _
  refine ⟨by rw [seg_len hf, seg_len (by rw [hl]; exact hf)], fun j b d hb hd => ?_, fun q hq => ?_⟩
  · have hj := (List.getElem?_eq_some_iff.1 hb).1
    rw [seg_get (by omega)] at hd ⊢
    rw [crash_get _ _ _ _ _ _ (by omega), dif_pos ⟨by omega, by omega⟩]
    refine ⟨c.cut (i + (f + (p + j) - (f + p))), c.cut_le _, ?_⟩
    have e1 : (f + (p + j)) - (f + p) = j := by omega
    have e2 : D.getD (f + (p + j)) [] = d := by rw [List.getD_eq_getElem?_getD, hd]; rfl
    have e3 : B[(f + (p + j)) - (f + p)]'(by omega) = b := by
      have := (List.getElem?_eq_some_iff.1 hb).2
      simpa [e1] using this
    rw [e2, e3]
  · by_cases hqn : q < n
    · rw [seg_get hqn, seg_get hqn, crash_get _ _ _ _ _ _ (by omega), dif_neg (by omega)]
      simp [List.getD, show f + q < D.length by omega]
    · rw [seg_none (by omega), seg_none (by omega)]
theorem crash_app (c : Dv.Cr) (P Q : List (Nat × Sec)) : ∀ (i : Nat) (D : List Sec), Dv.crashTo c (P ++ Q) i D = Dv.crashTo c Q (i + P.length) (Dv.crashTo c P i D) := by
  induction P with
  | nil => intro i D; rfl
  | cons p P ih =>
    intro i D
    show Dv.crashTo c (P ++ Q) (i + 1) _ = _
    rw [ih]
    simp only [List.length_cons]
    rw [show i + 1 + P.length = i + (P.length + 1) by omega]
    rfl
theorem puts_get (B : List Sec) : ∀ (p : Nat) (D : List Sec) (q : Nat), q < D.length → (Dv.puts (ws p B) D)[q]? = some (if h : p ≤ q ∧ q < p + B.length then B[q - p]'(by omega) else D.getD q []) := by
  induction B with
  | nil =>
    intro p D q hq
    rw [dif_neg (by simp)]
    simp [ws, Dv.puts, hq, List.getD]
  | cons b B ih =>
    intro p D q hq
    show (Dv.puts (ws (p + 1) B) (D.set p b))[q]? = _
    rw [ih _ _ _ (by simpa using hq)]
    congr 1
    by_cases hp : q = p
    · subst hp
      rw [dif_neg (by omega), dif_pos ⟨Nat.le_refl _, by simp⟩]
      simp [List.getD, hq]
    · have e : (D.set p b).getD q [] = D.getD q [] := by simp [List.getD, List.getElem?_set_ne (Ne.symm hp)]
      rw [e]
      by_cases h : p ≤ q ∧ q < p + (b :: B).length
      · have h' : p + 1 ≤ q ∧ q < p + 1 + B.length := ⟨by omega, by have := h.2; simp at this; omega⟩
        rw [dif_pos h', dif_pos h]
        have : q - p = (q - (p + 1)) + 1 := by omega
        simp [this]
      · have h' : ¬ (p + 1 ≤ q ∧ q < p + 1 + B.length) := fun h' => h ⟨by omega, by simp; omega⟩
        rw [dif_neg h', dif_neg h]
theorem puts_app (P Q : List (Nat × Sec)) (D : List Sec) : Dv.puts (P ++ Q) D = Dv.puts Q (Dv.puts P D) := by simp [Dv.puts]
/-- All of them written. -/
theorem puts_in (B : List Sec) (f n p : Nat) (D : List Sec) (hf : f + n ≤ D.length) (hp : p + B.length ≤ n) : seg (Dv.puts (ws (f + p) B) D) f n = placed (seg D f n) p B := by
  have hl : (Dv.puts (ws (f + p) B) D).length = D.length := Dv.puts_len _ _
  have hs := seg_len hf
  apply List.ext_getElem?
  intro q
  by_cases hqn : q < n
  · rw [seg_get hqn, puts_get _ _ _ _ (by omega)]
    by_cases h1 : q < p
    · rw [placed_lt (by omega) h1, seg_get hqn, dif_neg (by omega)]
      simp [List.getD, show f + q < D.length by omega]
    · by_cases h2 : q < p + B.length
      · obtain ⟨j, rfl⟩ : ∃ j, q = p + j := ⟨q - p, by omega⟩
        rw [placed_mid (by omega) (by omega), dif_pos ⟨by omega, by omega⟩, List.getElem?_eq_getElem (by omega)]
        congr 1
        congr 1
        omega
      · rw [placed_ge (by omega) (by omega), seg_get hqn, dif_neg (by omega)]
        simp [List.getD, show f + q < D.length by omega]
  · rw [seg_none (by omega), List.getElem?_eq_none (by rw [placed_len (by omega), hs]; omega)]
/-- Other sectors stay. -/
theorem puts_out (B : List Sec) (p q : Nat) (D : List Sec) (h : q < p ∨ p + B.length ≤ q) : (Dv.puts (ws p B) D)[q]? = D[q]? := by
  by_cases hq : q < D.length
  · rw [puts_get _ _ _ _ hq, dif_neg (by omega)]
    simp [List.getD, hq]
  · rw [List.getElem?_eq_none (by rw [Dv.puts_len]; omega), List.getElem?_eq_none (by omega)]
/-- However the head is written over, it is not the foot's number but where it stays. -/
def Rise (h f M : Nat) : Prop := ∀ st, M < st → ∀ j, f ≤ over st h j ∧ (over st h j = f → h = f)
theorem rise_clean {h f M : Nat} (h1 : f ≤ h) (h2 : h ≤ M) : Rise h f M := fun st hst j => by
  have := over_ge st h j (by omega)
  exact ⟨by omega, fun e => by omega⟩
theorem over_div (a b j : Nat) : over a b j / 256 ^ j = a / 256 ^ j := by
  unfold over
  have hp : 0 < 256 ^ j := Nat.pow_pos (by omega)
  rw [Nat.mul_comm, Nat.mul_add_div hp, Nat.div_eq_of_lt (Nat.mod_lt _ hp), Nat.add_zero]
theorem over_mod (a b j : Nat) : over a b j % 256 ^ j = b % 256 ^ j := by
  unfold over
  rw [Nat.mul_comm, Nat.mul_add_mod]
  exact Nat.mod_mod _ _
theorem over_same {a b j : Nat} (h : a / 256 ^ j = b / 256 ^ j) : over a b j = b := by
  unfold over
  rw [h, Nat.mul_comm]
  exact Nat.div_add_mod _ _
theorem div_high {a b j i : Nat} (h : a / 256 ^ j = b / 256 ^ j) (hi : j ≤ i) : a / 256 ^ i = b / 256 ^ i := by
  obtain ⟨d, rfl⟩ : ∃ d, i = j + d := ⟨i - j, by omega⟩
  rw [Nat.pow_add, ← Nat.div_div_eq_div_mul, ← Nat.div_div_eq_div_mul, h]
theorem mod_low {a b j i : Nat} (h : a % 256 ^ j = b % 256 ^ j) (hi : i ≤ j) : a % 256 ^ i = b % 256 ^ i := by
  have hd : 256 ^ i ∣ 256 ^ j := Nat.pow_dvd_pow _ hi
  rw [← Nat.mod_mod_of_dvd a hd, ← Nat.mod_mod_of_dvd b hd, h]
theorem rise_over {h f M st0 j0 : Nat} (H : Rise h f M) (hf : f ≤ M) (h0 : M < st0) : Rise (over st0 h j0) f st0 := by
  intro st hst j
  obtain ⟨a1, a2⟩ := H st0 h0 j0
  by_cases hj : j ≤ j0
  · have e : over st (over st0 h j0) j = over st h j := by
      have := mod_low (over_mod st0 h j0) hj
      unfold over at this ⊢
      rw [this]
    rw [e]
    obtain ⟨b1, b2⟩ := H st (by omega) j
    refine ⟨b1, fun hq => ?_⟩
    have hh := b2 hq
    subst hh
    have e1 : st / 256 ^ j = h / 256 ^ j := by rw [← over_div st h j, hq]
    have e2 : st0 / 256 ^ j = h / 256 ^ j := by
      have k1 : h / 256 ^ j ≤ st0 / 256 ^ j := Nat.div_le_div_right (by omega)
      have k2 : st0 / 256 ^ j ≤ st / 256 ^ j := Nat.div_le_div_right (by omega)
      omega
    exact over_same (div_high e2 hj)
  · by_cases hq : st / 256 ^ j = over st0 h j0 / 256 ^ j
    · rw [over_same hq]
      exact ⟨a1, fun e => e⟩
    · have e0 : over st0 h j0 / 256 ^ j = st0 / 256 ^ j := div_high (over_div st0 h j0) (by omega)
      have k1 : st0 / 256 ^ j ≤ st / 256 ^ j := Nat.div_le_div_right (by omega)
      have k2 : over st0 h j0 / 256 ^ j < over st (over st0 h j0) j / 256 ^ j := by rw [over_div]; omega
      have k3 : over st0 h j0 < over st (over st0 h j0) j := by
        rcases Nat.lt_or_ge (over st0 h j0) (over st (over st0 h j0) j) with g | g
        · exact g
        · have : over st (over st0 h j0) j / 256 ^ j ≤ over st0 h j0 / 256 ^ j := Nat.div_le_div_right g
          omega
      exact ⟨by omega, fun e => by omega⟩
/-- A sector that may be torn; all stamps so far are at most M. -/
structure Tb (b : Sec) (M : Nat) : Prop where
  len : b.length = 64
  le : footOf b ≤ headOf b
  m : footOf b ≤ M
  r : Rise (headOf b) (footOf b) M
theorem tb_clean {b : Sec} {M : Nat} (h : b.length = 64) (h1 : footOf b ≤ headOf b) (h2 : headOf b ≤ M) : Tb b M := ⟨h, h1, by omega, rise_clean h1 h2⟩
theorem Tb.mono {b : Sec} {M N : Nat} (h : Tb b M) (hl : M ≤ N) : Tb b N := ⟨h.len, h.le, Nat.le_trans h.m hl, fun st hs j => h.r st (by omega) j⟩
theorem Tb.get {b : Sec} {M m : Nat} {c : List UInt8} (h : Tb b M) (hg : Lf.get b = some (m, c)) : m ≤ M := by
  have := (get_eq h.len hg).2.1
  have := h.m
  omega
theorem Tb.step {x b : Sec} {M st n : Nat} (h : Tb b M) (hx : x.length = 64) (hxh : headOf x = st) (hxf : footOf x = st) (hst : M < st) (hn : n ≤ 64) :
    Tb (torn x b n) st ∧ ∀ m c, Lf.get (torn x b n) = some (m, c) → (torn x b n = b ∧ m ≤ M) ∨ (torn x b n = x ∧ m = st) := by
  have hl := torn_len x b n hx h.len hn
  have hb := h.len
  have hm := h.m
  by_cases h8 : 8 ≤ n
  · have hh : headOf (torn x b n) = st := by rw [torn_head8 _ _ _ hx h8, hxh]
    have hf : footOf (torn x b n) ≤ st := by
      by_cases h56 : n ≤ 56
      · rw [torn_foot0 _ _ _ hx h56]; omega
      · obtain ⟨m, rfl⟩ : ∃ m, n = 56 + m := ⟨n - 56, by omega⟩
        rw [torn_foot _ _ _ hx hb (by omega), hxf]
        exact over_le _ _ _ (by omega)
    refine ⟨tb_clean hl (by omega) (by omega), fun m c hg => .inr ?_⟩
    obtain ⟨g1, g2, g3⟩ := get_eq hl hg
    have h56 : 56 ≤ n := by
      rcases Nat.lt_or_ge n 56 with h' | h'
      · rw [torn_foot0 _ _ _ hx (by omega)] at g2; omega
      · exact h'
    have e1 : leaf st (mid (torn x b n)) = torn x b n := by
      have := (leaf_iff _ hl).2 (by omega)
      rwa [hh] at this
    have e2 : leaf st (mid x) = x := by
      have := (leaf_iff _ hx).2 (by rw [hxh, hxf])
      rwa [hxh] at this
    exact ⟨by rw [← e1, torn_mid _ _ _ hx (by omega), e2], by omega⟩
  · have k1 := torn_head _ b _ hx hb (show n ≤ 8 by omega)
    rw [hxh] at k1
    have k2 := torn_foot0 x b n hx (by omega)
    obtain ⟨r1, r2⟩ := h.r st hst (8 - n)
    refine ⟨⟨hl, by omega, by omega, by rw [k1, k2]; exact rise_over h.r hm hst⟩, fun m c hg => .inl ?_⟩
    obtain ⟨g1, g2, g3⟩ := get_eq hl hg
    have k3 : headOf b = footOf b := r2 (by omega)
    refine ⟨?_, by omega⟩
    have e1 : leaf m (mid (torn x b n)) = torn x b n := by
      have := (leaf_iff _ hl).2 (by omega)
      rwa [g1] at this
    have e2 : leaf m (mid b) = b := by
      have := (leaf_iff _ hb).2 (by omega)
      rwa [show headOf b = m by omega] at this
    rw [← e1, torn_mid0 _ _ _ hx (by omega), e2]
def Tbs (L : List Sec) (M : Nat) : Prop := ∀ x ∈ L, Tb x M
theorem Tbs.fs {L : List Sec} {M : Nat} (h : Tbs L M) : Fs L := fun x hx => ⟨(h x hx).len, (h x hx).le⟩
theorem Fs.tbs {L : List Sec} {M : Nat} (h : Fs L) (ht : top L ≤ M) : Tbs L M := fun x hx => tb_clean (h x hx).1 (h x hx).2 (by
  have := top_mem hx
  unfold Lf.ends at this
  rw [if_pos (h x hx).1] at this
  exact Nat.le_trans this ht)
/-- What a sector can be then. -/
theorem TornBy.sec {D C : List Sec} {p n M : Nat} {t : List UInt8} (h : TornBy D p (sheaf n t) C) (hD : Tbs D M) (nl : n < 18446744073709551616) (hM : M < n) {i : Nat} (hi : i < C.length) :
    Tb C[i] n ∧ ∀ m c, Lf.get C[i] = some (m, c) → (D[i]? = some C[i] ∧ m ≤ M) ∨ (∃ j, i = p + j ∧ (sheaf n t)[j]? = some C[i] ∧ m = n) := by
  have hiD : i < D.length := by rw [← h.len]; exact hi
  have hd := hD _ (List.getElem_mem hiD)
  by_cases h1 : i < p ∨ p + (sheaf n t).length ≤ i
  · have he := h.out i h1
    rw [List.getElem?_eq_getElem hi, List.getElem?_eq_getElem hiD, Option.some.injEq] at he
    rw [he]
    exact ⟨hd.mono (by omega), fun m c hg => .inl ⟨List.getElem?_eq_getElem hiD, hd.get hg⟩⟩
  · obtain ⟨j, rfl⟩ : ∃ j, i = p + j := ⟨i - p, by omega⟩
    have hj : j < (sheaf n t).length := by omega
    obtain ⟨k, hk, hc⟩ := h.mid j _ _ (List.getElem?_eq_getElem hj) (List.getElem?_eq_getElem hiD)
    obtain ⟨x1, x2, x3⟩ := sheaf_leaf nl (List.getElem_mem hj)
    obtain ⟨s1, s3⟩ := hd.step x1 x2 x3 hM hk
    rw [List.getElem?_eq_getElem hi, Option.some.injEq] at hc
    rw [hc]
    refine ⟨s1, fun m c hg => ?_⟩
    rcases s3 m c hg with ⟨g1, g2⟩ | ⟨g1, g2⟩
    · exact .inl ⟨by rw [g1]; exact List.getElem?_eq_getElem hiD, g2⟩
    · exact .inr ⟨j, rfl, by rw [g1]; exact List.getElem?_eq_getElem hj, g2⟩
theorem TornBy.tbs {D C : List Sec} {p n M : Nat} {t : List UInt8} (h : TornBy D p (sheaf n t) C) (hD : Tbs D M) (nl : n < 18446744073709551616) (hM : M < n) : Tbs C n := fun x hx => by
  obtain ⟨i, hi, rfl⟩ := List.getElem_of_mem hx
  exact (h.sec hD nl hM hi).1
/-- The sectors of a sheaf are leaves. -/
theorem is_leaf {C : List Sec} {e n k : Nat} {u : List UInt8} (h : Is (C.drop e) n u k) {i : Nat} (hi : i < k) : ∃ (hl : e + i < C.length) (c : List UInt8), Lf.get C[e + i] = some (n, c) ∧ (sheaf n u)[i]? = some C[e + i] := by
  have hl := h.le
  rw [List.length_drop] at hl
  have hl' : e + i < C.length := by omega
  have e1 : (sheaf n u)[i]? = some C[e + i] := by
    rw [← h.eq, List.getElem?_take_of_lt hi, List.getElem?_drop]
    exact List.getElem?_eq_getElem hl'
  obtain ⟨x1, x2, x3⟩ := sheaf_leaf h.nl (List.mem_of_getElem? e1)
  refine ⟨hl', mid C[e + i], ?_, e1⟩
  have e2 : Lf.ends C[e + i] = (n, n) := by unfold Lf.ends; rw [if_pos x1, x2, x3]
  unfold Lf.get
  rw [e2, if_neg (by simp [h.n0])]
/-- A sheaf of the new stamp is the new one. -/
theorem TornBy.new {D C : List Sec} {p n M e k : Nat} {t u : List UInt8} (h : TornBy D p (sheaf n t) C) (hD : Tbs D M) (hM : M < n) (sl : t.length ≤ 98304) (hi : Is (C.drop e) n u k) (he : e ≤ p) :
    e = p ∧ u = t ∧ k = many t.length := by
  have nl := hi.nl
  have hk := is_pos hi
  have key : ∀ i, i < k → ∃ j, e + i = p + j ∧ (sheaf n t)[j]? = C[e + i]? := fun i hik => by
    obtain ⟨hl, c, hg, _⟩ := is_leaf hi hik
    rcases (h.sec hD nl hM hl).2 _ _ hg with ⟨_, g⟩ | ⟨j, g1, g2, _⟩
    · omega
    · exact ⟨j, g1, by rw [g2, List.getElem?_eq_getElem hl]⟩
  obtain ⟨j, hj1, hj2⟩ := key 0 (by omega)
  obtain rfl : e = p := by omega
  obtain rfl : j = 0 := by omega
  have hsh : Is (sheaf n t) n t (many t.length) := by have := is_put n t [] hi.n0 nl sl; rwa [List.append_nil] at this
  have hhd : (C.drop e).head? = (sheaf n t).head? := by
    rw [List.head?_eq_getElem?, List.head?_eq_getElem?, List.getElem?_drop, hj2]
  obtain ⟨_, _, hkk⟩ := Is.same hi hsh hhd
  have e1 : (C.drop e).take k = sheaf n t := by
    apply List.ext_getElem?
    intro i
    by_cases hik : i < k
    · obtain ⟨j, g1, g2⟩ := key i hik
      obtain rfl : i = j := by omega
      rw [List.getElem?_take_of_lt hik, List.getElem?_drop, g2]
    · rw [List.getElem?_eq_none (by simp; omega), List.getElem?_eq_none (by rw [sheaf_len]; omega)]
  have h2 : Is (C.drop e) n t k := ⟨hi.n0, nl, sl, hkk, hi.le, e1⟩
  have := pget_of_is hi
  rw [pget_of_is h2] at this
  simp at this
  exact ⟨rfl, this.symm, hkk⟩
/-- A sheaf of another stamp was there. -/
theorem TornBy.old {D C : List Sec} {p n M e k m : Nat} {t u : List UInt8} (h : TornBy D p (sheaf n t) C) (hD : Tbs D M) (nl : n < 18446744073709551616) (hM : M < n) (hi : Is (C.drop e) m u k) (hne : m ≠ n) : Is (D.drop e) m u k := by
  refine ⟨hi.n0, hi.nl, hi.sl, hi.kk, by have := hi.le; simp at this ⊢; rw [← h.len]; exact this, ?_⟩
  rw [← hi.eq]
  apply List.ext_getElem?
  intro i
  by_cases hik : i < k
  · obtain ⟨hl, c, hg, _⟩ := is_leaf hi hik
    rw [List.getElem?_take_of_lt hik, List.getElem?_take_of_lt hik, List.getElem?_drop, List.getElem?_drop]
    rcases (h.sec hD nl hM hl).2 _ _ hg with ⟨g, _⟩ | ⟨j, _, _, g⟩
    · rw [g, List.getElem?_eq_getElem hl]
    · exact absurd g hne
  · rw [List.getElem?_eq_none (by simp; omega), List.getElem?_eq_none (by simp; omega)]
theorem Reads.last {L : List Sec} {s : Ld} {M : Nat} (h : Reads L s) (hL : Tbs L M) : s.last ≤ M := by
  cases h with
  | nil => exact Nat.zero_le _
  | more _ h2 =>
    obtain ⟨n, t, k, hi, _, rfl⟩ := step_some h2
    obtain ⟨hl, c, hg, _⟩ := is_leaf hi (is_pos hi)
    exact (hL _ (List.getElem_mem hl)).get hg
/-- One more sheaf, perhaps cut off. -/
theorem torn_add {D C : List Sec} {p n M : Nat} {t : List UInt8} {z : Ld} (h : TornBy D p (sheaf n t) C) (hD : Tbs D M) (nl : n < 18446744073709551616) (hM : M < n) (sl : t.length ≤ 98304) (hz : Loaded D z) (hp : z.e ≤ p) :
    Loaded C z ∨ (z.e = p ∧ Loaded C (z.took n t (many t.length))) := by
  have hr : Reads C z := hz.r.alike h.len.symm (fun i hi => (h.out i (.inl hi)).symm) hp
  have hlast := hz.r.last hD
  cases hs : step C z with
  | none => exact .inl ⟨hr, hs⟩
  | some b =>
    obtain ⟨m, u, k, hi, hlt, rfl⟩ := step_some hs
    by_cases hmn : m = n
    · subst hmn
      obtain ⟨h1, rfl, rfl⟩ := h.new hD hM sl hi hp
      refine .inr ⟨h1, .more hr hs, step_none fun q v k' hq => ?_⟩
      obtain ⟨hl, c, hg, _⟩ := is_leaf hq (is_pos hq)
      rcases (h.sec hD nl hM hl).2 _ _ hg with ⟨_, g⟩ | ⟨j, _, _, g⟩
      · show q ≤ m; omega
      · show q ≤ m; omega
    · have := step_stop hz.stop (h.old hD nl hM hi hmn)
      omega
theorem Chain.first {L : List Sec} {a b : Ld} (h : Chain L a b) (ha : a.T.length ≠ 0) : b.first = a.first := by
  induction h with
  | refl => rfl
  | head h1 _ ih =>
    obtain ⟨n, t, k, _, _, rfl⟩ := step_some h1
    rw [ih (by unfold Ld.took; simp)]
    unfold Ld.took
    exact if_neg ha
/-- A beginning, perhaps cut off. -/
theorem torn_begin {D C : List Sec} {n M : Nat} {t : List UInt8} {z : Ld} (h : TornBy D 0 (sheaf n t) C) (hD : Tbs D M) (n0 : 0 < n) (nl : n < 18446744073709551616) (hM : M < n) (sl : t.length ≤ 98304) (hz : Loaded C z) :
    z.first ≤ n ∧ (z.first = n → z.T = [t]) := by
  have hC := h.tbs hD nl hM
  have hf := hz.r.fine
  refine ⟨Nat.le_trans hf.f (hz.r.last hC), fun e => ?_⟩
  have hc := hz.r.chain
  cases hc with
  | refl => have : (0 : Nat) = n := e; omega
  | head h1 h2 =>
    obtain ⟨m, u, k, hi, hlt, rfl⟩ := step_some h1
    have h3 := h2.first (by unfold Ld.took; simp)
    have h4 : m = n := by rw [← e, h3]; rfl
    subst h4
    obtain ⟨_, rfl, rfl⟩ := h.new hD hM sl hi (Nat.zero_le _)
    cases h2 with
    | refl => rfl
    | head h5 _ =>
      exfalso
      obtain ⟨q, v, k', hq, hlq, _⟩ := step_some h5
      obtain ⟨hl, c, hg, _⟩ := is_leaf hq (is_pos hq)
      have hlq' : m < q := hlq
      rcases (h.sec hD nl hM hl).2 _ _ hg with ⟨_, g⟩ | ⟨j, _, _, g⟩ <;> omega
end Go.Proofs.YtjlncjabiofklaaDoor.Rk
end
