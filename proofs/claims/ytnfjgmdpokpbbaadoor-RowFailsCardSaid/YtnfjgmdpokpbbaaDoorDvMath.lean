/- Package drive: sectors, open writes, failures: the mathematics. -/
import Derived.WalkKit
namespace Go.Proofs.YtnfjgmdpokpbbaaDoor.Dv
open Go
abbrev Sec := List UInt8
/-- A text, with zeros behind it up to a sector's length. -/
def pad (s : Sec) : Sec := s ++ List.replicate (64 - s.length) 0
theorem pad_len {s : Sec} (h : s.length ≤ 64) : (pad s).length = 64 := by unfold pad; simp; omega
theorem pad_get {s : Sec} (h : s.length ≤ 64) (k : Nat) (hk : k < 64) : (pad s)[k]? = some (s.getD k 0) := by
  unfold pad
  by_cases hks : k < s.length
  · rw [List.getElem?_append_left hks]; simp [hks]
  · rw [List.getElem?_append_right (by omega), List.getElem?_replicate, if_pos (by omega), List.getD_eq_getElem?_getD, List.getElem?_eq_none (by omega)]
    rfl
/-- Sectors behind writes. -/
def puts (P : List (Nat × Sec)) (D : List Sec) : List Sec := P.foldl (fun D p => D.set p.1 p.2) D
theorem puts_snoc (P : List (Nat × Sec)) (n : Nat) (s : Sec) (D : List Sec) : puts (P ++ [(n, s)]) D = (puts P D).set n s := by simp [puts]
theorem puts_cons (p : Nat × Sec) (P : List (Nat × Sec)) (D : List Sec) : puts (p :: P) D = puts P (D.set p.1 p.2) := rfl
theorem puts_len (P : List (Nat × Sec)) : ∀ D : List Sec, (puts P D).length = D.length := by
  induction P with
  | nil => intro D; rfl
  | cons p P ih => intro D; rw [puts_cons, ih]; simp
/-- A drive: what is sure, what is open, the fuse. -/
structure Dr where
  D : List Sec
  P : List (Nat × Sec)
  F : Option Nat
def Dr.n (x : Dr) : Nat := x.D.length
def Dr.V (x : Dr) : List Sec := puts x.P x.D
structure Dr.Ok (x : Dr) : Prop where
  n1 : 1 ≤ x.D.length
  n2 : x.D.length ≤ 4096
  d : ∀ s ∈ x.D, s.length = 64
  p : ∀ q ∈ x.P, q.1 < x.D.length ∧ q.2.length = 64
  f : ∀ k, x.F = some k → k ≤ 9223372036854775807
theorem puts_64 (P : List (Nat × Sec)) : ∀ D : List Sec, (∀ s ∈ D, s.length = 64) → (∀ q ∈ P, q.2.length = 64) → ∀ s ∈ puts P D, s.length = 64 := by
  induction P with
  | nil => intro D hd _; exact hd
  | cons p P ih =>
    intro D hd hp
    rw [puts_cons]
    refine ih _ (fun s hs => ?_) fun q hq => hp q (List.mem_cons_of_mem _ hq)
    rcases List.mem_or_eq_of_mem_set hs with h | h
    · exact hd s h
    · rw [h]; exact hp p List.mem_cons_self
theorem Dr.Ok.v {x : Dr} (h : x.Ok) : ∀ s ∈ x.V, s.length = 64 := puts_64 _ _ h.d fun q hq => (h.p q hq).2
theorem Dr.vlen (x : Dr) : x.V.length = x.D.length := puts_len _ _
/-- One call more: none is let through by a fuse of 0. -/
def burn : Option Nat → Option (Option Nat)
  | none => some none
  | some 0 => none
  | some (k + 1) => some (some k)
def Dr.write (x : Dr) (n : Int) (s : Sec) : Dr × Int :=
  if n < 0 ∨ (x.D.length : Int) ≤ n then (x, 2) else if 64 < s.length then (x, 3) else
  match burn x.F with
  | none => (x, 30)
  | some F => (⟨x.D, x.P ++ [(n.toNat, pad s)], F⟩, 0)
def Dr.sync (x : Dr) : Dr × Int :=
  match burn x.F with
  | none => (x, 30)
  | some F => (⟨x.V, [], F⟩, 0)
def Dr.fuse (x : Dr) (n : Int) : Dr := ⟨x.D, x.P, if n < 0 then none else some n.toNat⟩
/-- What a failure keeps. -/
structure Cr where
  keep : Nat
  torn : Int
  at' : Int
def Cr.cut (c : Cr) (i : Nat) : Nat := if (i : Int) = c.torn then (min (max c.at' 0) 64).toNat else if c.keep / 2 ^ (i % 64) % 2 = 1 then 64 else 0
theorem Cr.cut_le (c : Cr) (i : Nat) : c.cut i ≤ 64 := by unfold Cr.cut; split <;> (try split) <;> omega
def part (k : Nat) (s o : Sec) : Sec := s.take k ++ o.drop k
theorem part_len {k : Nat} {s o : Sec} (hs : s.length = 64) (ho : o.length = 64) : (part k s o).length = 64 := by unfold part; simp; omega
theorem part_0 (s o : Sec) : part 0 s o = o := by simp [part]
theorem part_64 {s o : Sec} (hs : s.length = 64) (ho : o.length = 64) : part 64 s o = s := by
  unfold part
  rw [List.take_of_length_le (by omega), List.drop_eq_nil_of_le (by omega), List.append_nil]
def crashTo (c : Cr) : List (Nat × Sec) → Nat → List Sec → List Sec
  | [], _, D => D
  | p :: P, i, D => crashTo c P (i + 1) (D.set p.1 (part (c.cut i) p.2 (D.getD p.1 [])))
def Dr.crash (x : Dr) (c : Cr) : Dr := ⟨crashTo c x.P 0 x.D, [], none⟩
theorem crashTo_len (c : Cr) (P : List (Nat × Sec)) : ∀ (i : Nat) (D : List Sec), (crashTo c P i D).length = D.length := by
  induction P with
  | nil => intro i D; rfl
  | cons p P ih => intro i D; unfold crashTo; rw [ih]; simp
theorem crashTo_snoc (c : Cr) (P : List (Nat × Sec)) (p : Nat × Sec) : ∀ (i : Nat) (D : List Sec), crashTo c (P ++ [p]) i D = (crashTo c P i D).set p.1 (part (c.cut (i + P.length)) p.2 ((crashTo c P i D).getD p.1 [])) := by
  induction P with
  | nil => intro i D; simp [crashTo]
  | cons q P ih =>
    intro i D
    show crashTo c (P ++ [p]) (i + 1) _ = _
    rw [ih]
    simp only [List.length_cons]
    rw [show i + 1 + P.length = i + (P.length + 1) by omega]
    rfl
theorem crashTo_64 (c : Cr) (P : List (Nat × Sec)) : ∀ (i : Nat) (D : List Sec), (∀ s ∈ D, s.length = 64) → (∀ q ∈ P, q.1 < D.length ∧ q.2.length = 64) → ∀ s ∈ crashTo c P i D, s.length = 64 := by
  induction P with
  | nil => intro i D hd _; exact hd
  | cons p P ih =>
    intro i D hd hp
    unfold crashTo
    have h1 := hp p List.mem_cons_self
    have h2 : (D.getD p.1 []).length = 64 := by rw [List.getD_eq_getElem?_getD, List.getElem?_eq_getElem h1.1]; exact hd _ (List.getElem_mem _)
    refine ih _ _ (fun s hs => ?_) fun q hq => by simpa using hp q (List.mem_cons_of_mem _ hq)
    rcases List.mem_or_eq_of_mem_set hs with h | h
    · exact hd s h
    · rw [h]; exact part_len h1.2 h2
theorem Dr.Ok.write {x : Dr} (h : x.Ok) (n : Int) (s : Sec) : (x.write n s).1.Ok := by
  unfold Dr.write
  split
  · exact h
  · rename_i hn
    split
    · exact h
    · rename_i hs
      split
      · exact h
      · rename_i F hF
        refine ⟨h.n1, h.n2, h.d, fun q hq => ?_, fun k hk => ?_⟩
        · rcases List.mem_append.1 hq with hq | hq
          · exact h.p q hq
          · simp only [List.mem_cons, List.not_mem_nil, or_false] at hq
            subst hq
            exact ⟨by simp only; omega, pad_len (by omega)⟩
        · have hk' : F = some k := hk
          subst hk'
          cases hx : x.F with
          | none => rw [hx] at hF; simp [burn] at hF
          | some j =>
            rw [hx] at hF
            cases j with
            | zero => simp [burn] at hF
            | succ j => simp [burn] at hF; have := h.f _ hx; omega
theorem burn_le {F F' : Option Nat} (h : burn F = some F') (hf : ∀ k, F = some k → k ≤ 9223372036854775807) : ∀ k, F' = some k → k ≤ 9223372036854775807 := by
  intro k hk
  subst hk
  cases F with
  | none => simp [burn] at h
  | some j =>
    cases j with
    | zero => simp [burn] at h
    | succ j => simp [burn] at h; have := hf _ rfl; omega
theorem Dr.Ok.sync {x : Dr} (h : x.Ok) : x.sync.1.Ok := by
  unfold Dr.sync
  split
  · exact h
  · rename_i F hF
    exact ⟨by rw [Dr.vlen]; exact h.n1, by rw [Dr.vlen]; exact h.n2, h.v, fun q hq => absurd hq (by simp), burn_le hF h.f⟩
theorem Dr.Ok.crash {x : Dr} (h : x.Ok) (c : Cr) : (x.crash c).Ok :=
  ⟨by show 1 ≤ (crashTo _ _ _ _).length; rw [crashTo_len]; exact h.n1, by show (crashTo _ _ _ _).length ≤ _; rw [crashTo_len]; exact h.n2, crashTo_64 c x.P 0 x.D h.d h.p, fun q hq => absurd hq (by simp [Dr.crash]), fun k hk => by simp [Dr.crash] at hk⟩
theorem Dr.Ok.fuse {x : Dr} (h : x.Ok) (n : Int) (hn : n ≤ 9223372036854775807) : (x.fuse n).Ok :=
  ⟨h.n1, h.n2, h.d, h.p, fun k hk => by unfold Dr.fuse at hk; split at hk <;> simp at hk; omega⟩
/-- Each byte behind a failure is a sure one, or one of an open write to that sector. -/
theorem crash_byte (c : Cr) (n k : Nat) (b : UInt8) (P : List (Nat × Sec)) : ∀ (i : Nat) (D : List Sec), (∀ s ∈ D, s.length = 64) → (∀ q ∈ P, q.1 < D.length ∧ q.2.length = 64) →
    ((crashTo c P i D).getD n [])[k]? = some b → (D.getD n [])[k]? = some b ∨ ∃ q ∈ P, q.1 = n ∧ q.2[k]? = some b := by
  induction P with
  | nil => intro i D _ _ h; exact .inl h
  | cons p P ih =>
    intro i D hd hp h
    have h1 := hp p List.mem_cons_self
    have h2 : (D.getD p.1 []).length = 64 := by rw [List.getD_eq_getElem?_getD, List.getElem?_eq_getElem h1.1]; exact hd _ (List.getElem_mem _)
    unfold crashTo at h
    rcases ih _ _ (fun s hs => by
      rcases List.mem_or_eq_of_mem_set hs with h | h
      · exact hd s h
      · rw [h]; exact part_len h1.2 h2) (fun q hq => by simpa using hp q (List.mem_cons_of_mem _ hq)) h with h3 | ⟨q, hq, h3⟩
    · by_cases hn : p.1 = n
      · subst hn
        rw [List.getD_eq_getElem?_getD, List.getElem?_set_self h1.1, Option.getD_some] at h3
        unfold part at h3
        rw [List.getElem?_append] at h3
        split at h3
        · rename_i hk
          simp at hk
          rw [List.getElem?_take_of_lt (by omega)] at h3
          exact .inr ⟨p, List.mem_cons_self, rfl, h3⟩
        · rename_i hk
          simp at hk
          rw [List.getElem?_drop, List.length_take] at h3
          refine .inl ?_
          rw [← h3]
          congr 1
          have := c.cut_le i
          omega
      · rw [List.getD_eq_getElem?_getD, List.getElem?_set_ne hn, ← List.getD_eq_getElem?_getD] at h3
        exact .inl h3
    · exact .inr ⟨q, List.mem_cons_of_mem _ hq, h3⟩
/-- A failure that keeps all. -/
theorem crash_all (c : Cr) (hc : ∀ i, c.cut i = 64) (P : List (Nat × Sec)) : ∀ (i : Nat) (D : List Sec), (∀ s ∈ D, s.length = 64) → (∀ q ∈ P, q.1 < D.length ∧ q.2.length = 64) → crashTo c P i D = puts P D := by
  induction P with
  | nil => intro i D _ _; rfl
  | cons p P ih =>
    intro i D hd hp
    have h1 := hp p List.mem_cons_self
    have h2 : (D.getD p.1 []).length = 64 := by rw [List.getD_eq_getElem?_getD, List.getElem?_eq_getElem h1.1]; exact hd _ (List.getElem_mem _)
    unfold crashTo
    rw [hc i, part_64 h1.2 h2, puts_cons]
    refine ih _ _ (fun s hs => ?_) fun q hq => by simpa using hp q (List.mem_cons_of_mem _ hq)
    rcases List.mem_or_eq_of_mem_set hs with h | h
    · exact hd s h
    · rw [h]; exact h1.2
end Go.Proofs.YtnfjgmdpokpbbaaDoor.Dv
