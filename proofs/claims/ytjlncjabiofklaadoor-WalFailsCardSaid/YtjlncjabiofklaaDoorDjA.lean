/- Joined: DvMath DvMem DvAt. -/
import Derived.WalkKit
import Derived.Below
import Derived.Lib.Hide
import Derived.Deep.MidRow
import Derived.Laws.CopyOwn
import Derived.Deep.Upon
import Derived.Deep.Draws
section
namespace Go.Proofs.YtjlncjabiofklaaDoor.Dv
open Go
abbrev Sec := List UInt8
/-- A text, with zeros behind it up to a sector's length. -/
def pad (s : Sec) : Sec := s ++ List.replicate (64 - s.length) 0
theorem pad_len {s : Sec} (h : s.length ≤ 64) : (pad s).length = 64 := by unfold pad; simp; omega
theorem pad_get {s : Sec} (h : s.length ≤ 64) (k : Nat) (hk : k < 64) : (pad s)[k]? = some (s.getD k 0) := by
  unfold pad
  by_cases hks : k < s.length
  · rw [List.getElem?_append_left hks]; simp [hks]
  · rw [List.getElem?_append_right (by omega), List.getElem?_replicate, if_pos (by omega), List.getD_eq_getElem?_getD, List.getElem?_eq_none (by omega)]
    rfl
/-- Sectors behind writes. -/
def puts (P : List (Nat × Sec)) (D : List Sec) : List Sec := P.foldl (fun D p => D.set p.1 p.2) D
theorem puts_snoc (P : List (Nat × Sec)) (n : Nat) (s : Sec) (D : List Sec) : puts (P ++ [(n, s)]) D = (puts P D).set n s := by simp [puts]
theorem puts_cons (p : Nat × Sec) (P : List (Nat × Sec)) (D : List Sec) : puts (p :: P) D = puts P (D.set p.1 p.2) := rfl
theorem puts_len (P : List (Nat × Sec)) : ∀ D : List Sec, (puts P D).length = D.length := by
  induction P with
  | nil => intro D; rfl
  | cons p P ih => intro D; rw [puts_cons, ih]; simp
/-- A drive: what is sure, what is open, the fuse. -/
structure Dr where
  D : List Sec
  P : List (Nat × Sec)
  F : Option Nat
def Dr.n (x : Dr) : Nat := x.D.length
def Dr.V (x : Dr) : List Sec := puts x.P x.D
structure Dr.Ok (x : Dr) : Prop where
  n1 : 1 ≤ x.D.length
  n2 : x.D.length ≤ 4096
  d : ∀ s ∈ x.D, s.length = 64
  p : ∀ q ∈ x.P, q.1 < x.D.length ∧ q.2.length = 64
  f : ∀ k, x.F = some k → k ≤ 9223372036854775807
theorem puts_64 (P : List (Nat × Sec)) : ∀ D : List Sec, (∀ s ∈ D, s.length = 64) → (∀ q ∈ P, q.2.length = 64) → ∀ s ∈ puts P D, s.length = 64 := by
  induction P with
  | nil => intro D hd _; exact hd
  | cons p P ih =>
    intro D hd hp
    rw [puts_cons]
    refine ih _ (fun s hs => ?_) fun q hq => hp q (List.mem_cons_of_mem _ hq)
    rcases List.mem_or_eq_of_mem_set hs with h | h
    · exact hd s h
    · rw [h]; exact hp p List.mem_cons_self
theorem Dr.Ok.v {x : Dr} (h : x.Ok) : ∀ s ∈ x.V, s.length = 64 := puts_64 _ _ h.d fun q hq => (h.p q hq).2
theorem Dr.vlen (x : Dr) : x.V.length = x.D.length := puts_len _ _
/-- One call more: none is let through by a fuse of 0. -/
def burn : Option Nat → Option (Option Nat)
  | none => some none
  | some 0 => none
  | some (k + 1) => some (some k)
def Dr.write (x : Dr) (n : Int) (s : Sec) : Dr × Int :=
  if n < 0 ∨ (x.D.length : Int) ≤ n then (x, 2) else if 64 < s.length then (x, 3) else
  match burn x.F with
  | none => (x, 30)
  | some F => (⟨x.D, x.P ++ [(n.toNat, pad s)], F⟩, 0)
def Dr.sync (x : Dr) : Dr × Int :=
  match burn x.F with
  | none => (x, 30)
  | some F => (⟨x.V, [], F⟩, 0)
def Dr.fuse (x : Dr) (n : Int) : Dr := ⟨x.D, x.P, if n < 0 then none else some n.toNat⟩
/-- What a failure keeps. -/
structure Cr where
  keep : Nat
  torn : Int
  at' : Int
def Cr.cut (c : Cr) (i : Nat) : Nat := if (i : Int) = c.torn then (min (max c.at' 0) 64).toNat else if c.keep / 2 ^ (i % 64) % 2 = 1 then 64 else 0
theorem Cr.cut_le (c : Cr) (i : Nat) : c.cut i ≤ 64 := by unfold Cr.cut; split <;> (try split) <;> omega
def part (k : Nat) (s o : Sec) : Sec := s.take k ++ o.drop k
theorem part_len {k : Nat} {s o : Sec} (hs : s.length = 64) (ho : o.length = 64) : (part k s o).length = 64 := by unfold part; simp; omega
theorem part_0 (s o : Sec) : part 0 s o = o := by simp [part]
theorem part_64 {s o : Sec} (hs : s.length = 64) (ho : o.length = 64) : part 64 s o = s := by
  unfold part
  rw [List.take_of_length_le (by omega), List.drop_eq_nil_of_le (by omega), List.append_nil]
def crashTo (c : Cr) : List (Nat × Sec) → Nat → List Sec → List Sec
  | [], _, D => D
  | p :: P, i, D => crashTo c P (i + 1) (D.set p.1 (part (c.cut i) p.2 (D.getD p.1 [])))
def Dr.crash (x : Dr) (c : Cr) : Dr := ⟨crashTo c x.P 0 x.D, [], none⟩
theorem crashTo_len (c : Cr) (P : List (Nat × Sec)) : ∀ (i : Nat) (D : List Sec), (crashTo c P i D).length = D.length := by
  induction P with
  | nil => intro i D; rfl
  | cons p P ih => intro i D; unfold crashTo; rw [ih]; simp
theorem crashTo_snoc (c : Cr) (P : List (Nat × Sec)) (p : Nat × Sec) : ∀ (i : Nat) (D : List Sec), crashTo c (P ++ [p]) i D = (crashTo c P i D).set p.1 (part (c.cut (i + P.length)) p.2 ((crashTo c P i D).getD p.1 [])) := by
  induction P with
  | nil => intro i D; simp [crashTo]
  | cons q P ih =>
    intro i D
    show crashTo c (P ++ [p]) (i + 1) _ = _
    rw [ih]
    simp only [List.length_cons]
    rw [show i + 1 + P.length = i + (P.length + 1) by omega]
    rfl
theorem crashTo_64 (c : Cr) (P : List (Nat × Sec)) : ∀ (i : Nat) (D : List Sec), (∀ s ∈ D, s.length = 64) → (∀ q ∈ P, q.1 < D.length ∧ q.2.length = 64) → ∀ s ∈ crashTo c P i D, s.length = 64 := by
  induction P with
  | nil => intro i D hd _; exact hd
  | cons p P ih =>
    intro i D hd hp
    unfold crashTo
    have h1 := hp p List.mem_cons_self
    have h2 : (D.getD p.1 []).length = 64 := by rw [List.getD_eq_getElem?_getD, List.getElem?_eq_getElem h1.1]; exact hd _ (List.getElem_mem _)
    refine ih _ _ (fun s hs => ?_) fun q hq => by simpa using hp q (List.mem_cons_of_mem _ hq)
    rcases List.mem_or_eq_of_mem_set hs with h | h
    · exact hd s h
    · rw [h]; exact part_len h1.2 h2
theorem Dr.Ok.write {x : Dr} (h : x.Ok) (n : Int) (s : Sec) : (x.write n s).1.Ok := by
  unfold Dr.write
  split
  · exact h
  · rename_i hn
    split
    · exact h
    · rename_i hs
      split
      · exact h
      · rename_i F hF
        refine ⟨h.n1, h.n2, h.d, fun q hq => ?_, fun k hk => ?_⟩
        · rcases List.mem_append.1 hq with hq | hq
          · exact h.p q hq
          · simp only [List.mem_cons, List.not_mem_nil, or_false] at hq
            subst hq
            exact ⟨by simp only; omega, pad_len (by omega)⟩
        · have hk' : F = some k := hk
          subst hk'
          cases hx : x.F with
          | none => rw [hx] at hF; simp [burn] at hF
          | some j =>
            rw [hx] at hF
            cases j with
            | zero => simp [burn] at hF
            | succ j => simp [burn] at hF; have := h.f _ hx; omega
theorem burn_le {F F' : Option Nat} (h : burn F = some F') (hf : ∀ k, F = some k → k ≤ 9223372036854775807) : ∀ k, F' = some k → k ≤ 9223372036854775807 := by
  intro k hk
  subst hk
  cases F with
  | none => simp [burn] at h
  | some j =>
    cases j with
    | zero => simp [burn] at h
    | succ j => simp [burn] at h; have := hf _ rfl; omega
theorem Dr.Ok.sync {x : Dr} (h : x.Ok) : x.sync.1.Ok := by
  unfold Dr.sync
  split
  · exact h
  · rename_i F hF
    exact ⟨by rw [Dr.vlen]; exact h.n1, by rw [Dr.vlen]; exact h.n2, h.v, fun q hq => absurd hq (by simp), burn_le hF h.f⟩
theorem Dr.Ok.crash {x : Dr} (h : x.Ok) (c : Cr) : (x.crash c).Ok :=
  ⟨by show 1 ≤ (crashTo _ _ _ _).length; rw [crashTo_len]; exact h.n1, by show (crashTo _ _ _ _).length ≤ _; rw [crashTo_len]; exact h.n2, crashTo_64 c x.P 0 x.D h.d h.p, fun q hq => absurd hq (by simp [Dr.crash]), fun k hk => by simp [Dr.crash] at hk⟩
theorem Dr.Ok.fuse {x : Dr} (h : x.Ok) (n : Int) (hn : n ≤ 9223372036854775807) : (x.fuse n).Ok :=
  ⟨h.n1, h.n2, h.d, h.p, fun k hk => by unfold Dr.fuse at hk; split at hk <;> simp at hk; omega⟩
/-- Each byte behind a failure is a sure one, or one of an open write to that sector. -/
theorem crash_byte (c : Cr) (n k : Nat) (b : UInt8) (P : List (Nat × Sec)) : ∀ (i : Nat) (D : List Sec), (∀ s ∈ D, s.length = 64) → (∀ q ∈ P, q.1 < D.length ∧ q.2.length = 64) →
    ((crashTo c P i D).getD n [])[k]? = some b → (D.getD n [])[k]? = some b ∨ ∃ q ∈ P, q.1 = n ∧ q.2[k]? = some b := by
  induction P with
  | nil => intro i D _ _ h; exact .inl h
  | cons p P ih =>
    intro i D hd hp h
    have h1 := hp p List.mem_cons_self
    have h2 : (D.getD p.1 []).length = 64 := by rw [List.getD_eq_getElem?_getD, List.getElem?_eq_getElem h1.1]; exact hd _ (List.getElem_mem _)
    unfold crashTo at h
    rcases ih _ _ (fun s hs => by
      rcases List.mem_or_eq_of_mem_set hs with h | h
      · exact hd s h
      · rw [h]; exact part_len h1.2 h2) (fun q hq => by simpa using hp q (List.mem_cons_of_mem _ hq)) h with h3 | ⟨q, hq, h3⟩
    · by_cases hn : p.1 = n
      · subst hn
        rw [List.getD_eq_getElem?_getD, List.getElem?_set_self h1.1, Option.getD_some] at h3
        unfold part at h3
        rw [List.getElem?_append] at h3
        split at h3
        · rename_i hk
          simp at hk
          rw [List.getElem?_take_of_lt (by omega)] at h3
          exact .inr ⟨p, List.mem_cons_self, rfl, h3⟩
        · rename_i hk
          simp at hk
          rw [List.getElem?_drop, List.length_take] at h3
          refine .inl ?_
          rw [← h3]
          congr 1
          have := c.cut_le i
          omega
      · rw [List.getD_eq_getElem?_getD, List.getElem?_set_ne hn, ← List.getD_eq_getElem?_getD] at h3
        exact .inl h3
    · exact .inr ⟨q, List.mem_cons_of_mem _ hq, h3⟩
/-- A failure that keeps all. -/
theorem crash_all (c : Cr) (hc : ∀ i, c.cut i = 64) (P : List (Nat × Sec)) : ∀ (i : Nat) (D : List Sec), (∀ s ∈ D, s.length = 64) → (∀ q ∈ P, q.1 < D.length ∧ q.2.length = 64) → crashTo c P i D = puts P D := by
  induction P with
  | nil => intro i D _ _; rfl
  | cons p P ih =>
    intro i D hd hp
    have h1 := hp p List.mem_cons_self
    have h2 : (D.getD p.1 []).length = 64 := by rw [List.getD_eq_getElem?_getD, List.getElem?_eq_getElem h1.1]; exact hd _ (List.getElem_mem _)
    unfold crashTo
    rw [hc i, part_64 h1.2 h2, puts_cons]
    refine ih _ _ (fun s hs => ?_) fun q hq => by simpa using hp q (List.mem_cons_of_mem _ hq)
    rcases List.mem_or_eq_of_mem_set hs with h | h
    · exact hd s h
    · rw [h]; exact h1.2
end Go.Proofs.YtjlncjabiofklaaDoor.Dv
end
section
namespace Go.Proofs.YtjlncjabiofklaaDoor.Dv
open Go Go.RowKit
def bv (b : UInt8) : Value := .int .u8 (b.toNat : Int)
/-- The cells of a text. -/
def sc (s : List UInt8) : List Value := s.map bv
/-- The cells of sectors. -/
def flat (L : List (List UInt8)) : List Value := L.flatMap sc
/-- The cells of an open write; of many. -/
def wc (p : Nat × List UInt8) : List Value := .int .i64 (p.1 : Int) :: sc p.2
def flatP (P : List (Nat × List UInt8)) : List Value := P.flatMap wc
theorem sc_len (s : List UInt8) : (sc s).length = s.length := by simp [sc]
theorem sc_one {s : List UInt8} : ∀ v ∈ sc s, v.oneCell' = true := by
  intro v hv
  obtain ⟨b, _, rfl⟩ := List.mem_map.1 hv
  rfl
theorem flat_one {L : List (List UInt8)} : ∀ v ∈ flat L, v.oneCell' = true := by
  intro v hv
  obtain ⟨s, _, hs⟩ := List.mem_flatMap.1 hv
  exact sc_one v hs
theorem wc_one {p : Nat × List UInt8} : ∀ v ∈ wc p, v.oneCell' = true := by
  intro v hv
  rcases List.mem_cons.1 hv with rfl | hv
  · rfl
  · exact sc_one v hv
theorem flatP_one {P : List (Nat × List UInt8)} : ∀ v ∈ flatP P, v.oneCell' = true := by
  intro v hv
  obtain ⟨p, _, hs⟩ := List.mem_flatMap.1 hv
  exact wc_one v hs
theorem flat_len {L : List (List UInt8)} (h : ∀ s ∈ L, s.length = 64) : (flat L).length = L.length * 64 := by
  induction L with
  | nil => rfl
  | cons s L ih =>
    show (sc s ++ flat L).length = _
    rw [List.length_append, sc_len, h s List.mem_cons_self, ih fun t ht => h t (List.mem_cons_of_mem _ ht), List.length_cons]
    omega
theorem flatP_len {P : List (Nat × List UInt8)} (h : ∀ q ∈ P, q.2.length = 64) : (flatP P).length = P.length * 65 := by
  induction P with
  | nil => rfl
  | cons p P ih =>
    show (wc p ++ flatP P).length = _
    rw [List.length_append, show (wc p).length = 65 by simp [wc, sc_len, h p List.mem_cons_self], ih fun t ht => h t (List.mem_cons_of_mem _ ht), List.length_cons]
    omega
theorem flatP_snoc (P : List (Nat × List UInt8)) (p : Nat × List UInt8) : flatP (P ++ [p]) = flatP P ++ wc p := by simp [flatP]
theorem flat_at {L : List (List UInt8)} (h : ∀ s ∈ L, s.length = 64) : ∀ (i : Nat) (hi : i < L.length), ((flat L).drop (i * 64)).take 64 = sc L[i] := by
  induction L with
  | nil => intro i hi; simp at hi
  | cons s L ih =>
    intro i hi
    have hs := h s List.mem_cons_self
    have hsc : (sc s).length = 64 := by rw [sc_len, hs]
    show ((sc s ++ flat L).drop (i * 64)).take 64 = _
    cases i with
    | zero =>
      rw [Nat.zero_mul, List.drop_zero, List.take_left' hsc]
      rfl
    | succ i =>
      rw [show (i + 1) * 64 = (sc s).length + i * 64 by rw [hsc]; omega, List.drop_append, List.drop_eq_nil_of_le (by omega), List.nil_append, Nat.add_sub_cancel_left]
      exact ih (fun t ht => h t (List.mem_cons_of_mem _ ht)) i (by simpa using hi)
theorem flatP_at {P : List (Nat × List UInt8)} (h : ∀ q ∈ P, q.2.length = 64) : ∀ (i : Nat) (hi : i < P.length), ((flatP P).drop (i * 65)).take 65 = wc P[i] := by
  induction P with
  | nil => intro i hi; simp at hi
  | cons s L ih =>
    intro i hi
    have hs := h s List.mem_cons_self
    have hsc : (wc s).length = 65 := by simp [wc, sc_len, hs]
    show ((wc s ++ flatP L).drop (i * 65)).take 65 = _
    cases i with
    | zero =>
      rw [Nat.zero_mul, List.drop_zero, List.take_left' hsc]
      rfl
    | succ i =>
      rw [show (i + 1) * 65 = (wc s).length + i * 65 by rw [hsc]; omega, List.drop_append, List.drop_eq_nil_of_le (by omega), List.nil_append, Nat.add_sub_cancel_left]
      exact ih (fun t ht => h t (List.mem_cons_of_mem _ ht)) i (by simpa using hi)
theorem flat_set {L : List (List UInt8)} (h : ∀ s ∈ L, s.length = 64) : ∀ (i : Nat) (s : List UInt8), s.length = 64 → i < L.length → splice (flat L) (i * 64) (sc s) = flat (L.set i s) := by
  induction L with
  | nil => intro i s _ hi; simp at hi
  | cons t L ih =>
    intro i s hs hi
    have ht := h t List.mem_cons_self
    have htc : (sc t).length = 64 := by rw [sc_len, ht]
    have hsc : (sc s).length = 64 := by rw [sc_len, hs]
    show splice (sc t ++ flat L) (i * 64) (sc s) = _
    unfold splice
    cases i with
    | zero =>
      rw [Nat.zero_mul, List.take_zero, Nat.zero_add, hsc, List.nil_append, List.drop_left' htc]
      rfl
    | succ i =>
      have ih' := ih (fun t ht => h t (List.mem_cons_of_mem _ ht)) i s hs (by simpa using hi)
      unfold splice at ih'
      rw [show (i + 1) * 64 = (sc t).length + i * 64 by rw [htc]; omega, List.take_append, List.take_of_length_le (by omega), show (sc t).length + i * 64 - (sc t).length = i * 64 by omega, show (sc t).length + i * 64 + (sc s).length = (sc t).length + (i * 64 + (sc s).length) by omega, List.drop_append, List.drop_eq_nil_of_le (by omega), List.nil_append, Nat.add_sub_cancel_left, List.append_assoc, ih']
      rfl
theorem flat_part {L : List (List UInt8)} (h : ∀ s ∈ L, s.length = 64) : ∀ (i : Nat) (s : List UInt8), s.length ≤ 64 → (hi : i < L.length) → splice (flat L) (i * 64) (sc s) = flat (L.set i (s ++ L[i].drop s.length)) := by
  induction L with
  | nil => intro i s _ hi; simp at hi
  | cons t L ih =>
    intro i s hs hi
    have ht := h t List.mem_cons_self
    have htc : (sc t).length = 64 := by rw [sc_len, ht]
    have hsc : (sc s).length = s.length := sc_len s
    show splice (sc t ++ flat L) (i * 64) (sc s) = _
    unfold splice
    cases i with
    | zero =>
      rw [Nat.zero_mul, List.take_zero, Nat.zero_add, hsc, List.nil_append, List.drop_append_of_le_length (by omega)]
      show _ = sc (s ++ t.drop s.length) ++ flat L
      simp [sc, List.map_drop]
    | succ i =>
      have ih' := ih (fun t ht => h t (List.mem_cons_of_mem _ ht)) i s hs (by simpa using hi)
      unfold splice at ih'
      rw [show (i + 1) * 64 = (sc t).length + i * 64 by rw [htc]; omega, List.take_append, List.take_of_length_le (by omega), show (sc t).length + i * 64 - (sc t).length = i * 64 by omega, show (sc t).length + i * 64 + (sc s).length = (sc t).length + (i * 64 + (sc s).length) by omega, List.drop_append, List.drop_eq_nil_of_le (by omega), List.nil_append, Nat.add_sub_cancel_left, List.append_assoc, ih']
      rfl
/-- A block known whole. -/
def Rw (w : World) (b : Nat) (t : TypeId) (L : List Value) : Prop := w.heap[b]? = some (.cells L.toArray t (0, 0))
section
variable {w w' : World} {b : Nat} {t : TypeId} {L : List Value}
theorem Rw.lt (h : Rw w b t L) : b < w.heap.size := (Array.getElem?_eq_some_iff.1 h).1
theorem Rw.cell (h : Rw w b t L) (o : Nat) : w.cell? ⟨b, o, none⟩ = L[o]? := by simp [World.cell?, show w.heap[b]? = _ from h]
theorem Rw.frozen (h : Rw w b t L) (o : Nat) : w.frozen? ⟨b, o, none⟩ = false := by simp [World.frozen?, show w.heap[b]? = _ from h]
theorem Rw.later (h : Rw w b t L) (hb : Below w.heap.size w w') : Rw w' b t L := (hb.block b h.lt).trans h
theorem Rw.of (h : Rw w b t L) (e : w'.heap[b]? = w.heap[b]?) : Rw w' b t L := e.trans h
theorem Rw.drew (h : Rw w b t L) : Rw w.drew b t L := h
theorem Rw.new (w : World) (L : List Value) (t : TypeId) : Rw (w.alloc (.cells L.toArray t)) w.heap.size t L := heap_alloc_new w _
theorem Rw.range (h : Rw w b t L) (o : Nat) (cs : List Value) (hc : (L.drop o).take cs.length = cs) : w.rangeAt b o cs := by
  intro j v hv
  have hj := (List.getElem?_eq_some_iff.1 hv).1
  rw [h.cell, ← hv]
  conv => rhs; rw [← hc]
  rw [List.getElem?_take_of_lt hj, List.getElem?_drop]
theorem Rw.there (h : Rw w b t L) (o n : Nat) (hn : o + n ≤ L.length) : w.there b o n := fun j hj =>
  ⟨by rw [h.cell, List.getElem?_eq_getElem (by omega)]; rfl, h.frozen _⟩
theorem Rw.setCell (h : Rw w b t L) (o : Nat) (v : Value) : Rw (w.setCell ⟨b, o, none⟩ v) b t (L.set o v) := by
  have hl := (Array.getElem?_eq_some_iff.1 (show w.heap[b]? = some (.cells L.toArray t (0, 0)) from h)).1
  unfold Rw
  simp [World.setCell, hl, Array.getElem_modify, (Array.getElem?_eq_some_iff.1 (show w.heap[b]? = some (.cells L.toArray t (0, 0)) from h)).2]
theorem set_splice (L : List Value) (o : Nat) (v : Value) (cs : List Value) (h : o + 1 + cs.length ≤ L.length) : splice (L.set o v) (o + 1) cs = splice L o (v :: cs) := by
  unfold splice
  rw [List.drop_set_of_lt (by omega), List.length_cons, show o + (cs.length + 1) = o + 1 + cs.length by omega, List.take_set, List.take_succ_eq_append_getElem (by omega), List.set_append_right _ _ (by simp; omega)]
  simp [Nat.min_eq_left (show o ≤ L.length by omega)]
theorem Rw.setCells (cs : List Value) : ∀ {w : World} {L : List Value} (o : Nat), Rw w b t L → o + cs.length ≤ L.length → Rw (w.setCells b o cs) b t (splice L o cs) := by
  induction cs with
  | nil => intro w L o h hn; simpa [World.setCells, splice] using h
  | cons v cs ih =>
    intro w L o h hn
    rw [World.setCells]
    have := ih (o + 1) (h.setCell o v) (by simp at hn ⊢; omega)
    rwa [set_splice _ _ _ _ (by simp at hn; omega)] at this
theorem Rw.other (h : Rw w b t L) (g o : Nat) (cs : List Value) (hne : b ≠ g) : Rw (w.setCells g o cs) b t L := (World.heap_setCells_other w g o cs h.lt hne).trans h
theorem Rw.otherCell (h : Rw w b t L) (g o : Nat) (v : Value) (hne : b ≠ g) : Rw (w.setCell ⟨g, o, none⟩ v) b t L := (Below.heap_setCell w ⟨g, o, none⟩ v b hne).trans h
end
theorem setCells_keeps (g : Nat) (cs : List Value) : ∀ (o : Nat) (w : World), (w.setCells g o cs).tape = w.tape ∧ (w.setCells g o cs).heap.size = w.heap.size := by
  induction cs with
  | nil => intro o w; exact ⟨rfl, rfl⟩
  | cons v cs ih => intro o w; rw [World.setCells]; exact ⟨(ih _ _).1.trans rfl, (ih _ _).2.trans (by simp [World.setCell])⟩
/-- 'copy' of elements of many cells. -/
theorem run_copy_cells {P : Program} (w : World) (dT sT ty elem : TypeId) (size : Nat) (b o dLen dCap b' o' sLen sCap n : Nat) (cs : List Value) (hu : P.underlying dT = some (.slice elem)) (hsz : (P.info? elem).map (·.size) = some size)
    (hn : Nat.min sLen dLen = n) (hl : cs.length = n * size) (hr : w.rangeAt b' o' cs) (ht : w.there b o cs.length) (h1 : ∀ v ∈ cs, v.oneCell' = true) :
    (Builtin.copy_ #[dT, sT] ty #[.slice (some ⟨b, o, none⟩) dLen dCap, .slice (some ⟨b', o', none⟩) sLen sCap]).run P w = .ok (goInt n) (w.setCells b o cs) := by
  have hld : (loadCells ⟨b', o', none⟩ cs.length).run P w = .ok cs.toArray w := run_loadCells_list (P := P) w ⟨b', o', none⟩ cs (fun j v hv => by rw [Addr.add_mid]; exact hr j v hv)
  have hst := run_storeCells_cells (P := P) b o cs 0 w (fun j hj => by simpa using (ht j hj).1) (fun j hj => by simpa using (ht j hj).2) h1
  have hz : (Go.sizeOf elem).run P w = .ok size w := by
    cases hq : P.info? elem with
    | none => simp [hq] at hsz
    | some i =>
      have : i.size = size := by simpa [hq] using hsz
      simp [sizeOf, typeInfo, hq, this]
  rw [hl] at hld
  simp only [Nat.add_zero] at hst
  simp [Builtin.copy_, run_underlying hu, Builtin.lenOf, Builtin.firstCells, hz, hn, hld, hst]
end Go.Proofs.YtjlncjabiofklaaDoor.Dv
end
section
namespace Go.Proofs.YtjlncjabiofklaaDoor.Dv
open Go Go.RowKit
abbrev TD : TypeId := 51
abbrev TS : TypeId := 68
abbrev TW : TypeId := 70
/-- Where a pointer points to. -/
def ptrB : Value → Option Nat
  | .pointer (some a) => some a.block
  | _ => none
/-- The fuse in memory. -/
def Fu (w : World) (fv : Value) (F : Option Nat) : Prop :=
  (F = none ∧ fv = .pointer none) ∨ ∃ b k, F = some k ∧ fv = .pointer (some ⟨b, 0, none⟩) ∧ Rw w b 3 [.int .i64 (k : Int)]
/-- The blocks of a drive. -/
def Bs (g bv bd : Nat) (pv fv : Value) (k : Nat) : Prop := k = g ∨ k = bv ∨ k = bd ∨ pv.ownBlock = some k ∨ ptrB fv = some k
/-- A drive in memory. -/
structure AtV (w : World) (g bv bd : Nat) (pv fv : Value) (V : List Sec) (x : Dr) : Prop where
  blk : Rw w g TD [.slice (some ⟨bv, 0, none⟩) x.n x.n, .slice (some ⟨bd, 0, none⟩) x.n x.n, pv, fv]
  v : Rw w bv TS (flat V)
  d : Rw w bd TS (flat x.D)
  p : w.ownsRow 0 TW 65 pv x.P.length (flatP x.P)
  f : Fu w fv x.F
  ne : bv ≠ bd
abbrev At (w : World) (g bv bd : Nat) (pv fv : Value) (x : Dr) : Prop := AtV w g bv bd pv fv x.V x
/-- What is kept but for some blocks. -/
structure Keeps (T : Nat → Prop) (w w' : World) : Prop where
  os : w'.os = w.os
  tape : w'.tape = w.tape
  output : w'.output = w.output
  size : w.heap.size ≤ w'.heap.size
  block : ∀ k, k < w.heap.size → ¬ T k → w'.heap[k]? = w.heap[k]?
section
variable {T S : Nat → Prop} {w w' w'' : World} {b o : Nat} {t : TypeId} {L : List Value}
theorem Keeps.refl (T : Nat → Prop) (w : World) : Keeps T w w := ⟨rfl, rfl, rfl, Nat.le_refl _, fun _ _ _ => rfl⟩
theorem Keeps.of (T : Nat → Prop) (h : Below w.heap.size w w') : Keeps T w w' := ⟨h.os, h.tape, h.output, h.size, fun k hk _ => h.block k hk⟩
theorem Keeps.trans (h : Keeps T w w') (k : Keeps T w' w'') : Keeps T w w'' :=
  ⟨k.os.trans h.os, k.tape.trans h.tape, k.output.trans h.output, Nat.le_trans h.size k.size, fun j hj hT => (k.block j (Nat.lt_of_lt_of_le hj h.size) hT).trans (h.block j hj hT)⟩
/-- Blocks that are new may be written. -/
theorem Keeps.then (h : Keeps T w w') (k : Keeps S w' w'') (hS : ∀ j, S j → T j ∨ w.heap.size ≤ j) : Keeps T w w'' :=
  ⟨k.os.trans h.os, k.tape.trans h.tape, k.output.trans h.output, Nat.le_trans h.size k.size, fun j hj hT => (k.block j (Nat.lt_of_lt_of_le hj h.size) (fun hs => (hS j hs).elim hT (fun hl => by omega))).trans (h.block j hj hT)⟩
theorem Keeps.mono (h : Keeps T w w') (hS : ∀ j, T j → S j ∨ w.heap.size ≤ j) : Keeps S w w' := (Keeps.refl S w).then h hS
theorem Keeps.below {lo : Nat} (h : Keeps T w w') (hT : ∀ j, T j → lo ≤ j) (hl : lo ≤ w.heap.size) : Below lo w w' := ⟨h.os, h.tape, h.output, h.size, fun k hk => h.block k (by omega) fun ht => by have := hT k ht; omega⟩
theorem Keeps.belowT {lo : Nat} {a : World} (h : Below lo a w) (k : Keeps T w w') (hT : ∀ j, T j → lo ≤ j) (hl : lo ≤ w.heap.size) : Below lo a w' := h.trans (k.below hT hl)
theorem Keeps.drew (h : Keeps T w w') : Keeps T w w'.drew := ⟨h.os, h.tape, h.output, h.size, h.block⟩
theorem Keeps.drewN (h : Keeps T w w') (n : Nat) : Keeps T w (w'.drewN n) := ⟨h.os, h.tape, h.output, h.size, h.block⟩
theorem Keeps.alloc (h : Keeps T w w') (o : Obj) : Keeps T w (w'.alloc o) := h.trans (Keeps.of T ((Below.refl _ w').alloc (Nat.le_refl _) o))
theorem Keeps.setCells (h : Keeps T w w') (g o : Nat) (cs : List Value) (hg : T g ∨ w.heap.size ≤ g) : Keeps T w (w'.setCells g o cs) :=
  h.then (S := fun k => k = g) ⟨World.os_setCells .., (setCells_keeps g cs o w').1, World.output_setCells .., by rw [(setCells_keeps g cs o w').2]; exact Nat.le_refl _, fun k hk hne => World.heap_setCells_other w' g o cs hk hne⟩ fun j hj => by subst hj; exact hg
theorem Keeps.setCell (h : Keeps T w w') (g o : Nat) (v : Value) (hg : T g ∨ w.heap.size ≤ g) : Keeps T w (w'.setCell ⟨g, o, none⟩ v) :=
  h.then (S := fun k => k = g) ⟨rfl, rfl, rfl, by simp [World.setCell], fun k hk hne => Below.heap_setCell w' ⟨g, o, none⟩ v k hne⟩ fun j hj => by subst hj; exact hg
theorem Keeps.grown {row : Option Nat} (h : Keeps T w w') (hg : w'.grownBy w'' row) (hr : ∀ k, row = some k → T k ∨ w.heap.size ≤ k) : Keeps T w w'' :=
  h.then (S := fun k => row = some k) ⟨hg.os, hg.tape, hg.output, hg.size, fun k hk hne => hg.block k hk fun e => hne e.symm⟩ hr
theorem Rw.keeps (h : Rw w b t L) (k : Keeps T w w') (hb : ¬ T b) : Rw w' b t L := h.of (k.block b h.lt hb)
end
theorem Fu.keeps {T : Nat → Prop} {w w' : World} {fv : Value} {F : Option Nat} (h : Fu w fv F) (k : Keeps T w w') (hT : ∀ j, ptrB fv = some j → ¬ T j) : Fu w' fv F := by
  rcases h with h | ⟨b, n, h1, rfl, h3⟩
  · exact .inl h
  · exact .inr ⟨b, n, h1, rfl, h3.keeps k (hT b rfl)⟩
theorem own_keeps {T : Nat → Prop} {w w' : World} {base e size n : Nat} {v : Value} {xs : List Value} (h : w.ownsRow base e size v n xs) (k : Keeps T w w') (hT : ∀ j, v.ownBlock = some j → ¬ T j) : w'.ownsRow base e size v n xs := by
  rcases id h.2 with ⟨rfl, h0⟩ | ⟨g, cap, cur, rfl, hg, hb, hr⟩
  · exact ⟨h.1, .inl ⟨rfl, h0⟩⟩
  · exact ⟨h.1, .inr ⟨g, cap, cur, rfl, hg, (k.block g (Array.getElem?_eq_some_iff.1 hb).1 (hT g rfl)).trans hb, hr⟩⟩
theorem AtV.keeps {T : Nat → Prop} {w w' : World} {g bv bd : Nat} {pv fv : Value} {V : List Sec} {x : Dr} (h : AtV w g bv bd pv fv V x) (k : Keeps T w w') (hT : ∀ j, Bs g bv bd pv fv j → ¬ T j) : AtV w' g bv bd pv fv V x :=
  ⟨h.blk.keeps k (hT g (.inl rfl)), h.v.keeps k (hT bv (.inr (.inl rfl))), h.d.keeps k (hT bd (.inr (.inr (.inl rfl)))), own_keeps h.p k fun j hj => hT j (.inr (.inr (.inr (.inl hj)))), h.f.keeps k fun j hj => hT j (.inr (.inr (.inr (.inr hj)))), h.ne⟩
theorem AtV.lt {w : World} {g bv bd : Nat} {pv fv : Value} {V : List Sec} {x : Dr} (h : AtV w g bv bd pv fv V x) : ∀ j, Bs g bv bd pv fv j → j < w.heap.size := by
  intro j hj
  rcases hj with rfl | rfl | rfl | hj | hj
  · exact h.blk.lt
  · exact h.v.lt
  · exact h.d.lt
  · exact (h.p.lt j hj).2
  · rcases h.f with ⟨_, rfl⟩ | ⟨b, n, _, rfl, h3⟩
    · cases hj
    · cases hj; exact h3.lt
theorem AtV.later {w w' : World} {g bv bd : Nat} {pv fv : Value} {V : List Sec} {x : Dr} (h : AtV w g bv bd pv fv V x) (k : Below w.heap.size w w') : AtV w' g bv bd pv fv V x := h.keeps (Keeps.of (fun _ => False) k) fun _ _ h => h
end Go.Proofs.YtjlncjabiofklaaDoor.Dv
end
