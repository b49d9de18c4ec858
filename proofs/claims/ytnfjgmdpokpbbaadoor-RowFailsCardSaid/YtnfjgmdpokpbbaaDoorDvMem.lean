/- Package drive: blocks of many cells: parts read, parts written, copies. -/
import Derived.Test.YtnfjgmdpokpbbaaDoorDvMath
import Derived.WalkKit
import Derived.Below
import Derived.Lib.Hide
import Derived.Deep.MidRow
import Derived.Laws.CopyOwn
import Derived.Deep.Upon
namespace Go.Proofs.YtnfjgmdpokpbbaaDoor.Dv
open Go Go.RowKit
def bv (b : UInt8) : Value := .int .u8 (b.toNat : Int)
/-- The cells of a text. -/
def sc (s : List UInt8) : List Value := s.map bv
/-- The cells of sectors. -/
def flat (L : List (List UInt8)) : List Value := L.flatMap sc
/-- The cells of an open write; of many. -/
def wc (p : Nat × List UInt8) : List Value := .int .i64 (p.1 : Int) :: sc p.2
def flatP (P : List (Nat × List UInt8)) : List Value := P.flatMap wc
theorem sc_len (s : List UInt8) : (sc s).length = s.length := by simp [sc]
theorem sc_one {s : List UInt8} : ∀ v ∈ sc s, v.oneCell' = true := by
  intro v hv
  obtain ⟨b, _, rfl⟩ := List.mem_map.1 hv
  rfl
theorem flat_one {L : List (List UInt8)} : ∀ v ∈ flat L, v.oneCell' = true := by
  intro v hv
  obtain ⟨s, _, hs⟩ := List.mem_flatMap.1 hv
  exact sc_one v hs
theorem wc_one {p : Nat × List UInt8} : ∀ v ∈ wc p, v.oneCell' = true := by
  intro v hv
  rcases List.mem_cons.1 hv with rfl | hv
  · rfl
  · exact sc_one v hv
theorem flatP_one {P : List (Nat × List UInt8)} : ∀ v ∈ flatP P, v.oneCell' = true := by
  intro v hv
  obtain ⟨p, _, hs⟩ := List.mem_flatMap.1 hv
  exact wc_one v hs
theorem flat_len {L : List (List UInt8)} (h : ∀ s ∈ L, s.length = 64) : (flat L).length = L.length * 64 := by
  induction L with
  | nil => rfl
  | cons s L ih =>
    show (sc s ++ flat L).length = _
    rw [List.length_append, sc_len, h s List.mem_cons_self, ih fun t ht => h t (List.mem_cons_of_mem _ ht), List.length_cons]
    omega
theorem flatP_len {P : List (Nat × List UInt8)} (h : ∀ q ∈ P, q.2.length = 64) : (flatP P).length = P.length * 65 := by
  induction P with
  | nil => rfl
  | cons p P ih =>
    show (wc p ++ flatP P).length = _
    rw [List.length_append, show (wc p).length = 65 by simp [wc, sc_len, h p List.mem_cons_self], ih fun t ht => h t (List.mem_cons_of_mem _ ht), List.length_cons]
    omega
theorem flatP_snoc (P : List (Nat × List UInt8)) (p : Nat × List UInt8) : flatP (P ++ [p]) = flatP P ++ wc p := by simp [flatP]
theorem flat_at {L : List (List UInt8)} (h : ∀ s ∈ L, s.length = 64) : ∀ (i : Nat) (hi : i < L.length), ((flat L).drop (i * 64)).take 64 = sc L[i] := by
  induction L with
  | nil => intro i hi; simp at hi
  | cons s L ih =>
    intro i hi
    have hs := h s List.mem_cons_self
    have hsc : (sc s).length = 64 := by rw [sc_len, hs]
    show ((sc s ++ flat L).drop (i * 64)).take 64 = _
    cases i with
    | zero =>
      rw [Nat.zero_mul, List.drop_zero, List.take_left' hsc]
      rfl
    | succ i =>
      rw [show (i + 1) * 64 = (sc s).length + i * 64 by rw [hsc]; omega, List.drop_append, List.drop_eq_nil_of_le (by omega), List.nil_append, Nat.add_sub_cancel_left]
      exact ih (fun t ht => h t (List.mem_cons_of_mem _ ht)) i (by simpa using hi)
theorem flatP_at {P : List (Nat × List UInt8)} (h : ∀ q ∈ P, q.2.length = 64) : ∀ (i : Nat) (hi : i < P.length), ((flatP P).drop (i * 65)).take 65 = wc P[i] := by
  induction P with
  | nil => intro i hi; simp at hi
  | cons s L ih =>
    intro i hi
    have hs := h s List.mem_cons_self
    have hsc : (wc s).length = 65 := by simp [wc, sc_len, hs]
    show ((wc s ++ flatP L).drop (i * 65)).take 65 = _
    cases i with
    | zero =>
      rw [Nat.zero_mul, List.drop_zero, List.take_left' hsc]
      rfl
    | succ i =>
      rw [show (i + 1) * 65 = (wc s).length + i * 65 by rw [hsc]; omega, List.drop_append, List.drop_eq_nil_of_le (by omega), List.nil_append, Nat.add_sub_cancel_left]
      exact ih (fun t ht => h t (List.mem_cons_of_mem _ ht)) i (by simpa using hi)
theorem flat_set {L : List (List UInt8)} (h : ∀ s ∈ L, s.length = 64) : ∀ (i : Nat) (s : List UInt8), s.length = 64 → i < L.length → splice (flat L) (i * 64) (sc s) = flat (L.set i s) := by
  induction L with
  | nil => intro i s _ hi; simp at hi
  | cons t L ih =>
    intro i s hs hi
    have ht := h t List.mem_cons_self
    have htc : (sc t).length = 64 := by rw [sc_len, ht]
    have hsc : (sc s).length = 64 := by rw [sc_len, hs]
    show splice (sc t ++ flat L) (i * 64) (sc s) = _
    unfold splice
    cases i with
    | zero =>
      rw [Nat.zero_mul, List.take_zero, Nat.zero_add, hsc, List.nil_append, List.drop_left' htc]
      rfl
    | succ i =>
      have ih' := ih (fun t ht => h t (List.mem_cons_of_mem _ ht)) i s hs (by simpa using hi)
      unfold splice at ih'
      rw [show (i + 1) * 64 = (sc t).length + i * 64 by rw [htc]; omega, List.take_append, List.take_of_length_le (by omega), show (sc t).length + i * 64 - (sc t).length = i * 64 by omega, show (sc t).length + i * 64 + (sc s).length = (sc t).length + (i * 64 + (sc s).length) by omega, List.drop_append, List.drop_eq_nil_of_le (by omega), List.nil_append, Nat.add_sub_cancel_left, List.append_assoc, ih']
      rfl
theorem flat_part {L : List (List UInt8)} (h : ∀ s ∈ L, s.length = 64) : ∀ (i : Nat) (s : List UInt8), s.length ≤ 64 → (hi : i < L.length) → splice (flat L) (i * 64) (sc s) = flat (L.set i (s ++ L[i].drop s.length)) := by
  induction L with
  | nil => intro i s _ hi; simp at hi
  | cons t L ih =>
    intro i s hs hi
    have ht := h t List.mem_cons_self
    have htc : (sc t).length = 64 := by rw [sc_len, ht]
    have hsc : (sc s).length = s.length := sc_len s
    show splice (sc t ++ flat L) (i * 64) (sc s) = _
    unfold splice
    cases i with
    | zero =>
      rw [Nat.zero_mul, List.take_zero, Nat.zero_add, hsc, List.nil_append, List.drop_append_of_le_length (by omega)]
      show _ = sc (s ++ t.drop s.length) ++ flat L
      simp [sc, List.map_drop]
    | succ i =>
      have ih' := ih (fun t ht => h t (List.mem_cons_of_mem _ ht)) i s hs (by simpa using hi)
      unfold splice at ih'
      rw [show (i + 1) * 64 = (sc t).length + i * 64 by rw [htc]; omega, List.take_append, List.take_of_length_le (by omega), show (sc t).length + i * 64 - (sc t).length = i * 64 by omega, show (sc t).length + i * 64 + (sc s).length = (sc t).length + (i * 64 + (sc s).length) by omega, List.drop_append, List.drop_eq_nil_of_le (by omega), List.nil_append, Nat.add_sub_cancel_left, List.append_assoc, ih']
      rfl
/-- A block known whole. -/
def Rw (w : World) (b : Nat) (t : TypeId) (L : List Value) : Prop := w.heap[b]? = some (.cells L.toArray t (0, 0))
section
variable {w w' : World} {b : Nat} {t : TypeId} {L : List Value}
theorem Rw.lt (h : Rw w b t L) : b < w.heap.size := (Array.getElem?_eq_some_iff.1 h).1
theorem Rw.cell (h : Rw w b t L) (o : Nat) : w.cell? ⟨b, o, none⟩ = L[o]? := by simp [World.cell?, show w.heap[b]? = _ from h]
theorem Rw.frozen (h : Rw w b t L) (o : Nat) : w.frozen? ⟨b, o, none⟩ = false := by simp [World.frozen?, show w.heap[b]? = _ from h]
theorem Rw.later (h : Rw w b t L) (hb : Below w.heap.size w w') : Rw w' b t L := (hb.block b h.lt).trans h
theorem Rw.of (h : Rw w b t L) (e : w'.heap[b]? = w.heap[b]?) : Rw w' b t L := e.trans h
theorem Rw.drew (h : Rw w b t L) : Rw w.drew b t L := h
theorem Rw.new (w : World) (L : List Value) (t : TypeId) : Rw (w.alloc (.cells L.toArray t)) w.heap.size t L := heap_alloc_new w _
theorem Rw.range (h : Rw w b t L) (o : Nat) (cs : List Value) (hc : (L.drop o).take cs.length = cs) : w.rangeAt b o cs := by
  intro j v hv
  have hj := (List.getElem?_eq_some_iff.1 hv).1
  rw [h.cell, ← hv]
  conv => rhs; rw [← hc]
  rw [List.getElem?_take_of_lt hj, List.getElem?_drop]
theorem Rw.there (h : Rw w b t L) (o n : Nat) (hn : o + n ≤ L.length) : w.there b o n := fun j hj =>
  ⟨by rw [h.cell, List.getElem?_eq_getElem (by omega)]; rfl, h.frozen _⟩
theorem Rw.setCell (h : Rw w b t L) (o : Nat) (v : Value) : Rw (w.setCell ⟨b, o, none⟩ v) b t (L.set o v) := by
  have hl := (Array.getElem?_eq_some_iff.1 (show w.heap[b]? = some (.cells L.toArray t (0, 0)) from h)).1
  unfold Rw
  simp [World.setCell, hl, Array.getElem_modify, (Array.getElem?_eq_some_iff.1 (show w.heap[b]? = some (.cells L.toArray t (0, 0)) from h)).2]
theorem set_splice (L : List Value) (o : Nat) (v : Value) (cs : List Value) (h : o + 1 + cs.length ≤ L.length) : splice (L.set o v) (o + 1) cs = splice L o (v :: cs) := by
  unfold splice
  rw [List.drop_set_of_lt (by omega), List.length_cons, show o + (cs.length + 1) = o + 1 + cs.length by omega, List.take_set, List.take_succ_eq_append_getElem (by omega), List.set_append_right _ _ (by simp; omega)]
  simp [Nat.min_eq_left (show o ≤ L.length by omega)]
theorem Rw.setCells (cs : List Value) : ∀ {w : World} {L : List Value} (o : Nat), Rw w b t L → o + cs.length ≤ L.length → Rw (w.setCells b o cs) b t (splice L o cs) := by
  induction cs with
  | nil => intro w L o h hn; simpa [World.setCells, splice] using h
  | cons v cs ih =>
    intro w L o h hn
    rw [World.setCells]
    have := ih (o + 1) (h.setCell o v) (by simp at hn ⊢; omega)
    rwa [set_splice _ _ _ _ (by simp at hn; omega)] at this
theorem Rw.other (h : Rw w b t L) (g o : Nat) (cs : List Value) (hne : b ≠ g) : Rw (w.setCells g o cs) b t L := (World.heap_setCells_other w g o cs h.lt hne).trans h
theorem Rw.otherCell (h : Rw w b t L) (g o : Nat) (v : Value) (hne : b ≠ g) : Rw (w.setCell ⟨g, o, none⟩ v) b t L := (Below.heap_setCell w ⟨g, o, none⟩ v b hne).trans h
end
theorem setCells_keeps (g : Nat) (cs : List Value) : ∀ (o : Nat) (w : World), (w.setCells g o cs).tape = w.tape ∧ (w.setCells g o cs).heap.size = w.heap.size := by
  induction cs with
  | nil => intro o w; exact ⟨rfl, rfl⟩
  | cons v cs ih => intro o w; rw [World.setCells]; exact ⟨(ih _ _).1.trans rfl, (ih _ _).2.trans (by simp [World.setCell])⟩
/-- 'copy' of elements of many cells. -/
theorem run_copy_cells {P : Program} (w : World) (dT sT ty elem : TypeId) (size : Nat) (b o dLen dCap b' o' sLen sCap n : Nat) (cs : List Value) (hu : P.underlying dT = some (.slice elem)) (hsz : (P.info? elem).map (·.size) = some size)
    (hn : Nat.min sLen dLen = n) (hl : cs.length = n * size) (hr : w.rangeAt b' o' cs) (ht : w.there b o cs.length) (h1 : ∀ v ∈ cs, v.oneCell' = true) :
    (Builtin.copy_ #[dT, sT] ty #[.slice (some ⟨b, o, none⟩) dLen dCap, .slice (some ⟨b', o', none⟩) sLen sCap]).run P w = .ok (goInt n) (w.setCells b o cs) := by
  have hld : (loadCells ⟨b', o', none⟩ cs.length).run P w = .ok cs.toArray w := run_loadCells_list (P := P) w ⟨b', o', none⟩ cs (fun j v hv => by rw [Addr.add_mid]; exact hr j v hv)
  have hst := run_storeCells_cells (P := P) b o cs 0 w (fun j hj => by simpa using (ht j hj).1) (fun j hj => by simpa using (ht j hj).2) h1
  have hz : (Go.sizeOf elem).run P w = .ok size w := by
    cases hq : P.info? elem with
    | none => simp [hq] at hsz
    | some i =>
      have : i.size = size := by simpa [hq] using hsz
      simp [sizeOf, typeInfo, hq, this]
  rw [hl] at hld
  simp only [Nat.add_zero] at hst
  simp [Builtin.copy_, run_underlying hu, Builtin.lenOf, Builtin.firstCells, hz, hn, hld, hst]
end Go.Proofs.YtnfjgmdpokpbbaaDoor.Dv
