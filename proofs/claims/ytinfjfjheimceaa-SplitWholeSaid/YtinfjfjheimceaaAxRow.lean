/- The document's integers as rows of bits: the words of their contracts. -/
import Derived.Test.YtinfjfjheimceaaAxBits
import Derived.Test.YtinfjfjheimceaaAxOps
import Derived.Test.YtinfjfjheimceaaCmRow
namespace Go.Proofs.Ytinfjfjheimceaa.Bw
open Go.RowKit Cm Bz
def rowOf (f : Nat → Int) : List Value := (List.range 136).map fun j => .int .i64 (f j)
theorem rowOf_len (f : Nat → Int) : (rowOf f).length = 136 := by unfold rowOf; simp
theorem rowOf_get (f : Nat → Int) (i : Nat) (h : i < 136) : (rowOf f)[i]? = some (.int .i64 (f i)) := by
  unfold rowOf
  rw [List.getElem?_map, List.getElem?_range h]; rfl
theorem rowOf_at (f : Nat → Int) (i : Nat) (h : i < (rowOf f).length) : (rowOf f)[i] = .int .i64 (f i) := by
  have h1 := rowOf_get f i (by rw [rowOf_len] at h; exact h)
  rw [List.getElem?_eq_getElem h] at h1
  exact Option.some.inj h1
theorem rowOf_congr {f g : Nat → Int} (h : ∀ j, j < 136 → f j = g j) : rowOf f = rowOf g := by
  unfold rowOf
  refine List.map_congr_left fun j hj => ?_
  rw [h j (List.mem_range.1 hj)]
theorem rowOf_set (f : Nat → Int) (i : Nat) (v : Int) : (rowOf f).set i (.int .i64 v) = rowOf fun j => if j = i then v else f j := by
  refine List.ext_getElem (by rw [List.length_set, rowOf_len, rowOf_len]) fun j h1 h2 => ?_
  rw [List.getElem_set, rowOf_at, rowOf_at]
  by_cases e : i = j
  · rw [if_pos e, if_pos e.symm]
  · rw [if_neg e, if_neg (fun h => e h.symm)]
def upTo (f : Nat → Int) (i : Nat) : Nat → Int := fun j => if j < i then f j else 0
theorem upTo_set (f : Nat → Int) (i : Nat) : (rowOf (upTo f i)).set i (.int .i64 (f i)) = rowOf (upTo f (i + 1)) := by
  rw [rowOf_set]
  refine rowOf_congr fun j _ => ?_
  unfold upTo
  by_cases e : j = i
  · subst e; rw [if_pos rfl, if_pos (by omega)]
  · rw [if_neg e]
    by_cases h : j < i
    · rw [if_pos h, if_pos (by omega)]
    · rw [if_neg h, if_neg (by omega)]
theorem upTo_skip (f : Nat → Int) (i : Nat) (h : f i = 0) : rowOf (upTo f i) = rowOf (upTo f (i + 1)) := by
  refine rowOf_congr fun j _ => ?_
  unfold upTo
  by_cases e : j = i
  · subst e; rw [if_neg (by omega), if_pos (by omega), h]
  · by_cases h : j < i
    · rw [if_pos h, if_pos (by omega)]
    · rw [if_neg h, if_neg (by omega)]
theorem upTo_all (f : Nat → Int) (i : Nat) (h : 136 ≤ i) : rowOf (upTo f i) = rowOf f := by
  refine rowOf_congr fun j hj => ?_
  unfold upTo; rw [if_pos (by omega)]
/-- The bits of an integer lie in a block. -/
def BitsAt (w : World) (g : Nat) (z : Int) : Prop := RowAt w g (rowOf (bit z))
theorem BitsAt.cell {w : World} {g : Nat} {z : Int} (h : BitsAt w g z) (i : Nat) (hi : i < 136) : w.cell? ⟨g, i, none⟩ = some (.int .i64 (bit z i)) := by
  have := RowAt.cell h i (by rw [rowOf_len]; exact hi)
  rwa [rowOf_at] at this
theorem part_cell {w : World} {g : Nat} {f : Nat → Int} (h : RowAt w g (rowOf f)) (i : Nat) (hi : i < 136) : w.cell? ⟨g, i, none⟩ = some (.int .i64 (f i)) := by
  have := h.cell i (by rw [rowOf_len]; exact hi)
  rwa [rowOf_at] at this
theorem part_free {w : World} {g : Nat} {f : Nat → Int} (h : RowAt w g (rowOf f)) (i : Nat) (hi : i < 136) : w.frozen? ⟨g, i, none⟩ = false := h.free i (by rw [rowOf_len]; exact hi)
/-- What a maker of bits answers. -/
def BitsRes (z : Int) (w : World) (e : Ending) (w' : World) : Prop := ∃ g, e = .returned (.slice (some ⟨g, 0, none⟩) 136 136) ∧ BitsAt w' g z ∧ Below w.heap.size w w'
/-- 136 new numbers. -/
def mk136 (u : World) : World := u.alloc (.cells (madeCells #[.int .i64 0] 136) 3)
theorem _root_.Go.Proofs.Ytinfjfjheimceaa.Try.info3 : (Try.prog.info? 3).map (fun i => (i.zero, i.size, i.bytes)) = some (some (.int .i64 0), 1, 8) := by kernel_rfl
theorem make136 (u : World) : (Instr.makeSlice 67 (.int .i64 136) (.int .i64 136)).run Try.prog u = .ok (.slice (some ⟨u.heap.size, 0, none⟩) 136 136) (mk136 u) := by
  obtain ⟨i0, hi, hz0, hz1, hz2⟩ := info_parts Try.info3
  have := run_make (P := Try.prog) u 67 3 i0 (.int .i64 0) Try.underlying67 hi hz0 .i64 .i64 136 136 (by omega) (by omega) (by rw [hz2]; omega) (by omega)
  rw [hz1] at this
  exact this
theorem new_row (w : World) : RowAt (mk136 w) w.heap.size (rowOf (fun _ => 0)) := by
  have h := row_new w (rowOf fun _ => 0) 3
  have e : (rowOf fun _ => 0).toArray = madeCells #[.int .i64 0] 136 := by
    unfold rowOf madeCells
    apply Array.ext'
    simp
    intro a _
    rw [Nat.mod_one]; rfl
  rwa [e] at h
theorem new_row' (w : World) (f : Nat → Int) : RowAt (mk136 w) w.heap.size (rowOf (upTo f 0)) := by
  have e : rowOf (upTo f 0) = rowOf (fun _ => 0) := rowOf_congr fun j _ => by unfold upTo; rw [if_neg (by omega)]
  rw [e]; exact new_row w
theorem new_below (w : World) : Below w.heap.size w (mk136 w) := (Below.refl _ w).alloc (Nat.le_refl _) _
end Go.Proofs.Ytinfjfjheimceaa.Bw
