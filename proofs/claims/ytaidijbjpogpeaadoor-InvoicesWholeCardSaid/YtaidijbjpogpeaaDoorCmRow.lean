/- A row of cells in a block: what it holds, and what becomes of it. -/
import Derived.WalkKit
import Derived.Lib.Hide
import Derived.Laws.IdiomStrings
import Derived.Deep.Draws
namespace Go.Proofs.YtaidijbjpogpeaaDoor.Cm
open Go.RowKit
structure RowAt (w : World) (g : Nat) (xs : List Value) : Prop where
  lt : g < w.heap.size
  cell : ∀ j (h : j < xs.length), w.cell? ⟨g, j, none⟩ = some xs[j]
  free : ∀ j, j < xs.length → w.frozen? ⟨g, j, none⟩ = false
theorem RowAt.under {w w' : World} {g B : Nat} {xs : List Value} (h : RowAt w g xs) (hb : Below B w w') (hg : g < B) : RowAt w' g xs := by
  have := hb.size
  have := h.lt
  refine ⟨by omega, fun j hj => ?_, fun j hj => ?_⟩
  · rw [hb.cell (by simpa using hg)]; exact h.cell j hj
  · rw [hb.frozen (by simpa using hg)]; exact h.free j hj
theorem RowAt.later {w w' : World} {g : Nat} {xs : List Value} (h : RowAt w g xs) (hb : Below w.heap.size w w') : RowAt w' g xs := h.under hb h.lt
theorem RowAt.alloc {w : World} {g : Nat} {xs : List Value} (h : RowAt w g xs) (o : Obj) : RowAt (w.alloc o) g xs := h.later ((Below.refl _ w).alloc (Nat.le_refl _) o)
theorem RowAt.drew {w : World} {g : Nat} {xs : List Value} (h : RowAt w g xs) : RowAt w.drew g xs := ⟨h.lt, h.cell, h.free⟩
theorem RowAt.drewN {w : World} {g n : Nat} {xs : List Value} (h : RowAt w g xs) : RowAt (w.drewN n) g xs := ⟨h.lt, h.cell, h.free⟩
theorem RowAt.set {w : World} {g : Nat} {xs : List Value} (h : RowAt w g xs) (k : Nat) (v : Value) : RowAt (w.setCell ⟨g, k, none⟩ v) g (xs.set k v) := by
  refine ⟨by simpa [World.setCell] using h.lt, fun j hj => ?_, fun j hj => ?_⟩
  · have hj' : j < xs.length := by simpa using hj
    by_cases hk : k = j
    · subst hk
      rw [World.cell?_setCell_same w _ v (h.cell _ hj')]
      simp
    · rw [World.cell?_setCell_other w _ _ v (fun e => hk (congrArg Addr.off e)), h.cell j hj']
      simp [hk]
  · rw [World.frozen?_setCell]
    exact h.free j (by simpa using hj)
theorem RowAt.other {w : World} {g : Nat} {xs : List Value} (h : RowAt w g xs) (a : Addr) (v : Value) (ha : a.block ≠ g) : RowAt (w.setCell a v) g xs := by
  refine ⟨by simpa [World.setCell] using h.lt, fun j hj => ?_, fun j hj => ?_⟩
  · rw [World.cell?_setCell_other w _ _ v (by intro e; subst e; exact ha rfl), h.cell j hj]
  · rw [World.frozen?_setCell]
    exact h.free j hj
theorem row_new (w : World) (cs : List Value) (t : TypeId) : RowAt (w.alloc (.cells cs.toArray t)) w.heap.size cs := by
  refine ⟨by simp, fun j hj => ?_, fun j hj => ?_⟩
  · rw [World.cell?_alloc_at _ _ _ _ rfl]; simp [hj]
  · rw [World.frozen?_alloc_at _ _ _ _ rfl]
/-- The first k changed. -/
def mix {α β : Type} (f g : α → β) (l : List α) (k : Nat) : List β := (l.take k).map f ++ (l.drop k).map g
theorem mix_len {α β : Type} (f g : α → β) (l : List α) (k : Nat) : (mix f g l k).length = l.length := by
  unfold mix; simp; omega
theorem mix_zero {α β : Type} (f g : α → β) (l : List α) : mix f g l 0 = l.map g := by unfold mix; simp
theorem mix_all {α β : Type} (f g : α → β) (l : List α) (k : Nat) (h : l.length ≤ k) : mix f g l k = l.map f := by
  unfold mix; rw [List.take_of_length_le h, List.drop_of_length_le h]; simp
theorem mix_at {α β : Type} (f g : α → β) (l : List α) (k : Nat) (h : k < l.length) : (mix f g l k)[k]'(by rw [mix_len]; exact h) = g l[k] := by
  unfold mix
  rw [List.getElem_append_right (by simp; omega)]
  have e : k - min k l.length = 0 := by omega
  simp [e]
theorem mix_set {α β : Type} (f g : α → β) (l : List α) (k : Nat) (h : k < l.length) : (mix f g l k).set k (f l[k]) = mix f g l (k + 1) := by
  unfold mix
  have e : ((l.take k).map f).length = k := by simp; omega
  rw [List.set_append_right _ _ (by omega), e, Nat.sub_self, List.drop_eq_getElem_cons h, List.map_cons, List.set_cons_zero, List.take_succ_eq_append_getElem h, List.map_append]
  simp
end Go.Proofs.YtaidijbjpogpeaaDoor.Cm
