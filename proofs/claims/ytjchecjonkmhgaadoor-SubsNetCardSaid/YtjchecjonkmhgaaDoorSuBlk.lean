/- A block of cells that is one's own: what it holds, what stays, what a store leaves. -/
import Derived.Test.YtjchecjonkmhgaaDoorSjE
namespace Go.Proofs.YtjchecjonkmhgaaDoor.Su
open Go Go.RowKit
def Blk (W : World) (B : Nat) (xs : Array Value) (t : TypeId) : Prop := W.heap[B]? = some (.cells xs t (0, 0))
theorem Blk.lt {W : World} {B : Nat} {xs : Array Value} {t : TypeId} (h : Blk W B xs t) : B < W.heap.size := (Array.getElem?_eq_some_iff.1 h).1
theorem Blk.cell {W : World} {B : Nat} {xs : Array Value} {t : TypeId} (h : Blk W B xs t) (o : Nat) : W.cell? ⟨B, o, none⟩ = xs[o]? := by simp [World.cell?, show W.heap[B]? = _ from h]
theorem Blk.frozen {W : World} {B : Nat} {xs : Array Value} {t : TypeId} (h : Blk W B xs t) (o : Nat) : W.frozen? ⟨B, o, none⟩ = false := by simp [World.frozen?, show W.heap[B]? = _ from h]
theorem Blk.later {W W' : World} {B : Nat} {xs : Array Value} {t : TypeId} (h : Blk W B xs t) (hb : Below W.heap.size W W') : Blk W' B xs t := (hb.block B h.lt).trans h
theorem Blk.new (W : World) (xs : Array Value) (t : TypeId) : Blk (W.alloc (.cells xs t)) W.heap.size xs t := World.alloc_heap_new W _
theorem Blk.alloc {W : World} {B : Nat} {xs : Array Value} {t : TypeId} (h : Blk W B xs t) (o : Obj) : Blk (W.alloc o) B xs t := h.later ((Below.refl _ W).alloc (Nat.le_refl _) o)
theorem Blk.drew {W : World} {B : Nat} {xs : Array Value} {t : TypeId} (h : Blk W B xs t) : Blk W.drew B xs t := h
theorem Blk.set {W : World} {B : Nat} {xs : Array Value} {t : TypeId} (h : Blk W B xs t) (o : Nat) (v : Value) : Blk (W.setCell ⟨B, o, none⟩ v) B (xs.setIfInBounds o v) t := by
  unfold Blk at *
  have hl := (Array.getElem?_eq_some_iff.1 h).1
  simp [World.setCell, hl, Array.getElem_modify, (Array.getElem?_eq_some_iff.1 h).2]
theorem Blk.other {W : World} {B b : Nat} {xs : Array Value} {t : TypeId} (h : Blk W B xs t) (o : Nat) (v : Value) (hne : B ≠ b) : Blk (W.setCell ⟨b, o, none⟩ v) B xs t := (Below.heap_setCell W ⟨b, o, none⟩ v B hne).trans h
theorem Blk.four {W : World} {B : Nat} {a b c d : Value} {t : TypeId} (h : Blk W B #[a, b, c, d] t) (x0 x1 x2 x3 : Value) :
    Blk ((((W.setCell ⟨B, 0, none⟩ x0).setCell ⟨B, 1, none⟩ x1).setCell ⟨B, 2, none⟩ x2).setCell ⟨B, 3, none⟩ x3) B #[x0, x1, x2, x3] t := (((h.set 0 x0).set 1 x1).set 2 x2).set 3 x3
theorem Blk.ten {W : World} {B : Nat} {a0 a1 a2 a3 a4 a5 a6 a7 a8 a9 : Value} {t : TypeId} (h : Blk W B #[a0, a1, a2, a3, a4, a5, a6, a7, a8, a9] t) (x0 x1 x2 x3 x4 x5 x6 x7 x8 x9 : Value) :
    Blk ((((((((((W.setCell ⟨B, 0, none⟩ x0).setCell ⟨B, 1, none⟩ x1).setCell ⟨B, 2, none⟩ x2).setCell ⟨B, 3, none⟩ x3).setCell ⟨B, 4, none⟩ x4).setCell ⟨B, 5, none⟩ x5).setCell ⟨B, 6, none⟩ x6).setCell ⟨B, 7, none⟩ x7).setCell ⟨B, 8, none⟩ x8).setCell ⟨B, 9, none⟩ x9) B #[x0, x1, x2, x3, x4, x5, x6, x7, x8, x9] t :=
  by simpa using (((((((((h.set 0 x0).set 1 x1).set 2 x2).set 3 x3).set 4 x4).set 5 x5).set 6 x6).set 7 x7).set 8 x8).set 9 x9
theorem below_four {w W : World} {B : Nat} (h : Below w.heap.size w W) (hB : w.heap.size ≤ B) (x0 x1 x2 x3 : Value) :
    Below w.heap.size w ((((W.setCell ⟨B, 0, none⟩ x0).setCell ⟨B, 1, none⟩ x1).setCell ⟨B, 2, none⟩ x2).setCell ⟨B, 3, none⟩ x3) := (((h.setCell hB x0).setCell hB x1).setCell hB x2).setCell hB x3
theorem below_ten {w W : World} {B : Nat} (h : Below w.heap.size w W) (hB : w.heap.size ≤ B) (x0 x1 x2 x3 x4 x5 x6 x7 x8 x9 : Value) :
    Below w.heap.size w ((((((((((W.setCell ⟨B, 0, none⟩ x0).setCell ⟨B, 1, none⟩ x1).setCell ⟨B, 2, none⟩ x2).setCell ⟨B, 3, none⟩ x3).setCell ⟨B, 4, none⟩ x4).setCell ⟨B, 5, none⟩ x5).setCell ⟨B, 6, none⟩ x6).setCell ⟨B, 7, none⟩ x7).setCell ⟨B, 8, none⟩ x8).setCell ⟨B, 9, none⟩ x9) :=
  (((((((((h.setCell hB x0).setCell hB x1).setCell hB x2).setCell hB x3).setCell hB x4).setCell hB x5).setCell hB x6).setCell hB x7).setCell hB x8).setCell hB x9
end Go.Proofs.YtjchecjonkmhgaaDoor.Su
