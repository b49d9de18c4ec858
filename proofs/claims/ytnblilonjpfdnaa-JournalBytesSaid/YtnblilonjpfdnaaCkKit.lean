/- Blocks known whole, and what stays of the world (cut out of drive's texts). -/
import Derived.WalkKit
import Derived.Below
import Derived.Lib.Hide
import Derived.Deep.MidRow
import Derived.Laws.CopyOwn
import Derived.Deep.Draws
import Derived.Deep.Upon
namespace Go.Proofs.Ytnblilonjpfdnaa.Ck
open Go Go.RowKit
/-- A block known whole. -/
def Rw (w : World) (b : Nat) (t : TypeId) (L : List Value) : Prop := w.heap[b]? = some (.cells L.toArray t (0, 0))
section
variable {w w' : World} {b : Nat} {t : TypeId} {L : List Value}
theorem Rw.lt (h : Rw w b t L) : b < w.heap.size := (Array.getElem?_eq_some_iff.1 h).1
theorem Rw.cell (h : Rw w b t L) (o : Nat) : w.cell? ⟨b, o, none⟩ = L[o]? := by simp [World.cell?, show w.heap[b]? = _ from h]
theorem Rw.frozen (h : Rw w b t L) (o : Nat) : w.frozen? ⟨b, o, none⟩ = false := by simp [World.frozen?, show w.heap[b]? = _ from h]
theorem Rw.later (h : Rw w b t L) (hb : Below w.heap.size w w') : Rw w' b t L := (hb.block b h.lt).trans h
theorem Rw.of (h : Rw w b t L) (e : w'.heap[b]? = w.heap[b]?) : Rw w' b t L := e.trans h
theorem Rw.drew (h : Rw w b t L) : Rw w.drew b t L := h
theorem Rw.new (w : World) (L : List Value) (t : TypeId) : Rw (w.alloc (.cells L.toArray t)) w.heap.size t L := heap_alloc_new w _
theorem Rw.range (h : Rw w b t L) (o : Nat) (cs : List Value) (hc : (L.drop o).take cs.length = cs) : w.rangeAt b o cs := by
  intro j v hv
  have hj := (List.getElem?_eq_some_iff.1 hv).1
  rw [h.cell, ← hv]
  conv => rhs; rw [← hc]
  rw [List.getElem?_take_of_lt hj, List.getElem?_drop]
theorem Rw.there (h : Rw w b t L) (o n : Nat) (hn : o + n ≤ L.length) : w.there b o n := fun j hj =>
  ⟨by rw [h.cell, List.getElem?_eq_getElem (by omega)]; rfl, h.frozen _⟩
theorem Rw.setCell (h : Rw w b t L) (o : Nat) (v : Value) : Rw (w.setCell ⟨b, o, none⟩ v) b t (L.set o v) := by
  have hl := (Array.getElem?_eq_some_iff.1 (show w.heap[b]? = some (.cells L.toArray t (0, 0)) from h)).1
  unfold Rw
  simp [World.setCell, hl, Array.getElem_modify, (Array.getElem?_eq_some_iff.1 (show w.heap[b]? = some (.cells L.toArray t (0, 0)) from h)).2]
theorem set_splice (L : List Value) (o : Nat) (v : Value) (cs : List Value) (h : o + 1 + cs.length ≤ L.length) : splice (L.set o v) (o + 1) cs = splice L o (v :: cs) := by
  unfold splice
  rw [List.drop_set_of_lt (by omega), List.length_cons, show o + (cs.length + 1) = o + 1 + cs.length by omega, List.take_set, List.take_succ_eq_append_getElem (by omega), List.set_append_right _ _ (by simp; omega)]
  simp [Nat.min_eq_left (show o ≤ L.length by omega)]
theorem Rw.setCells (cs : List Value) : ∀ {w : World} {L : List Value} (o : Nat), Rw w b t L → o + cs.length ≤ L.length → Rw (w.setCells b o cs) b t (splice L o cs) := by
  induction cs with
  | nil => intro w L o h hn; simpa [World.setCells, splice] using h
  | cons v cs ih =>
    intro w L o h hn
    rw [World.setCells]
    have := ih (o + 1) (h.setCell o v) (by simp at hn ⊢; omega)
    rwa [set_splice _ _ _ _ (by simp at hn; omega)] at this
theorem Rw.other (h : Rw w b t L) (g o : Nat) (cs : List Value) (hne : b ≠ g) : Rw (w.setCells g o cs) b t L := (World.heap_setCells_other w g o cs h.lt hne).trans h
theorem Rw.otherCell (h : Rw w b t L) (g o : Nat) (v : Value) (hne : b ≠ g) : Rw (w.setCell ⟨g, o, none⟩ v) b t L := (Below.heap_setCell w ⟨g, o, none⟩ v b hne).trans h
end
theorem setCells_keeps (g : Nat) (cs : List Value) : ∀ (o : Nat) (w : World), (w.setCells g o cs).tape = w.tape ∧ (w.setCells g o cs).heap.size = w.heap.size := by
  induction cs with
  | nil => intro o w; exact ⟨rfl, rfl⟩
  | cons v cs ih => intro o w; rw [World.setCells]; exact ⟨(ih _ _).1.trans rfl, (ih _ _).2.trans (by simp [World.setCell])⟩
/-- What is kept but for some blocks. -/
structure Keeps (T : Nat → Prop) (w w' : World) : Prop where
  os : w'.os = w.os
  tape : w'.tape = w.tape
  output : w'.output = w.output
  size : w.heap.size ≤ w'.heap.size
  block : ∀ k, k < w.heap.size → ¬ T k → w'.heap[k]? = w.heap[k]?
section
variable {T S : Nat → Prop} {w w' w'' : World} {b o : Nat} {t : TypeId} {L : List Value}
theorem Keeps.refl (T : Nat → Prop) (w : World) : Keeps T w w := ⟨rfl, rfl, rfl, Nat.le_refl _, fun _ _ _ => rfl⟩
theorem Keeps.of (T : Nat → Prop) (h : Below w.heap.size w w') : Keeps T w w' := ⟨h.os, h.tape, h.output, h.size, fun k hk _ => h.block k hk⟩
theorem Keeps.trans (h : Keeps T w w') (k : Keeps T w' w'') : Keeps T w w'' :=
  ⟨k.os.trans h.os, k.tape.trans h.tape, k.output.trans h.output, Nat.le_trans h.size k.size, fun j hj hT => (k.block j (Nat.lt_of_lt_of_le hj h.size) hT).trans (h.block j hj hT)⟩
/-- Blocks that are new may be written. -/
theorem Keeps.then (h : Keeps T w w') (k : Keeps S w' w'') (hS : ∀ j, S j → T j ∨ w.heap.size ≤ j) : Keeps T w w'' :=
  ⟨k.os.trans h.os, k.tape.trans h.tape, k.output.trans h.output, Nat.le_trans h.size k.size, fun j hj hT => (k.block j (Nat.lt_of_lt_of_le hj h.size) (fun hs => (hS j hs).elim hT (fun hl => by omega))).trans (h.block j hj hT)⟩
theorem Keeps.mono (h : Keeps T w w') (hS : ∀ j, T j → S j ∨ w.heap.size ≤ j) : Keeps S w w' := (Keeps.refl S w).then h hS
theorem Keeps.below {lo : Nat} (h : Keeps T w w') (hT : ∀ j, T j → lo ≤ j) (hl : lo ≤ w.heap.size) : Below lo w w' := ⟨h.os, h.tape, h.output, h.size, fun k hk => h.block k (by omega) fun ht => by have := hT k ht; omega⟩
theorem Keeps.belowT {lo : Nat} {a : World} (h : Below lo a w) (k : Keeps T w w') (hT : ∀ j, T j → lo ≤ j) (hl : lo ≤ w.heap.size) : Below lo a w' := h.trans (k.below hT hl)
theorem Keeps.drew (h : Keeps T w w') : Keeps T w w'.drew := ⟨h.os, h.tape, h.output, h.size, h.block⟩
theorem Keeps.drewN (h : Keeps T w w') (n : Nat) : Keeps T w (w'.drewN n) := ⟨h.os, h.tape, h.output, h.size, h.block⟩
theorem Keeps.alloc (h : Keeps T w w') (o : Obj) : Keeps T w (w'.alloc o) := h.trans (Keeps.of T ((Below.refl _ w').alloc (Nat.le_refl _) o))
theorem Keeps.setCells (h : Keeps T w w') (g o : Nat) (cs : List Value) (hg : T g ∨ w.heap.size ≤ g) : Keeps T w (w'.setCells g o cs) :=
  h.then (S := fun k => k = g) ⟨World.os_setCells .., (setCells_keeps g cs o w').1, World.output_setCells .., by rw [(setCells_keeps g cs o w').2]; exact Nat.le_refl _, fun k hk hne => World.heap_setCells_other w' g o cs hk hne⟩ fun j hj => by subst hj; exact hg
theorem Keeps.setCell (h : Keeps T w w') (g o : Nat) (v : Value) (hg : T g ∨ w.heap.size ≤ g) : Keeps T w (w'.setCell ⟨g, o, none⟩ v) :=
  h.then (S := fun k => k = g) ⟨rfl, rfl, rfl, by simp [World.setCell], fun k hk hne => Below.heap_setCell w' ⟨g, o, none⟩ v k hne⟩ fun j hj => by subst hj; exact hg
theorem Keeps.grown {row : Option Nat} (h : Keeps T w w') (hg : w'.grownBy w'' row) (hr : ∀ k, row = some k → T k ∨ w.heap.size ≤ k) : Keeps T w w'' :=
  h.then (S := fun k => row = some k) ⟨hg.os, hg.tape, hg.output, hg.size, fun k hk hne => hg.block k hk fun e => hne e.symm⟩ hr
theorem Rw.keeps (h : Rw w b t L) (k : Keeps T w w') (hb : ¬ T b) : Rw w' b t L := h.of (k.block b h.lt hb)
end
theorem own_keeps {T : Nat → Prop} {w w' : World} {base e size n : Nat} {v : Value} {xs : List Value} (h : w.ownsRow base e size v n xs) (k : Keeps T w w') (hT : ∀ j, v.ownBlock = some j → ¬ T j) : w'.ownsRow base e size v n xs := by
  rcases id h.2 with ⟨rfl, h0⟩ | ⟨g, cap, cur, rfl, hg, hb, hr⟩
  · exact ⟨h.1, .inl ⟨rfl, h0⟩⟩
  · exact ⟨h.1, .inr ⟨g, cap, cur, rfl, hg, (k.block g (Array.getElem?_eq_some_iff.1 hb).1 (hT g rfl)).trans hb, hr⟩⟩
theorem own_type {w : World} {b base e size n : Nat} {t : TypeId} {L xs : List Value} {v : Value} (h : w.ownsRow base e size v n xs) (h' : Rw w b t L) (hne : t ≠ e) : v.ownBlock ≠ some b := by
  rcases h.2 with ⟨rfl, _⟩ | ⟨g, cap, cur, rfl, _, hg, _⟩
  · intro e; cases e
  · intro e
    injection e with e
    subst e
    have := hg.symm.trans h'
    injection this with this
    injection this with _ h2
    exact hne h2.symm
theorem own_later {w w' : World} {base e size n : Nat} {v : Value} {xs : List Value} (h : w.ownsRow base e size v n xs) (k : Below w.heap.size w w') : w'.ownsRow base e size v n xs := own_keeps h (Keeps.of (fun _ => False) k) fun _ _ h => h
end Go.Proofs.Ytnblilonjpfdnaa.Ck
