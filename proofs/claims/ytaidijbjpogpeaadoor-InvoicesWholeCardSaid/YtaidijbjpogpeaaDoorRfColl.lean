/- A loop body that collects structs of two cells: what a box holds, and what becomes of it. -/
import Derived.Test.YtaidijbjpogpeaaDoorRfLaw
import Derived.RangeFuncBox
import Derived.Maps.AppendAt
namespace Go.Proofs.YtaidijbjpogpeaaDoor.Rf
open Go Go.RowKit
theorem own_lower {w : World} {base base' e size n : Nat} {v : Value} {xs : List Value} (h : w.ownsRow base e size v n xs) (hb : base' ≤ base) : w.ownsRow base' e size v n xs := by
  refine ⟨h.1, ?_⟩
  rcases h.2 with h | ⟨g, cap, cur, h1, h2, h3⟩
  · exact .inl h
  · exact .inr ⟨g, cap, cur, h1, Nat.le_trans hb h2, h3⟩
theorem own_later {w w' : World} {base e size n : Nat} {v : Value} {xs : List Value} (h : w.ownsRow base e size v n xs) (hb : Below w.heap.size w w') : w'.ownsRow base e size v n xs := by
  refine h.kept (row := none) ⟨hb.os, hb.tape, hb.output, hb.size, fun k hk _ => hb.block k hk⟩ ?_
  cases hv : v.ownBlock with
  | none => exact .inl rfl
  | some k => exact .inr (by simp)
theorem own_ne {w : World} {base e size n b : Nat} {v : Value} {xs : List Value} (h : w.ownsRow base e size v n xs) (hb : b < base) : some b ≠ v.ownBlock := by
  rcases h.2 with ⟨rfl, _⟩ | ⟨g, cap, cur, rfl, hg, _⟩
  · simp [Value.ownBlock]
  · simp [Value.ownBlock]; omega
theorem own_set {w : World} {base e size n b : Nat} {v : Value} {xs : List Value} (h : w.ownsRow base e size v n xs) (hb : b < base) (u : Value) : (w.setCell ⟨b, 0, none⟩ u).ownsRow base e size v n xs :=
  h.kept (grownBy_setCell' w b u) (.inr (own_ne h hb).symm)
theorem boxed_later {W W' : World} {B : Nat} {t : TypeId} {v : Value} (h : Boxed W B t v) (hb : Below W.heap.size W W') : Boxed W' B t v := (hb.block B h.lt).trans h
theorem boxed_other {W : World} {B b : Nat} {t : TypeId} {v : Value} (h : Boxed W B t v) (u : Value) (hne : B ≠ b) : Boxed (W.setCell ⟨b, 0, none⟩ u) B t v := (Below.heap_setCell W ⟨b, 0, none⟩ u B hne).trans h
/-- A slice in a box, and its rows. -/
structure Coll (w0 : World) (Bl base : Nat) (t e size : Nat) (n : Nat) (xs : List Value) (W : World) : Prop where
  ex : ∃ v, Boxed W Bl t v ∧ W.ownsRow base e size v n xs
  b : Below w0.heap.size w0 W
theorem Coll.start {w0 W : World} {Bl base t e size : Nat} (h : Boxed W Bl t (.slice none 0 0)) (hb : Below w0.heap.size w0 W) : Coll w0 Bl base t e size 0 [] W := ⟨⟨_, h, World.ownsRow_nil _ _ _ _⟩, hb⟩
theorem Coll.stands {β : Type} {w0 : World} {Bl base t e size : Nat} {T : Nat → Prop} (k : β → Nat) (f : β → List Value) (hT : ∀ b, T b → b ≠ Bl ∧ b < base ∧ w0.heap.size ≤ b) : Stands T (fun s W => Coll w0 Bl base t e size (k s) (f s) W) where
  below := fun _ _ _ ⟨⟨v, hv, hr⟩, hb⟩ h => ⟨⟨v, boxed_later hv h, own_later hr h⟩, hb.trans (h.mono hb.size)⟩
  put := fun _ _ b v hb ⟨⟨u, hv, hr⟩, hB⟩ => ⟨⟨u, boxed_other hv v (hT b hb).1.symm, own_set hr (hT b hb).2.1 v⟩, hB.setCell (hT b hb).2.2 _⟩
theorem Coll.bears {β : Type} {w0 : World} {Bl base t e size B : Nat} (k : β → Nat) (f : β → List Value) (hB : w0.heap.size ≤ B) : Bears B (fun s W => Coll w0 Bl base t e size (k s) (f s) W) :=
  fun _ W l o o' hl ho hc ⟨⟨v, hv, hr⟩, hb⟩ => ⟨⟨v, hv.kept (grownBy_putObj' W l o') (by intro e; cases e; rw [show W.heap[Bl]? = _ from hv] at ho; cases ho; cases hc), ownsRow_putObj hr o' ho hc⟩, hb.grown (grownBy_putObj' W l o') hb.size (fun j e => by cases e; omega)⟩
/-- What some boxes hold. -/
structure Bxs (w0 : World) (l : List (Nat × TypeId × Value)) (W : World) : Prop where
  all : ∀ x ∈ l, Boxed W x.1 x.2.1 x.2.2
  b : Below w0.heap.size w0 W
theorem Bxs.stands {β : Type} {w0 : World} {T : Nat → Prop} (f : β → List (Nat × TypeId × Value)) (hT : ∀ b s, T b → (∀ x ∈ f s, x.1 ≠ b) ∧ w0.heap.size ≤ b) : Stands T (fun s W => Bxs w0 (f s) W) where
  below := fun _ _ _ ⟨h, hb⟩ k => ⟨fun x hx => boxed_later (h x hx) k, hb.trans (k.mono hb.size)⟩
  put := fun s _ b v hb ⟨h, hB⟩ => ⟨fun x hx => boxed_other (h x hx) v ((hT b s hb).1 x hx), hB.setCell (hT b s hb).2 _⟩
theorem Bxs.bears {β : Type} {w0 : World} {B : Nat} (f : β → List (Nat × TypeId × Value)) (hB : w0.heap.size ≤ B) : Bears B (fun s W => Bxs w0 (f s) W) :=
  fun _ W l o o' hl ho hc ⟨h, hb⟩ => ⟨fun x hx => (h x hx).kept (grownBy_putObj' W l o') (by intro e; cases e; rw [show W.heap[x.1]? = _ from h x hx] at ho; cases ho; cases hc), hb.grown (grownBy_putObj' W l o') hb.size (fun j e => by cases e; omega)⟩
theorem Bxs.later {w0 W W' : World} {l : List (Nat × TypeId × Value)} (h : Bxs w0 l W) (k : Below W.heap.size W W') : Bxs w0 l W' := ⟨fun x hx => boxed_later (h.all x hx) k, h.b.trans (k.mono h.b.size)⟩
theorem Stands.pure {β : Type} {T : Nat → Prop} {J : β → World → Prop} (p : β → Prop) (h : Stands T J) : Stands T (fun s W => p s ∧ J s W) :=
  ⟨fun s W W' hs hb => ⟨hs.1, h.below s W W' hs.2 hb⟩, fun s W b v hT hs => ⟨hs.1, h.put s W b v hT hs.2⟩⟩
theorem Bears.pure {β : Type} {B : Nat} {J : β → World → Prop} (p : β → Prop) (h : Bears B J) : Bears B (fun s W => p s ∧ J s W) :=
  fun s W l o o' h1 h2 h3 hs => ⟨hs.1, h s W l o o' h1 h2 h3 hs.2⟩
/-- What stands behind 'l = append(l, ..)'. -/
theorem push {W w1 : World} {base Bl t e size k m : Nat} {v v' : Value} {xs ys : List Value} {tmp : Obj} (hv : Boxed W Bl t v) (hBl : Bl < base) (hb : base ≤ W.heap.size) (hrow : W.ownsRow base e size v k xs)
    (hown' : w1.ownsRow base e size v' m ys) (hgrow : (W.alloc tmp).grownBy w1 v.ownBlock) :
    Boxed w1 Bl t v ∧ Boxed (w1.setCell ⟨Bl, 0, none⟩ v') Bl t v' ∧ (w1.setCell ⟨Bl, 0, none⟩ v').ownsRow base e size v' m ys ∧ KeepsOthers W (w1.setCell ⟨Bl, 0, none⟩ v') ∧
      (∀ j, j < base → j ≠ Bl → (w1.setCell ⟨Bl, 0, none⟩ v').heap[j]? = W.heap[j]?) ∧ Below Bl W (w1.setCell ⟨Bl, 0, none⟩ v') := by
  have hj : ∀ j, j < base → w1.heap[j]? = W.heap[j]? := fun j h => (hgrow.block j (by simp; omega) (own_ne hrow h)).trans (Below.heap_alloc _ _ _ (by omega))
  have hv1 : Boxed w1 Bl t v := (hj Bl hBl).trans hv
  refine ⟨hv1, hv1.set v', own_set hown' hBl v', ?_, fun j h1 h2 => (Below.heap_setCell _ _ _ _ h2).trans (hj j h1), ?_⟩
  · refine ((KeepsOthers.alloc W tmp).trans (KeepsOthers.of_grownBy hgrow fun j o ej hj' => ?_)).trans (KeepsOthers.setCell _ _ _)
    rcases (hrow.alloc tmp).2 with ⟨rfl, _⟩ | ⟨g, cap, cur, rfl, _, hgb, _⟩
    · simp [Value.ownBlock] at ej
    · obtain rfl : g = j := by simpa [Value.ownBlock] using ej
      rw [hgb] at hj'; cases hj'; rfl
  · refine (((Below.refl Bl W).alloc (by omega) tmp).grown hgrow (by simp; omega) fun j ej => ?_).setCell (p := ⟨Bl, 0, none⟩) (Nat.le_refl _) v'
    rcases hrow.2 with ⟨rfl, _⟩ | ⟨g, cap, cur, rfl, hg, _, _⟩
    · simp [Value.ownBlock] at ej
    · obtain rfl : g = j := by simpa [Value.ownBlock] using ej
      omega
theorem own_form {w : World} {base e size n : Nat} {v : Value} {xs : List Value} (h : w.ownsRow base e size v n xs) (hn : 1 ≤ n) : ∃ g cap, v = .slice (some ⟨g, 0, none⟩) n cap := by
  rcases h.2 with ⟨_, h0⟩ | ⟨g, cap, cur, rfl, _⟩
  · omega
  · exact ⟨g, cap, rfl⟩
/-- A cell of a row that is owned. -/
theorem own_cell {w : World} {base e size n g cap : Nat} {xs : List Value} (h : w.ownsRow base e size (.slice (some ⟨g, 0, none⟩) n cap) n xs) : g < w.heap.size ∧ ∀ i v, xs[i]? = some v → w.cell? ⟨g, i, none⟩ = some v := by
  rcases h.2 with ⟨h0, _⟩ | ⟨g', cap', cur, hv, _, hh, _, _, hs, ht⟩
  · cases h0
  · obtain ⟨rfl, rfl⟩ : g = g' ∧ cap = cap' := by simpa using hv
    refine ⟨(Array.getElem?_eq_some_iff.1 hh).1, fun i v hi => ?_⟩
    rw [← ht, List.getElem?_take] at hi
    split at hi
    · simp only [World.cell?, hh]
      simpa using hi
    · cases hi
/-- A row of one cell just laid. -/
theorem own_one (W : World) (x : Value) (t base : Nat) (hb : base ≤ W.heap.size) : (W.alloc (.cells #[x] t)).ownsRow base t 1 (.slice (some ⟨W.heap.size, 0, none⟩) 1 1) 1 [x] :=
  ⟨rfl, .inr ⟨W.heap.size, 1, #[x], rfl, hb, World.alloc_heap_new W _, Nat.le_refl _, by unfold maxLen; omega, rfl, rfl⟩⟩
theorem one_new (W : World) (a : Value) (t : TypeId) : ∀ (j : Nat) (u : Value), [a][j]? = some u → (W.alloc (.cells #[a] t)).cell? (Addr.add ⟨W.heap.size, 0, none⟩ j) = some u := by
  intro j u h
  have e : Addr.add ⟨W.heap.size, 0, none⟩ j = ⟨W.heap.size, j, none⟩ := by unfold Addr.add; simp; exact fun h => h.symm
  rw [e]
  rcases j with _|j
  · simp at h; subst h; simp [go_sem]
  · simp at h
/-- Two cells just laid. -/
theorem two_new (W : World) (a b : Value) (t : TypeId) : ∀ (j : Nat) (u : Value), [a, b][j]? = some u → (W.alloc (.cells #[a, b] t)).cell? (Addr.add ⟨W.heap.size, 0, none⟩ j) = some u := by
  intro j u h
  have e : Addr.add ⟨W.heap.size, 0, none⟩ j = ⟨W.heap.size, j, none⟩ := by unfold Addr.add; simp; exact fun h => h.symm
  rw [e]
  rcases j with _|_|j
  · simp at h; subst h; simp [go_sem]
  · simp at h; subst h; simp [go_sem]
  · simp at h
end Go.Proofs.YtaidijbjpogpeaaDoor.Rf
