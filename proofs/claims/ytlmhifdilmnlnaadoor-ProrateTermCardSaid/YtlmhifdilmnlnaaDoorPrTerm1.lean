/- Rows of shares that are handed to append. -/
import Derived.Test.YtlmhifdilmnlnaaDoorPrHead
import Derived.Test.YtlmhifdilmnlnaaDoorPrTerm0
namespace Go.Proofs.YtlmhifdilmnlnaaDoor.Pr
open Go.RowKit Rf
/-- What a block's first cells hold. -/
structure Rw (g : Nat) (xs : List Value) (W : World) : Prop where
  lt : g < W.heap.size
  at' : ∀ i v, xs[i]? = some v → W.cell? ⟨g, i, none⟩ = some v
theorem Rw.own {w : World} {base e size n g cap : Nat} {xs : List Value} (h : w.ownsRow base e size (.slice (some ⟨g, 0, none⟩) n cap) n xs) : Rw g xs w := ⟨(own_cell h).1, (own_cell h).2⟩
theorem Rw.later {g : Nat} {xs : List Value} {w w' : World} (h : Rw g xs w) (hb : Below w.heap.size w w') : Rw g xs w' := ⟨Nat.lt_of_lt_of_le h.lt hb.size, fun i v hi => by rw [hb.cell (by simpa using h.lt)]; exact h.at' i v hi⟩
theorem Rw.left {g : Nat} {xs ys : List Value} {w : World} (h : Rw g (xs ++ ys) w) : Rw g xs w := ⟨h.lt, fun i v hi => h.at' i v (by rw [List.getElem?_append_left (List.getElem?_eq_some_iff.1 hi).1]; exact hi)⟩
theorem Rw.src {g : Nat} {xs : List Value} {w : World} (h : Rw g xs w) : ∀ j u, xs[j]? = some u → w.cell? (Addr.add ⟨g, 0, none⟩ j) = some u := by
  intro j u hj
  have e : Addr.add ⟨g, 0, none⟩ j = ⟨g, j, none⟩ := by unfold Addr.add; simp; exact fun h => h.symm
  rw [e]
  exact h.at' j u hj
theorem cellsL_len (L : List (Int × Int)) : (cellsL L).length = L.length * 2 := by
  induction L with
  | nil => rfl
  | cons y L ih => simp [cellsL] at *; omega
theorem cellsL_one (L : List (Int × Int)) : ∀ u ∈ cellsL L, u.oneCell' = true := by
  intro u hu
  simp only [cellsL, List.mem_flatMap] at hu
  obtain ⟨y, _, hy⟩ := hu
  simp at hy
  rcases hy with rfl | rfl <;> rfl
theorem cellsL_app (L M : List (Int × Int)) : cellsL (L ++ M) = cellsL L ++ cellsL M := by simp [cellsL]
theorem own_zero (W : World) (t base size : Nat) (hb : base ≤ W.heap.size) : (W.alloc (.cells #[] t)).ownsRow base t size (.slice (some ⟨W.heap.size, 0, none⟩) 0 0) 0 [] :=
  ⟨by simp, .inr ⟨W.heap.size, 0, #[], rfl, hb, World.alloc_heap_new W _, Nat.le_refl _, by unfold maxLen; omega, by simp, by simp⟩⟩
theorem own_free {w : World} {base e size n g cap : Nat} {xs : List Value} (h : w.ownsRow base e size (.slice (some ⟨g, 0, none⟩) n cap) n xs) (i : Nat) : w.frozen? ⟨g, i, none⟩ = false := by
  rcases h.2 with ⟨h0, _⟩ | ⟨g', cap', cur, hv, _, hh, _⟩
  · cases h0
  · obtain ⟨rfl, rfl⟩ : g = g' ∧ cap = cap' := by simpa using hv
    simp [World.frozen?, hh]
theorem set_left {w : World} {ga gb : Nat} {xs : List Value} (m : Nat) (v : Value) (h : Rw ga xs w) (hne : ga ≠ gb) : Rw ga xs ((w.drewN m).setCell ⟨gb, 1, none⟩ v) :=
  ⟨by simpa using h.lt, fun i u hi => by
    have hz : (⟨gb, 1, none⟩ : Addr) ≠ ⟨ga, i, none⟩ := fun e => hne (congrArg Addr.block e).symm
    rw [World.cell?_setCell_other _ _ _ _ hz]; simpa using h.at' i u hi⟩
theorem set_right {w : World} {gb : Nat} {a b v : Value} {xs : List Value} (m : Nat) (h : Rw gb (a :: b :: xs) w) : Rw gb (a :: v :: xs) ((w.drewN m).setCell ⟨gb, 1, none⟩ v) := by
  refine ⟨by simpa using h.lt, fun i u hi => ?_⟩
  by_cases h1 : i = 1
  · subst h1
    obtain rfl : v = u := by simpa using hi
    have hc := h.at' 1 b rfl
    exact World.cell?_setCell_same _ _ _ (by simpa using hc)
  · have hz : (⟨gb, 1, none⟩ : Addr) ≠ ⟨gb, i, none⟩ := fun e => h1 (congrArg Addr.off e).symm
    rw [World.cell?_setCell_other _ _ _ _ hz]
    have := h.at' i u (by rcases i with _|_|i <;> simp_all)
    simpa using this
theorem below_set {w0 w : World} {B gb : Nat} (m : Nat) (v : Value) (h : Below B w0 w) (hb : B ≤ gb) : Below B w0 ((w.drewN m).setCell ⟨gb, 1, none⟩ v) :=
  Below.setCell (w := w.drewN m) ⟨h.os, h.tape, h.output, h.size, h.block⟩ hb v
theorem own_cap {w : World} {base e size n g cap : Nat} {xs : List Value} (h : w.ownsRow base e size (.slice (some ⟨g, 0, none⟩) n cap) n xs) : n ≤ cap := by
  rcases h.2 with ⟨h0, _⟩ | ⟨g', cap', cur, hv, _, hh, h1, _⟩
  · cases h0
  · obtain ⟨rfl, rfl⟩ : g = g' ∧ cap = cap' := by simpa using hv
    exact h1
theorem own_zero_n (W : World) (m : Nat) : ((W.drewN m).alloc (.cells #[] 51)).ownsRow W.heap.size 51 2 (.slice (some ⟨W.heap.size, 0, none⟩) 0 0) 0 [] := by
  have h := own_zero (W.drewN m) 51 W.heap.size 2 (by simp)
  simpa using h
theorem below_zero_n (W : World) (m : Nat) : Below W.heap.size W ((W.drewN m).alloc (.cells #[] 51)) :=
  (below_drewN (Below.refl W.heap.size W) m).alloc (by simp) _
theorem own_some {w : World} {base e size n : Nat} {v : Value} {xs : List Value} (h : w.ownsRow base e size v n xs) (hne : v ≠ .slice none 0 0) : ∃ g cap, v = .slice (some ⟨g, 0, none⟩) n cap := by
  rcases h.2 with ⟨h0, _⟩ | ⟨g, cap, cur, rfl, _⟩
  · exact absurd h0 hne
  · exact ⟨g, cap, rfl⟩
/-- What an append onto a block of one's own leaves. -/
theorem below_own {W w1 : World} {v : Value} (n0 : Nat) (hn : n0 ≤ W.heap.size) (hv : ∀ k, v.ownBlock = some k → n0 ≤ k) (hg : W.grownBy w1 v.ownBlock) : Below n0 W w1 := (Below.refl n0 W).grown hg hn hv
theorem own_ge {w : World} {base e size n : Nat} {v : Value} {xs : List Value} (h : w.ownsRow base e size v n xs) : ∀ k, v.ownBlock = some k → base ≤ k := by
  intro k hk
  rcases h.2 with ⟨rfl, _⟩ | ⟨g, cap, cur, rfl, hg, _⟩
  · simp [Value.ownBlock] at hk
  · simp [Value.ownBlock] at hk; omega
end Go.Proofs.YtlmhifdilmnlnaaDoor.Pr
