/- Package codec: a slice of fields that came in; a schema; a record. -/
import Derived.Test.YtialjglgkfcdmaaCoLaws1
import Derived.Lib.SmallJoins
import Derived.OpenShut
import Derived.Deep.Slices
import Derived.Deep.Fields
import Derived.ChangeSame
namespace Go.Proofs.Ytialjglgkfcdmaa.Or
open Go.RowKit Go.ChangeShapes Go.WideShapes Go.ChangeAt Go.Joins Go.WideMaps Go.WideElems Go.Deep
instance : Inhabited Fd := ⟨⟨0, 0, ⟨#[]⟩⟩⟩
section
variable {H : Type} {enc : TypeId × Value → H} {P : Program} {w : World} {base : Nat} {spare : Nat → Bool} {held : Bool}
theorem open_fds {t e : TypeId} {f0 f1 f2 : Field} {fuel : Nat} {v : Value} {y : DataW H × List MemPlace} (ht : P.underlying t = some (.slice e)) (he : P.underlying e = some (.struct #[f0, f1, f2]))
    (hone : oneCellFields P #[f0, f1, f2] = true) (hC : P.cellsOf e = 3) (u0 : P.underlying f0.type = some (.int .u64)) (u1 : P.underlying f1.type = some (.int .i64)) (u2 : P.underlying f2.type = some .string)
    (h : DataW.trod enc P w base spare held fuel t [v] = some y) :
    ∃ a cap L, v = .slice a (List.length L) cap ∧ FdsC w cap a L ∧ L.length ≤ maxLen ∧ ∀ x ∈ L, Fd.Fits x := by
  rcases open_slice ht h with ⟨hcs, _⟩ | ⟨a, len, cap, m, n, D, Pl, hcs, _, hl, hm, hmm, _, hx⟩
  · simp at hcs
    exact ⟨none, 0, [], hcs, ⟨fun j hj => by simp at hj, by simp⟩, by simp, by simp⟩
  · simp at hcs
    have hlm : len ≤ m := by rw [hmm]; split <;> omega
    rw [hC] at hx
    have hall : ∀ i, i < len → ∃ x : Fd, (w.cell? ((a.add (i * 3))) = some (.int .u64 x.n) ∧ w.cell? ((a.add (i * 3)).add 1) = some (.int .i64 x.i) ∧ w.cell? ((a.add (i * 3)).add 2) = some (.string x.s)) ∧ Fd.Fits x := by
      intro i hi
      obtain ⟨cs', h1, h2⟩ := hx i (by omega)
      obtain ⟨_, hlen, hat⟩ := World.cells?_some h1
      obtain ⟨xs, k, _, _, _, hxl, hf⟩ := DataW.trod_struct he h2
      obtain ⟨o0, k0⟩ := hone_of hone 0 f0 rfl
      obtain ⟨o1, k1⟩ := hone_of hone 1 f1 rfl
      obtain ⟨o2, k2⟩ := hone_of hone 2 f2 rfl
      match cs', hlen, xs, hxl with
      | [c0, c1, c2], _, [y0, y1, y2], _ =>
        have g0 : DataW.trod enc P w base spare held k f0.type [c0] = some y0 := by simpa [o0, k0] using hf 0 f0 rfl
        obtain ⟨x0, e0, _, wx0⟩ := DataW.trod_int u0 g0
        have g1 : DataW.trod enc P w base spare held k f1.type [c1] = some y1 := by simpa [o1, k1] using hf 1 f1 rfl
        obtain ⟨x1, e1, _, wx1⟩ := DataW.trod_int u1 g1
        have g2 : DataW.trod enc P w base spare held k f2.type [c2] = some y2 := by simpa [o2, k2] using hf 2 f2 rfl
        obtain ⟨x2, e2, _, wx2⟩ := DataW.trod_string u2 g2
        simp at e0 e1 e2
        subst e0 e1 e2
        have a0 := hat 0 (by omega)
        have a1 := hat 1 (by omega)
        have a2 := hat 2 (by omega)
        have hml : maxLen = 9223372036854775807 := rfl
        have bu := bounds_u64 wx0
        have bi := bounds_i64 wx1
        refine ⟨⟨x0, x1, x2⟩, ⟨?_, ?_, ?_⟩, ⟨⟨bu.1, by have := bu.2; show x0 < _; omega, bi.1, by have := bi.2; show x1 < _; omega⟩, by simpa using wx2⟩⟩
        · simpa [Addr.add] using a0
        · simpa using a1
        · simpa using a2
    obtain ⟨V, hV⟩ := choose_lt (α := Fd) (p := fun i x => (w.cell? ((a.add (i * 3))) = some (.int .u64 x.n) ∧ w.cell? ((a.add (i * 3)).add 1) = some (.int .i64 x.i) ∧ w.cell? ((a.add (i * 3)).add 2) = some (.string x.s)) ∧ Fd.Fits x) hall
    refine ⟨some a, cap, (List.range len).map V, by simpa using hcs, ⟨?_, by simp; omega⟩, by simp; omega, ?_⟩
    · intro j hj
      have hj' : j < len := by simpa using hj
      obtain ⟨⟨c0, c1, c2⟩, _⟩ := hV j hj'
      have c00 := (hV 0 (by omega)).1.1
      obtain ⟨ab, ao, spot⟩ := a
      have hspot : spot = none := by simpa [Addr.add] using World.cell?_spot c00
      subst hspot
      rw [Go.WideShapes.add_plain] at c0 c1 c2
      rw [Go.WideShapes.add_plain] at c1 c2
      refine ⟨ab, ao, rfl, World.block_lt_of_cell? w ⟨ab, ao + j * 3, none⟩ c0, ?_, ?_, ?_⟩
      · rw [c0]; simp
      · rw [c1]; simp
      · rw [c2]; simp
    · intro x hx
      obtain ⟨i, hi, rfl⟩ := List.mem_map.1 hx
      exact (hV i (List.mem_range.1 hi)).2
end
end Go.Proofs.Ytialjglgkfcdmaa.Or
