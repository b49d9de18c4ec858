/- Package journal: lines, accounts and entries that came in. -/
import Derived.Test.YtnblilonjpfdnaaJnLaw1
import Derived.Lib.SmallJoins
import Derived.OpenShut
import Derived.Deep.Slices
import Derived.Deep.Fields
import Derived.ChangeSame
namespace Go.Proofs.Ytnblilonjpfdnaa.Jn
open Go Go.RowKit Ck
open Go.ChangeShapes Go.WideShapes Go.ChangeAt Go.Joins Go.WideMaps Go.WideElems Go.Deep
instance : Inhabited Ln := ⟨⟨0, 0, 0, 0⟩⟩
instance : Inhabited Ch.A5 := ⟨⟨0, 0, 0, ⟨#[]⟩, false⟩⟩
section
variable {H : Type} {enc : TypeId × Value → H} {P : Program} {w : World} {base : Nat} {held : Bool}
theorem trod_struct4' {t : TypeId} {f0 f1 f2 f3 : Field} {fuel : Nat} {cs : List Value} {x : DataW H × List MemPlace} (ht : P.underlying t = some (.struct #[f0, f1, f2, f3])) (h : DataW.trod enc P w base (fun _ => true) held fuel t cs = some x) :
    ∃ y0 y1 y2 y3 m, DataW.trod enc P w base (fun _ => true) held m f0.type ((cs.drop f0.offset).take (P.cellsOf f0.type)) = some y0 ∧ DataW.trod enc P w base (fun _ => true) held m f1.type ((cs.drop f1.offset).take (P.cellsOf f1.type)) = some y1 ∧ DataW.trod enc P w base (fun _ => true) held m f2.type ((cs.drop f2.offset).take (P.cellsOf f2.type)) = some y2 ∧ DataW.trod enc P w base (fun _ => true) held m f3.type ((cs.drop f3.offset).take (P.cellsOf f3.type)) = some y3 := by
  obtain ⟨xs, m, _, _, _, hlen, hf⟩ := DataW.trod_struct ht h
  match xs, hlen with
  | [y0, y1, y2, y3], _ => exact ⟨y0, y1, y2, y3, m, by simpa using hf 0 f0 rfl, by simpa using hf 1 f1 rfl, by simpa using hf 2 f2 rfl, by simpa using hf 3 f3 rfl⟩
theorem trod_struct5' {t : TypeId} {f0 f1 f2 f3 f4 : Field} {fuel : Nat} {cs : List Value} {x : DataW H × List MemPlace} (ht : P.underlying t = some (.struct #[f0, f1, f2, f3, f4])) (h : DataW.trod enc P w base (fun _ => true) held fuel t cs = some x) :
    ∃ y0 y1 y2 y3 y4 m, DataW.trod enc P w base (fun _ => true) held m f0.type ((cs.drop f0.offset).take (P.cellsOf f0.type)) = some y0 ∧ DataW.trod enc P w base (fun _ => true) held m f1.type ((cs.drop f1.offset).take (P.cellsOf f1.type)) = some y1 ∧ DataW.trod enc P w base (fun _ => true) held m f2.type ((cs.drop f2.offset).take (P.cellsOf f2.type)) = some y2 ∧ DataW.trod enc P w base (fun _ => true) held m f3.type ((cs.drop f3.offset).take (P.cellsOf f3.type)) = some y3 ∧ DataW.trod enc P w base (fun _ => true) held m f4.type ((cs.drop f4.offset).take (P.cellsOf f4.type)) = some y4 := by
  obtain ⟨xs, m, _, _, _, hlen, hf⟩ := DataW.trod_struct ht h
  match xs, hlen with
  | [y0, y1, y2, y3, y4], _ => exact ⟨y0, y1, y2, y3, y4, m, by simpa using hf 0 f0 rfl, by simpa using hf 1 f1 rfl, by simpa using hf 2 f2 rfl, by simpa using hf 3 f3 rfl, by simpa using hf 4 f4 rfl⟩
theorem open_lines {t e : TypeId} {f0 f1 f2 f3 : Field} {fuel : Nat} {v : Value} {y : DataW H × List MemPlace} (ht : P.underlying t = some (.slice e)) (he : P.underlying e = some (.struct #[f0, f1, f2, f3])) (hC : P.cellsOf e = 4)
    (o0 : f0.offset = 0) (k0 : P.cellsOf f0.type = 1) (o1 : f1.offset = 1) (k1 : P.cellsOf f1.type = 1) (o2 : f2.offset = 2) (k2 : P.cellsOf f2.type = 1) (o3 : f3.offset = 3) (k3 : P.cellsOf f3.type = 1) (u0 : P.underlying f0.type = some (.int .i64)) (u1 : P.underlying f1.type = some (.int .u64)) (u2 : P.underlying f2.type = some (.int .u64)) (u3 : P.underlying f3.type = some (.int .i64))
    (h : DataW.trod enc P w base (fun _ => true) held fuel t [v] = some y) : ∃ a cap L, v = .slice a (List.length L) cap ∧ LnC w cap a L ∧ L.length ≤ maxLen ∧ ∀ x ∈ L, Ln.Fits x := by
  rcases open_slice ht h with ⟨hcs, _⟩ | ⟨a, len, cap, m, n, D, Pl, hcs, _, hl, hm, hmm, _, hx⟩
  · simp at hcs
    exact ⟨none, 0, [], hcs, ⟨fun j hj => by simp at hj, fun _ => ⟨rfl, rfl⟩, by simp⟩, by simp, by simp⟩
  · simp at hcs
    have hlm : len ≤ m := by rw [hmm]; split <;> omega
    rw [hC] at hx
    have hall : ∀ i, i < len → ∃ x : Ln, (∀ k, k < 4 → w.cell? ((a.add (i * 4)).add k) = x.cells[k]?) ∧ x.Fits := by
      intro i hi
      obtain ⟨cs', h1, h2⟩ := hx i (by omega)
      obtain ⟨_, hlen, hat⟩ := World.cells?_some h1
      obtain ⟨z0, z1, z2, z3, k, a0, a1, a2, a3⟩ := trod_struct4' he h2
      match cs', hlen with
      | [c0, c1, c2, c3], _ =>
        simp [o0, k0, o1, k1, o2, k2, o3, k3] at a0 a1 a2 a3
        obtain ⟨x0, e0, _, wx0⟩ := DataW.trod_int u0 a0
        obtain ⟨x1, e1, _, wx1⟩ := DataW.trod_int u1 a1
        obtain ⟨x2, e2, _, wx2⟩ := DataW.trod_int u2 a2
        obtain ⟨x3, e3, _, wx3⟩ := DataW.trod_int u3 a3
        simp at e0 e1 e2 e3
        subst e0 e1 e2 e3
        refine ⟨⟨x0, x1, x2, x3⟩, fun j hj => ?_, ⟨⟨bounds_i64 wx0, bounds_u64 wx1, bounds_u64 wx2⟩, bounds_i64 wx3⟩⟩
        rw [hat j (by simpa using hj)]
        rfl
    obtain ⟨V, hV⟩ := choose_lt (α := Ln) (p := fun i x => (∀ k, k < 4 → w.cell? ((a.add (i * 4)).add k) = x.cells[k]?) ∧ x.Fits) hall
    refine ⟨some a, cap, (List.range len).map V, by simpa using hcs, ⟨?_, fun e => (by cases e), by simpa using hl⟩, by simp; omega, ?_⟩
    · intro j hj
      have hj' : j < len := by simpa using hj
      have hc := (hV j hj').1
      have c00 : w.cell? ((a.add (0 * 4)).add 0) = some (.int .i64 (V 0).acc) := (hV 0 (by omega)).1 0 (by omega)
      obtain ⟨ab, ao, spot⟩ := a
      have hspot : spot = none := by simpa [Addr.add] using World.cell?_spot c00
      subst hspot
      have hc0 : w.cell? (((⟨ab, ao, none⟩ : Addr).add (j * 4)).add 0) = some (.int .i64 (V j).acc) := hc 0 (by omega)
      rw [Go.WideShapes.add_plain, Go.WideShapes.add_plain] at hc0
      refine ⟨ab, ao, rfl, World.block_lt_of_cell? w ⟨ab, ao + j * 4 + 0, none⟩ hc0, fun i u hu => ?_⟩
      have hgj : ((List.range len).map V)[j] = V j := by simp
      rw [hgj] at hu
      have hi : i < 4 := (List.getElem?_eq_some_iff.1 hu).1
      have := hc i hi
      rw [Go.WideShapes.add_plain, Go.WideShapes.add_plain] at this
      rw [this, hu]
    · intro x hx
      obtain ⟨i, hi, rfl⟩ := List.mem_map.1 hx
      exact (hV i (List.mem_range.1 hi)).2
theorem open_accs {t e : TypeId} {g0 g1 g2 g3 g4 : Field} {fuel : Nat} {v : Value} {y : DataW H × List MemPlace} (ht : P.underlying t = some (.slice e)) (he : P.underlying e = some (.struct #[g0, g1, g2, g3, g4])) (hC : P.cellsOf e = 5)
    (p0 : g0.offset = 0) (q0 : P.cellsOf g0.type = 1) (p1 : g1.offset = 1) (q1 : P.cellsOf g1.type = 1) (p2 : g2.offset = 2) (q2 : P.cellsOf g2.type = 1) (p3 : g3.offset = 3) (q3 : P.cellsOf g3.type = 1) (p4 : g4.offset = 4) (q4 : P.cellsOf g4.type = 1)
    (v0 : P.underlying g0.type = some (.int .i64)) (v1 : P.underlying g1.type = some (.int .i64)) (v2 : P.underlying g2.type = some (.int .u8)) (v3 : P.underlying g3.type = some .string) (v4 : P.underlying g4.type = some .bool)
    (h : DataW.trod enc P w base (fun _ => true) held fuel t [v] = some y) : ∃ a cap L, v = .slice a (List.length L) cap ∧ Ch.Acs w a L ∧ L.length ≤ maxLen ∧ ∀ x ∈ L, Ch.A5.Fits x := by
  rcases open_slice ht h with ⟨hcs, _⟩ | ⟨a, len, cap, m, n, D, Pl, hcs, _, hl, hm, hmm, _, hx⟩
  · simp at hcs
    exact ⟨none, 0, [], hcs, fun j hj => by simp at hj, by simp, by simp⟩
  · simp at hcs
    have hlm : len ≤ m := by rw [hmm]; split <;> omega
    rw [hC] at hx
    have hall : ∀ i, i < len → ∃ x : Ch.A5, (∀ k, k < 5 → w.cell? ((a.add (i * 5)).add k) = x.cells[k]?) ∧ x.Fits := by
      intro i hi
      obtain ⟨cs', h1, h2⟩ := hx i (by omega)
      obtain ⟨_, hlen, hat⟩ := World.cells?_some h1
      obtain ⟨z0, z1, z2, z3, z4, k, b0, b1, b2, b3, b4⟩ := trod_struct5' he h2
      match cs', hlen with
      | [c0, c1, c2, c3, c4], _ =>
        simp [p0, q0, p1, q1, p2, q2, p3, q3, p4, q4] at b0 b1 b2 b3 b4
        obtain ⟨x1, e1, _, wx1⟩ := DataW.trod_int v0 b0
        obtain ⟨x2, e2, _, wx2⟩ := DataW.trod_int v1 b1
        obtain ⟨x3, e3, _, wx3⟩ := DataW.trod_int v2 b2
        obtain ⟨x4, e4, _, bx4⟩ := DataW.trod_string v3 b3
        obtain ⟨x5, e5, _⟩ := DataW.trod_bool v4 b4
        simp at e1 e2 e3 e4 e5
        subst e1 e2 e3 e4 e5
        have hml : maxLen = 9223372036854775807 := rfl
        refine ⟨⟨x1, x2, x3, x4, x5⟩, fun j hj => ?_, ⟨bounds_i64 wx1, bounds_i64 wx2, by show x4.size ≤ _; omega⟩⟩
        rw [hat j (by simpa using hj)]
        rfl
    obtain ⟨V, hV⟩ := choose_lt (α := Ch.A5) (p := fun i x => (∀ k, k < 5 → w.cell? ((a.add (i * 5)).add k) = x.cells[k]?) ∧ x.Fits) hall
    refine ⟨some a, cap, (List.range len).map V, by simpa using hcs, ?_, by simp; omega, ?_⟩
    · intro j hj
      have hj' : j < len := by simpa using hj
      have hc := (hV j hj').1
      have c00 : w.cell? ((a.add (0 * 5)).add 0) = some (.int .i64 (V 0).code) := (hV 0 (by omega)).1 0 (by omega)
      obtain ⟨ab, ao, spot⟩ := a
      have hspot : spot = none := by simpa [Addr.add] using World.cell?_spot c00
      subst hspot
      have hc0 : w.cell? (((⟨ab, ao, none⟩ : Addr).add (j * 5)).add 0) = some (.int .i64 (V j).code) := hc 0 (by omega)
      rw [Go.WideShapes.add_plain, Go.WideShapes.add_plain] at hc0
      refine ⟨ab, ao, rfl, World.block_lt_of_cell? w ⟨ab, ao + j * 5 + 0, none⟩ hc0, fun i u hu => ?_⟩
      have hgj : ((List.range len).map V)[j] = V j := by simp
      rw [hgj] at hu
      have hi : i < 5 := (List.getElem?_eq_some_iff.1 hu).1
      have := hc i hi
      rw [Go.WideShapes.add_plain, Go.WideShapes.add_plain] at this
      rw [this, hu]
    · intro x hx
      obtain ⟨i, hi, rfl⟩ := List.mem_map.1 hx
      exact (hV i (List.mem_range.1 hi)).2
end
end Go.Proofs.Ytnblilonjpfdnaa.Jn
