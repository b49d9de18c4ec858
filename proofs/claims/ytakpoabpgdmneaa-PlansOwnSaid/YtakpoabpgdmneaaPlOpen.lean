/- The statements of plans: acts that came in. -/
import Derived.Test.YtakpoabpgdmneaaPlActs
import Derived.Lib.SmallJoins
import Derived.OpenShut
import Derived.Deep.Slices
import Derived.Deep.Fields
import Derived.ChangeSame
namespace Go.Proofs.Ytakpoabpgdmneaa.Pl
open Go Go.RowKit Ck
open Go.ChangeShapes Go.WideShapes Go.ChangeAt Go.Joins Go.WideMaps Go.WideElems Go.Deep
instance : Inhabited Pr := ⟨⟨0, 0⟩⟩
instance : Inhabited Ac := ⟨⟨0, Pn.zero, none, 0, ⟨0, 0⟩, 0⟩⟩
section
variable {H : Type} {enc : TypeId × Value → H} {P : Program} {w : World} {base : Nat} {held : Bool}
theorem trod_struct2' {t : TypeId} {f0 f1 : Field} {fuel : Nat} {cs : List Value} {x : DataW H × List MemPlace} (ht : P.underlying t = some (.struct #[f0, f1])) (h : DataW.trod enc P w base (fun _ => true) held fuel t cs = some x) :
    ∃ y0 y1 m, DataW.trod enc P w base (fun _ => true) held m f0.type ((cs.drop f0.offset).take (P.cellsOf f0.type)) = some y0 ∧ DataW.trod enc P w base (fun _ => true) held m f1.type ((cs.drop f1.offset).take (P.cellsOf f1.type)) = some y1 := by
  obtain ⟨xs, m, _, _, _, hlen, hf⟩ := DataW.trod_struct ht h
  match xs, hlen with
  | [y0, y1], _ => exact ⟨y0, y1, m, by simpa using hf 0 f0 rfl, by simpa using hf 1 f1 rfl⟩
theorem trod_struct4' {t : TypeId} {f0 f1 f2 f3 : Field} {fuel : Nat} {cs : List Value} {x : DataW H × List MemPlace} (ht : P.underlying t = some (.struct #[f0, f1, f2, f3])) (h : DataW.trod enc P w base (fun _ => true) held fuel t cs = some x) :
    ∃ y0 y1 y2 y3 m, DataW.trod enc P w base (fun _ => true) held m f0.type ((cs.drop f0.offset).take (P.cellsOf f0.type)) = some y0 ∧ DataW.trod enc P w base (fun _ => true) held m f1.type ((cs.drop f1.offset).take (P.cellsOf f1.type)) = some y1 ∧ DataW.trod enc P w base (fun _ => true) held m f2.type ((cs.drop f2.offset).take (P.cellsOf f2.type)) = some y2 ∧ DataW.trod enc P w base (fun _ => true) held m f3.type ((cs.drop f3.offset).take (P.cellsOf f3.type)) = some y3 := by
  obtain ⟨xs, m, _, _, _, hlen, hf⟩ := DataW.trod_struct ht h
  match xs, hlen with
  | [y0, y1, y2, y3], _ => exact ⟨y0, y1, y2, y3, m, by simpa using hf 0 f0 rfl, by simpa using hf 1 f1 rfl, by simpa using hf 2 f2 rfl, by simpa using hf 3 f3 rfl⟩
theorem trod_struct5' {t : TypeId} {f0 f1 f2 f3 f4 : Field} {fuel : Nat} {cs : List Value} {x : DataW H × List MemPlace} (ht : P.underlying t = some (.struct #[f0, f1, f2, f3, f4])) (h : DataW.trod enc P w base (fun _ => true) held fuel t cs = some x) :
    ∃ y0 y1 y2 y3 y4 m, DataW.trod enc P w base (fun _ => true) held m f0.type ((cs.drop f0.offset).take (P.cellsOf f0.type)) = some y0 ∧ DataW.trod enc P w base (fun _ => true) held m f1.type ((cs.drop f1.offset).take (P.cellsOf f1.type)) = some y1 ∧ DataW.trod enc P w base (fun _ => true) held m f2.type ((cs.drop f2.offset).take (P.cellsOf f2.type)) = some y2 ∧ DataW.trod enc P w base (fun _ => true) held m f3.type ((cs.drop f3.offset).take (P.cellsOf f3.type)) = some y3 ∧ DataW.trod enc P w base (fun _ => true) held m f4.type ((cs.drop f4.offset).take (P.cellsOf f4.type)) = some y4 := by
  obtain ⟨xs, m, _, _, _, hlen, hf⟩ := DataW.trod_struct ht h
  match xs, hlen with
  | [y0, y1, y2, y3, y4], _ => exact ⟨y0, y1, y2, y3, y4, m, by simpa using hf 0 f0 rfl, by simpa using hf 1 f1 rfl, by simpa using hf 2 f2 rfl, by simpa using hf 3 f3 rfl, by simpa using hf 4 f4 rfl⟩
theorem open_prices {t e : TypeId} {f0 f1 : Field} {fuel : Nat} {v : Value} {y : DataW H × List MemPlace} (ht : P.underlying t = some (.slice e)) (he : P.underlying e = some (.struct #[f0, f1])) (hC : P.cellsOf e = 2)
    (o0 : f0.offset = 0) (k0 : P.cellsOf f0.type = 1) (o1 : f1.offset = 1) (k1 : P.cellsOf f1.type = 1) (u0 : P.underlying f0.type = some (.int .i64)) (u1 : P.underlying f1.type = some (.int .i64))
    (h : DataW.trod enc P w base (fun _ => true) held fuel t [v] = some y) : ∃ a cap L, v = .slice a (List.length L) cap ∧ Prs w a L ∧ L.length ≤ maxLen := by
  rcases open_slice ht h with ⟨hcs, _⟩ | ⟨a, len, cap, m, n, D, Pl, hcs, _, hl, hm, hmm, _, hx⟩
  · simp at hcs
    exact ⟨none, 0, [], hcs, fun j hj => by simp at hj, by simp⟩
  · simp at hcs
    have hlm : len ≤ m := by rw [hmm]; split <;> omega
    rw [hC] at hx
    have hall : ∀ i, i < len → ∃ x : Pr, w.cell? ((a.add (i * 2)).add 0) = some (.int .i64 x.frm) ∧ w.cell? ((a.add (i * 2)).add 1) = some (.int .i64 x.amt) := by
      intro i hi
      obtain ⟨cs', h1, h2⟩ := hx i (by omega)
      obtain ⟨_, hlen, hat⟩ := World.cells?_some h1
      obtain ⟨z0, z1, k, a0, a1⟩ := trod_struct2' he h2
      match cs', hlen with
      | [c0, c1], _ =>
        simp [o0, k0, o1, k1] at a0 a1
        obtain ⟨x0, e0, _⟩ := DataW.trod_int u0 a0
        obtain ⟨x1, e1, _⟩ := DataW.trod_int u1 a1
        simp at e0 e1
        subst e0 e1
        exact ⟨⟨x0, x1⟩, by rw [hat 0 (by simp)]; rfl, by rw [hat 1 (by simp)]; rfl⟩
    obtain ⟨V, hV⟩ := choose_lt (α := Pr) (p := fun i x => w.cell? ((a.add (i * 2)).add 0) = some (.int .i64 x.frm) ∧ w.cell? ((a.add (i * 2)).add 1) = some (.int .i64 x.amt)) hall
    refine ⟨some a, cap, (List.range len).map V, by simpa using hcs, ?_, by simp; omega⟩
    intro j hj
    have hj' : j < len := by simpa using hj
    have c00 := (hV 0 (by omega)).1
    obtain ⟨ab, ao, spot⟩ := a
    have hspot : spot = none := by simpa [Addr.add] using World.cell?_spot c00
    subst hspot
    obtain ⟨h0, h1⟩ := hV j hj'
    rw [Go.WideShapes.add_plain, Go.WideShapes.add_plain] at h0 h1
    have hgj : ((List.range len).map V)[j] = V j := by simp
    rw [hgj]
    exact ⟨ab, ao, rfl, World.block_lt_of_cell? w ⟨ab, ao + j * 2 + 0, none⟩ h0, h0, h1⟩
theorem open_acts {t e : TypeId} {f0 f1 f2 f3 g0 g1 g2 g3 g4 q0 q1 : Field} {te : TypeId} {p0 p1 : Field} {fuel : Nat} {v : Value} {y : DataW H × List MemPlace} (ht : P.underlying t = some (.slice e)) (he : P.underlying e = some (.struct #[f0, f1, f2, f3])) (hs1 : P.underlying f1.type = some (.struct #[g0, g1, g2, g3, g4])) (hs2 : P.underlying f2.type = some (.struct #[q0, q1])) (hC : P.cellsOf e = 9)
    (o0 : f0.offset = 0) (k0 : P.cellsOf f0.type = 1) (o1 : f1.offset = 1) (k1 : P.cellsOf f1.type = 5) (o2 : f2.offset = 6) (k2 : P.cellsOf f2.type = 2) (o3 : f3.offset = 8) (k3 : P.cellsOf f3.type = 1)
    (a0 : g0.offset = 0) (b0 : P.cellsOf g0.type = 1) (a1 : g1.offset = 1) (b1 : P.cellsOf g1.type = 1) (a2 : g2.offset = 2) (b2 : P.cellsOf g2.type = 1) (a3 : g3.offset = 3) (b3 : P.cellsOf g3.type = 1) (a4 : g4.offset = 4) (b4 : P.cellsOf g4.type = 1)
    (c0 : q0.offset = 0) (d0 : P.cellsOf q0.type = 1) (c1 : q1.offset = 1) (d1 : P.cellsOf q1.type = 1)
    (u0 : P.underlying f0.type = some (.int .u8)) (v0 : P.underlying g0.type = some (.int .u64)) (v1 : P.underlying g1.type = some .string) (v2 : P.underlying g2.type = some (.int .i64)) (v3 : P.underlying g3.type = some (.slice te)) (v4 : P.underlying g4.type = some (.int .i64)) (z0 : P.underlying q0.type = some (.int .i64)) (z1 : P.underlying q1.type = some (.int .i64)) (u3 : P.underlying f3.type = some (.int .i64))
    (ue : P.underlying te = some (.struct #[p0, p1])) (uC : P.cellsOf te = 2) (uo0 : p0.offset = 0) (uk0 : P.cellsOf p0.type = 1) (uo1 : p1.offset = 1) (uk1 : P.cellsOf p1.type = 1) (uu0 : P.underlying p0.type = some (.int .i64)) (uu1 : P.underlying p1.type = some (.int .i64))
    (h : DataW.trod enc P w base (fun _ => true) held fuel t [v] = some y) :
    ∃ a cap L, v = .slice a (List.length L) cap ∧ Acs w a L ∧ L.length ≤ maxLen ∧ ∀ x ∈ L, Ac.Fits x := by
  rcases open_slice ht h with ⟨hcs, _⟩ | ⟨a, len, cap, m, n, D, Pl, hcs, _, hl, hm, hmm, _, hx⟩
  · simp at hcs
    exact ⟨none, 0, [], hcs, fun j hj => by simp at hj, by simp, by simp⟩
  · simp at hcs
    have hlm : len ≤ m := by rw [hmm]; split <;> omega
    rw [hC] at hx
    have hall : ∀ i, i < len → ∃ x : Ac, ((∀ k, k < 9 → w.cell? ((a.add (i * 9)).add k) = x.cells[k]?) ∧ Prs w x.a x.p.ps) ∧ x.Fits := by
      intro i hi
      obtain ⟨cs', h1, h2⟩ := hx i (by omega)
      obtain ⟨_, hlen, hat⟩ := World.cells?_some h1
      obtain ⟨y0, y1, y2, y3, kk, t0, t1, t2, t3⟩ := trod_struct4' he h2
      match cs', hlen with
      | [w0, w1, w2, w3, w4, w5, w6, w7, w8], _ =>
        simp only [o0, k0, o1, k1, o2, k2, o3, k3] at t0 t1 t2 t3
        obtain ⟨r0, r1, r2, r3, r4, k5, s0, s1, s2, s3, s4⟩ := trod_struct5' hs1 t1
        obtain ⟨m0, m1, k6, n0, n1⟩ := trod_struct2' hs2 t2
        simp [a0, b0, a1, b1, a2, b2, a3, b3, a4, b4] at s0 s1 s2 s3 s4
        simp [c0, d0, c1, d1] at n0 n1
        simp at t0 t3
        obtain ⟨x0, e0, _, wx0⟩ := DataW.trod_int u0 t0
        obtain ⟨x1, e1, _, wx1⟩ := DataW.trod_int v0 s0
        obtain ⟨x2, e2, _, bx2⟩ := DataW.trod_string v1 s1
        obtain ⟨x3, e3, _⟩ := DataW.trod_int v2 s2
        obtain ⟨pa, pc, L, e4, hpl, hll⟩ := open_prices v3 ue uC uo0 uk0 uo1 uk1 uu0 uu1 s3
        obtain ⟨x5, e5, _⟩ := DataW.trod_int v4 s4
        obtain ⟨x6, e6, _⟩ := DataW.trod_int z0 n0
        obtain ⟨x7, e7, _⟩ := DataW.trod_int z1 n1
        obtain ⟨x8, e8, _⟩ := DataW.trod_int u3 t3
        simp at e0 e1 e2 e3 e4 e5 e6 e7 e8
        subst e0 e1 e2 e3 e4 e5 e6 e7 e8
        refine ⟨⟨x0, ⟨x1, x2, x3, L, x5⟩, pa, pc, ⟨x6, x7⟩, x8⟩, ⟨fun j hj => ?_, hpl⟩, ⟨bounds_u8 wx0, bounds_u64 wx1, hll, by show x2.size ≤ _; omega⟩⟩
        rw [hat j (by simpa using hj)]
        rfl
    obtain ⟨V, hV⟩ := choose_lt (α := Ac) (p := fun i x => ((∀ k, k < 9 → w.cell? ((a.add (i * 9)).add k) = x.cells[k]?) ∧ Prs w x.a x.p.ps) ∧ x.Fits) hall
    refine ⟨some a, cap, (List.range len).map V, by simpa using hcs, ?_, by simp; omega, ?_⟩
    · intro j hj
      have hj' : j < len := by simpa using hj
      obtain ⟨hc, hp⟩ := (hV j hj').1
      have c00 : w.cell? ((a.add (0 * 9)).add 0) = some (.int .u8 (V 0).what) := (hV 0 (by omega)).1.1 0 (by omega)
      obtain ⟨ab, ao, spot⟩ := a
      have hspot : spot = none := by simpa [Addr.add] using World.cell?_spot c00
      subst hspot
      have hc0 : w.cell? (((⟨ab, ao, none⟩ : Addr).add (j * 9)).add 0) = some (.int .u8 (V j).what) := hc 0 (by omega)
      rw [Go.WideShapes.add_plain, Go.WideShapes.add_plain] at hc0
      have hgj : ((List.range len).map V)[j] = V j := by simp
      rw [hgj]
      refine ⟨ab, ao, rfl, World.block_lt_of_cell? w ⟨ab, ao + j * 9 + 0, none⟩ hc0, fun i u hu => ?_, hp⟩
      have hi : i < 9 := (List.getElem?_eq_some_iff.1 hu).1
      have := hc i hi
      rw [Go.WideShapes.add_plain, Go.WideShapes.add_plain] at this
      rw [this, hu]
    · intro x hx
      obtain ⟨i, hi, rfl⟩ := List.mem_map.1 hx
      exact (hV i (List.mem_range.1 hi)).2
end
end Go.Proofs.Ytakpoabpgdmneaa.Pl
