/- Package subs: a subscription that came in. -/
import Derived.Test.YtjchecjonkmhgaaDoorSuHead
import Derived.Lib.SmallJoins
import Derived.OpenShut
import Derived.Deep.Slices
import Derived.Deep.Fields
import Derived.ChangeSame
namespace Go.Proofs.YtjchecjonkmhgaaDoor.Su
open Go.RowKit Pr Cw An
open Go.ChangeShapes Go.WideShapes Go.ChangeAt Go.Joins Go.WideMaps Go.WideElems Go.Deep
section
variable {H : Type} {enc : TypeId × Value → H} {P : Program} {w : World} {base : Nat} {held : Bool}
theorem array10 {α : Type} {cs : Array α} (h : cs.size = 10) : ∃ c0 c1 c2 c3 c4 c5 c6 c7 c8 c9, cs = #[c0, c1, c2, c3, c4, c5, c6, c7, c8, c9] := by
  obtain ⟨l⟩ := cs
  match l, h with
  | [c0, c1, c2, c3, c4, c5, c6, c7, c8, c9], _ => exact ⟨c0, c1, c2, c3, c4, c5, c6, c7, c8, c9, rfl⟩
theorem trod_struct8' {t : TypeId} {f0 f1 f2 f3 f4 f5 f6 f7 : Field} {fuel : Nat} {cs : List Value} {x : DataW H × List MemPlace} (ht : P.underlying t = some (.struct #[f0, f1, f2, f3, f4, f5, f6, f7])) (h : DataW.trod enc P w base (fun _ => true) held fuel t cs = some x) :
    ∃ y0 y1 y2 y3 y4 y5 y6 y7 m, DataW.trod enc P w base (fun _ => true) held m f0.type ((cs.drop f0.offset).take (P.cellsOf f0.type)) = some y0 ∧ DataW.trod enc P w base (fun _ => true) held m f1.type ((cs.drop f1.offset).take (P.cellsOf f1.type)) = some y1 ∧ DataW.trod enc P w base (fun _ => true) held m f2.type ((cs.drop f2.offset).take (P.cellsOf f2.type)) = some y2 ∧ DataW.trod enc P w base (fun _ => true) held m f3.type ((cs.drop f3.offset).take (P.cellsOf f3.type)) = some y3 ∧
      DataW.trod enc P w base (fun _ => true) held m f4.type ((cs.drop f4.offset).take (P.cellsOf f4.type)) = some y4 ∧ DataW.trod enc P w base (fun _ => true) held m f5.type ((cs.drop f5.offset).take (P.cellsOf f5.type)) = some y5 ∧ DataW.trod enc P w base (fun _ => true) held m f6.type ((cs.drop f6.offset).take (P.cellsOf f6.type)) = some y6 ∧ DataW.trod enc P w base (fun _ => true) held m f7.type ((cs.drop f7.offset).take (P.cellsOf f7.type)) = some y7 := by
  obtain ⟨xs, m, _, _, _, hlen, hf⟩ := DataW.trod_struct ht h
  match xs, hlen with
  | [y0, y1, y2, y3, y4, y5, y6, y7], _ => exact ⟨y0, y1, y2, y3, y4, y5, y6, y7, m, by simpa using hf 0 f0 rfl, by simpa using hf 1 f1 rfl, by simpa using hf 2 f2 rfl, by simpa using hf 3 f3 rfl, by simpa using hf 4 f4 rfl, by simpa using hf 5 f5 rfl, by simpa using hf 6 f6 rfl, by simpa using hf 7 f7 rfl⟩
theorem trod_struct3' {t : TypeId} {f0 f1 f2 : Field} {fuel : Nat} {cs : List Value} {x : DataW H × List MemPlace} (ht : P.underlying t = some (.struct #[f0, f1, f2])) (h : DataW.trod enc P w base (fun _ => true) held fuel t cs = some x) :
    ∃ y0 y1 y2 m, DataW.trod enc P w base (fun _ => true) held m f0.type ((cs.drop f0.offset).take (P.cellsOf f0.type)) = some y0 ∧ DataW.trod enc P w base (fun _ => true) held m f1.type ((cs.drop f1.offset).take (P.cellsOf f1.type)) = some y1 ∧ DataW.trod enc P w base (fun _ => true) held m f2.type ((cs.drop f2.offset).take (P.cellsOf f2.type)) = some y2 := by
  obtain ⟨xs, m, _, _, _, hlen, hf⟩ := DataW.trod_struct ht h
  match xs, hlen with
  | [y0, y1, y2], _ => exact ⟨y0, y1, y2, m, by simpa using hf 0 f0 rfl, by simpa using hf 1 f1 rfl, by simpa using hf 2 f2 rfl⟩
theorem open_sub {r : Reach} {b0 : Nat} {t : TypeId} {f0 f1 f2 f3 f4 f5 f6 f7 g0 g1 g2 : Field} {v : Value} {d : DataW H} {p : List MemPlace}
    (hs : P.underlying t = some (.struct #[f0, f1, f2, f3, f4, f5, f6, f7])) (hs3 : P.underlying f3.type = some (.struct #[g0, g1, g2])) (hC : P.cellsOf t = 10)
    (o0 : f0.offset = 0) (k0 : P.cellsOf f0.type = 1) (o1 : f1.offset = 1) (k1 : P.cellsOf f1.type = 1) (o2 : f2.offset = 2) (k2 : P.cellsOf f2.type = 1) (o3 : f3.offset = 3) (k3 : P.cellsOf f3.type = 3)
    (o4 : f4.offset = 6) (k4 : P.cellsOf f4.type = 1) (o5 : f5.offset = 7) (k5 : P.cellsOf f5.type = 1) (o6 : f6.offset = 8) (k6 : P.cellsOf f6.type = 1) (o7 : f7.offset = 9) (k7 : P.cellsOf f7.type = 1)
    (p0 : g0.offset = 0) (q0 : P.cellsOf g0.type = 1) (p1 : g1.offset = 1) (q1 : P.cellsOf g1.type = 1) (p2 : g2.offset = 2) (q2 : P.cellsOf g2.type = 1)
    (u0 : P.underlying f0.type = some (.int .u64)) (u1 : P.underlying f1.type = some (.int .u64)) (u2 : P.underlying f2.type = some (.int .u64))
    (v0 : P.underlying g0.type = some (.int .i64)) (v1 : P.underlying g1.type = some (.int .i64)) (v2 : P.underlying g2.type = some (.int .i64))
    (u4 : P.underlying f4.type = some (.int .i64)) (u5 : P.underlying f5.type = some (.int .i64)) (u6 : P.underlying f6.type = some (.int .i64)) (u7 : P.underlying f7.type = some (.int .i64))
    (hv : Value.okWide P w r b0 t v) (h : DataW.Trod enc P w base (fun _ => true) held t v d p) :
    ∃ s : Sb, v = s.val ∧ s.Fits := by
  obtain ⟨cs, rfl, hsz⟩ := okWide_struct hs hv
  obtain ⟨c0, c1, c2, c3, c4, c5, c6, c7, c8, c9, rfl⟩ := array10 (hsz.trans hC)
  obtain ⟨fuel, hf⟩ := h
  obtain ⟨y0, y1, y2, y3, y4, y5, y6, y7, m, a0, a1, a2, a3, a4, a5, a6, a7⟩ := trod_struct8' hs hf
  simp only [Value.cells, o0, k0, o1, k1, o2, k2, o3, k3, o4, k4, o5, k5, o6, k6, o7, k7] at a0 a1 a2 a3 a4 a5 a6 a7
  obtain ⟨z0, z1, z2, m2, b0', b1, b2⟩ := trod_struct3' hs3 a3
  simp [p0, q0, p1, q1, p2, q2] at b0' b1 b2
  simp at a0 a1 a2 a4 a5 a6 a7
  obtain ⟨x0, e0, _, w0⟩ := DataW.trod_int u0 a0
  obtain ⟨x1, e1, _, w1⟩ := DataW.trod_int u1 a1
  obtain ⟨x2, e2, _, w2⟩ := DataW.trod_int u2 a2
  obtain ⟨x3, e3, _, w3⟩ := DataW.trod_int v0 b0'
  obtain ⟨x4, e4, _, w4⟩ := DataW.trod_int v1 b1
  obtain ⟨x5, e5, _, w5⟩ := DataW.trod_int v2 b2
  obtain ⟨x6, e6, _, w6⟩ := DataW.trod_int u4 a4
  obtain ⟨x7, e7, _, w7⟩ := DataW.trod_int u5 a5
  obtain ⟨x8, e8, _, w8⟩ := DataW.trod_int u6 a6
  obtain ⟨x9, e9, _, w9⟩ := DataW.trod_int u7 a7
  simp at e0 e1 e2 e3 e4 e5 e6 e7 e8 e9
  subst e0 e1 e2 e3 e4 e5 e6 e7 e8 e9
  have i3 := bounds_i64 w3
  have i4 := bounds_i64 w4
  have i5 := bounds_i64 w5
  exact ⟨⟨x0, x1, x2, ⟨x3, x4, x5⟩, x6, x7, x8, x9⟩, rfl, ⟨bounds_u64 w0, bounds_u64 w1, bounds_u64 w2, ⟨i3, i4, i5⟩, bounds_i64 w6, bounds_i64 w7, bounds_i64 w9, bounds_i64 w8⟩⟩
end
end Go.Proofs.YtjchecjonkmhgaaDoor.Su
