/- Package chart: an account that came in. -/
import Derived.Test.YtialclecoamobaaChOpen
namespace Go.Proofs.Ytialclecoamobaa.Ch
open Go Go.RowKit Ck
open Go.ChangeShapes Go.WideShapes Go.ChangeAt Go.Joins Go.WideMaps Go.WideElems Go.Deep
section
variable {H : Type} {enc : TypeId × Value → H} {P : Program} {w : World} {base : Nat} {held : Bool}
theorem array5 {cs : Array Value} (h : cs.size = 5) : ∃ c0 c1 c2 c3 c4, cs = #[c0, c1, c2, c3, c4] := by
  obtain ⟨l⟩ := cs
  simp at h
  match l, h with
  | [c0, c1, c2, c3, c4], _ => exact ⟨c0, c1, c2, c3, c4, rfl⟩
theorem open_acc {r : Reach} {b0 : Nat} {t : TypeId} {f0 f1 f2 f3 f4 : Field} {v : Value} {d : DataW H} {p : List MemPlace} (hs : P.underlying t = some (.struct #[f0, f1, f2, f3, f4])) (hone : oneCellFields P #[f0, f1, f2, f3, f4] = true) (hC : P.cellsOf t = 5)
    (v0 : P.underlying f0.type = some (.int .i64)) (v1 : P.underlying f1.type = some (.int .i64)) (v2 : P.underlying f2.type = some (.int .u8)) (v3 : P.underlying f3.type = some .string) (v4 : P.underlying f4.type = some .bool)
    (hv : Value.okWide P w r b0 t v) (h : DataW.Trod enc P w base (fun _ => true) held t v d p) : ∃ x : A5, v = x.val ∧ x.Fits := by
  obtain ⟨cs, rfl, hsz⟩ := okWide_struct hs hv
  obtain ⟨c0, c1, c2, c3, c4, rfl⟩ := array5 (hsz.trans hC)
  obtain ⟨fuel, hf⟩ := h
  obtain ⟨y0, y1, y2, y3, y4, n, h0, h1, h2, h3, h4⟩ := trod_struct5' hs hf
  obtain ⟨o0, k0⟩ := hone_of hone 0 f0 rfl
  obtain ⟨o1, k1⟩ := hone_of hone 1 f1 rfl
  obtain ⟨o2, k2⟩ := hone_of hone 2 f2 rfl
  obtain ⟨o3, k3⟩ := hone_of hone 3 f3 rfl
  obtain ⟨o4, k4⟩ := hone_of hone 4 f4 rfl
  simp [Value.cells, o0, k0] at h0
  simp [Value.cells, o1, k1] at h1
  simp [Value.cells, o2, k2] at h2
  simp [Value.cells, o3, k3] at h3
  simp [Value.cells, o4, k4] at h4
  obtain ⟨x1, e1, _, wx1⟩ := DataW.trod_int v0 h0
  obtain ⟨x2, e2, _, wx2⟩ := DataW.trod_int v1 h1
  obtain ⟨x3, e3, _, wx3⟩ := DataW.trod_int v2 h2
  obtain ⟨x4, e4, _, bx4⟩ := DataW.trod_string v3 h3
  obtain ⟨x5, e5, _⟩ := DataW.trod_bool v4 h4
  simp at e1 e2 e3 e4 e5
  subst e1 e2 e3 e4 e5
  have hml : maxLen = 9223372036854775807 := rfl
  exact ⟨⟨x1, x2, x3, x4, x5⟩, rfl, ⟨bounds_i64 wx1, bounds_i64 wx2, by show x4.size ≤ _; omega⟩⟩
end
end Go.Proofs.Ytialclecoamobaa.Ch
