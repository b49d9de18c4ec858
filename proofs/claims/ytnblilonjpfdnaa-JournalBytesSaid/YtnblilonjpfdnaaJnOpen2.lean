/- Package journal: entries that came in. -/
import Derived.Test.YtnblilonjpfdnaaJnOpen
namespace Go.Proofs.Ytnblilonjpfdnaa.Jn
open Go Go.RowKit Ck
open Go.ChangeShapes Go.WideShapes Go.ChangeAt Go.Joins Go.WideMaps Go.WideElems Go.Deep
section
variable {H : Type} {enc : TypeId × Value → H} {P : Program} {w : World} {base : Nat} {held : Bool}
theorem array4 {cs : Array Value} (h : cs.size = 4) : ∃ c0 c1 c2 c3, cs = #[c0, c1, c2, c3] := by
  obtain ⟨l⟩ := cs
  simp at h
  match l, h with
  | [c0, c1, c2, c3], _ => exact ⟨c0, c1, c2, c3, rfl⟩
theorem array7 {cs : Array Value} (h : cs.size = 7) : ∃ c0 c1 c2 c3 c4 c5 c6, cs = #[c0, c1, c2, c3, c4, c5, c6] := by
  obtain ⟨l⟩ := cs
  simp at h
  match l, h with
  | [c0, c1, c2, c3, c4, c5, c6], _ => exact ⟨c0, c1, c2, c3, c4, c5, c6, rfl⟩
/-- What an entry that came in is. -/
structure EnF (w : World) (d k s : Int) (L : List Ln) (a : Option Addr) (cap : Nat) : Prop where
  d : I64 d
  k : 0 ≤ k ∧ k ≤ 255
  s : 0 ≤ s ∧ s ≤ 18446744073709551615
  l : LnC w cap a L
  n : L.length ≤ maxLen
  x : ∀ x ∈ L, x.Fits
theorem open_entry {r : Reach} {b0 : Nat} {t te : TypeId} {f0 f1 f2 f3 g0 g1 g2 g3 : Field} {v : Value} {dd : DataW H} {p : List MemPlace} (hs : P.underlying t = some (.struct #[f0, f1, f2, f3])) (hone : oneCellFields P #[f0, f1, f2, f3] = true) (hC : P.cellsOf t = 4)
    (v0 : P.underlying f0.type = some (.int .i64)) (v1 : P.underlying f1.type = some (.int .u8)) (v2 : P.underlying f2.type = some (.int .u64)) (v3 : P.underlying f3.type = some (.slice te)) (he : P.underlying te = some (.struct #[g0, g1, g2, g3])) (hCe : P.cellsOf te = 4)
    (o0 : g0.offset = 0) (k0 : P.cellsOf g0.type = 1) (o1 : g1.offset = 1) (k1 : P.cellsOf g1.type = 1) (o2 : g2.offset = 2) (k2 : P.cellsOf g2.type = 1) (o3 : g3.offset = 3) (k3 : P.cellsOf g3.type = 1) (u0 : P.underlying g0.type = some (.int .i64)) (u1 : P.underlying g1.type = some (.int .u64)) (u2 : P.underlying g2.type = some (.int .u64)) (u3 : P.underlying g3.type = some (.int .i64))
    (hv : Value.okWide P w r b0 t v) (h : DataW.Trod enc P w base (fun _ => true) held t v dd p) : ∃ d k s L a cap, v = .agg #[.int .i64 d, .int .u8 k, .int .u64 s, .slice a (List.length L) cap] ∧ EnF w d k s L a cap := by
  obtain ⟨cs, rfl, hsz⟩ := okWide_struct hs hv
  obtain ⟨c0, c1, c2, c3, rfl⟩ := array4 (hsz.trans hC)
  obtain ⟨fuel, hf⟩ := h
  obtain ⟨y0, y1, y2, y3, n, h0, h1, h2, h3⟩ := trod_struct4' hs hf
  obtain ⟨p0, q0⟩ := hone_of hone 0 f0 rfl
  obtain ⟨p1, q1⟩ := hone_of hone 1 f1 rfl
  obtain ⟨p2, q2⟩ := hone_of hone 2 f2 rfl
  obtain ⟨p3, q3⟩ := hone_of hone 3 f3 rfl
  simp [Value.cells, p0, q0] at h0
  simp [Value.cells, p1, q1] at h1
  simp [Value.cells, p2, q2] at h2
  simp [Value.cells, p3, q3] at h3
  obtain ⟨x0, e0, _, wx0⟩ := DataW.trod_int v0 h0
  obtain ⟨x1, e1, _, wx1⟩ := DataW.trod_int v1 h1
  obtain ⟨x2, e2, _, wx2⟩ := DataW.trod_int v2 h2
  obtain ⟨a, cap, L, e3, hln, hll, hfx⟩ := open_lines v3 he hCe o0 k0 o1 k1 o2 k2 o3 k3 u0 u1 u2 u3 h3
  simp at e0 e1 e2
  subst e0 e1 e2 e3
  exact ⟨x0, x1, x2, L, a, cap, rfl, ⟨bounds_i64 wx0, bounds_u8 wx1, bounds_u64 wx2, hln, hll, hfx⟩⟩
theorem open_asked {r : Reach} {b0 : Nat} {t te ta : TypeId} {e0 e1 e2 e3 f0 f1 f2 f3 g0 g1 g2 g3 a0 a1 a2 a3 a4 : Field} {v : Value} {dd : DataW H} {p : List MemPlace} (ht : P.underlying t = some (.struct #[e0, e1, e2, e3])) (hCt : P.cellsOf t = 7)
    (i0 : e0.offset = 0) (j0 : P.cellsOf e0.type = 4) (i1 : e1.offset = 4) (j1 : P.cellsOf e1.type = 1) (i2 : e2.offset = 5) (j2 : P.cellsOf e2.type = 1) (i3 : e3.offset = 6) (j3 : P.cellsOf e3.type = 1)
    (w1 : P.underlying e1.type = some (.slice ta)) (w2 : P.underlying e2.type = some .bool) (w3 : P.underlying e3.type = some (.int .i64))
    (ha : P.underlying ta = some (.struct #[a0, a1, a2, a3, a4])) (hCa : P.cellsOf ta = 5)
    (b0' : a0.offset = 0) (d0 : P.cellsOf a0.type = 1) (b1 : a1.offset = 1) (d1 : P.cellsOf a1.type = 1) (b2 : a2.offset = 2) (d2 : P.cellsOf a2.type = 1) (b3 : a3.offset = 3) (d3 : P.cellsOf a3.type = 1) (b4 : a4.offset = 4) (d4 : P.cellsOf a4.type = 1)
    (m0 : P.underlying a0.type = some (.int .i64)) (m1 : P.underlying a1.type = some (.int .i64)) (m2 : P.underlying a2.type = some (.int .u8)) (m3 : P.underlying a3.type = some .string) (m4 : P.underlying a4.type = some .bool)
    (hs : P.underlying e0.type = some (.struct #[f0, f1, f2, f3])) (hone : oneCellFields P #[f0, f1, f2, f3] = true)
    (v0 : P.underlying f0.type = some (.int .i64)) (v1 : P.underlying f1.type = some (.int .u8)) (v2 : P.underlying f2.type = some (.int .u64)) (v3 : P.underlying f3.type = some (.slice te)) (he : P.underlying te = some (.struct #[g0, g1, g2, g3])) (hCe : P.cellsOf te = 4)
    (o0 : g0.offset = 0) (k0 : P.cellsOf g0.type = 1) (o1 : g1.offset = 1) (k1 : P.cellsOf g1.type = 1) (o2 : g2.offset = 2) (k2 : P.cellsOf g2.type = 1) (o3 : g3.offset = 3) (k3 : P.cellsOf g3.type = 1) (u0 : P.underlying g0.type = some (.int .i64)) (u1 : P.underlying g1.type = some (.int .u64)) (u2 : P.underlying g2.type = some (.int .u64)) (u3 : P.underlying g3.type = some (.int .i64))
    (hv : Value.okWide P w r b0 t v) (h : DataW.Trod enc P w base (fun _ => true) held t v dd p) : ∃ d k s L a cap ma mc A sh day, v = .agg #[.int .i64 d, .int .u8 k, .int .u64 s, .slice a (List.length L) cap, .slice ma (List.length A) mc, .bool sh, .int .i64 day] ∧ EnF w d k s L a cap ∧ Ch.Acs w ma A ∧ A.length ≤ maxLen ∧ (∀ x ∈ A, Ch.A5.Fits x) ∧ I64 day := by
  obtain ⟨cs, rfl, hsz⟩ := okWide_struct ht hv
  obtain ⟨c0, c1, c2, c3, c4, c5, c6, rfl⟩ := array7 (hsz.trans hCt)
  obtain ⟨fuel, hf⟩ := h
  obtain ⟨y0, y1, y2, y3, n, h0, h1, h2, h3⟩ := trod_struct4' ht hf
  simp [Value.cells, i0, j0] at h0
  simp [Value.cells, i1, j1] at h1
  simp [Value.cells, i2, j2] at h2
  simp [Value.cells, i3, j3] at h3
  obtain ⟨z0, z1, z2, z3, n', t0, t1, t2, t3⟩ := trod_struct4' hs h0
  obtain ⟨p0, q0⟩ := hone_of hone 0 f0 rfl
  obtain ⟨p1, q1⟩ := hone_of hone 1 f1 rfl
  obtain ⟨p2, q2⟩ := hone_of hone 2 f2 rfl
  obtain ⟨p3, q3⟩ := hone_of hone 3 f3 rfl
  simp [p0, q0] at t0
  simp [p1, q1] at t1
  simp [p2, q2] at t2
  simp [p3, q3] at t3
  obtain ⟨x0, r0, _, wx0⟩ := DataW.trod_int v0 t0
  obtain ⟨x1, r1, _, wx1⟩ := DataW.trod_int v1 t1
  obtain ⟨x2, r2, _, wx2⟩ := DataW.trod_int v2 t2
  obtain ⟨a, cap, L, r3, hln, hll, hfx⟩ := open_lines v3 he hCe o0 k0 o1 k1 o2 k2 o3 k3 u0 u1 u2 u3 t3
  obtain ⟨ma, mc, A, r4, hac, hal, hfa⟩ := open_accs w1 ha hCa b0' d0 b1 d1 b2 d2 b3 d3 b4 d4 m0 m1 m2 m3 m4 h1
  obtain ⟨x5, r5, _⟩ := DataW.trod_bool w2 h2
  obtain ⟨x6, r6, _, wx6⟩ := DataW.trod_int w3 h3
  simp at r0 r1 r2 r5 r6
  subst r0 r1 r2 r3 r4 r5 r6
  exact ⟨x0, x1, x2, L, a, cap, ma, mc, A, x5, x6, rfl, ⟨bounds_i64 wx0, bounds_u8 wx1, bounds_u64 wx2, hln, hll, hfx⟩, hac, hal, hfa, bounds_i64 wx6⟩
end
end Go.Proofs.Ytnblilonjpfdnaa.Jn
