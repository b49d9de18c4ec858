/- The statements of plans: acts that came in, and what a slice that is nil has. -/
import Derived.Test.YtakpoabpgdmneaaPlOpen
namespace Go.Proofs.Ytakpoabpgdmneaa.Pl
open Go Go.RowKit Ck
open Go.ChangeShapes Go.WideShapes Go.ChangeAt Go.Joins Go.WideMaps Go.WideElems Go.Deep
structure Ac.Fits2 (x : Ac) : Prop where
  f : x.Fits
  nil : x.a = none → x.cap = 0
section
variable {H : Type} {enc : TypeId × Value → H} {P : Program} {w : World} {base : Nat} {held : Bool}
theorem nil_cap {t e : TypeId} {fuel : Nat} {v : Value} {y : DataW H × List MemPlace} (ht : P.underlying t = some (.slice e)) (h : DataW.trod enc P w base (fun _ => true) held fuel t [v] = some y) {n c : Nat} (hv : v = .slice none n c) : c = 0 := by
  rcases open_slice ht h with ⟨hcs, _⟩ | ⟨a, len, cap, m, k, D, Pl, hcs, _⟩
  · simp at hcs
    rw [hv] at hcs
    injection hcs
  · simp at hcs
    rw [hv] at hcs
    injection hcs with h1
    cases h1
theorem open_acts2 {t e : TypeId} {f0 f1 f2 f3 g0 g1 g2 g3 g4 q0 q1 : Field} {te : TypeId} {p0 p1 : Field} {fuel : Nat} {v : Value} {y : DataW H × List MemPlace} (ht : P.underlying t = some (.slice e)) (he : P.underlying e = some (.struct #[f0, f1, f2, f3])) (hs1 : P.underlying f1.type = some (.struct #[g0, g1, g2, g3, g4])) (hs2 : P.underlying f2.type = some (.struct #[q0, q1])) (hC : P.cellsOf e = 9)
    (o0 : f0.offset = 0) (k0 : P.cellsOf f0.type = 1) (o1 : f1.offset = 1) (k1 : P.cellsOf f1.type = 5) (o2 : f2.offset = 6) (k2 : P.cellsOf f2.type = 2) (o3 : f3.offset = 8) (k3 : P.cellsOf f3.type = 1)
    (a0 : g0.offset = 0) (b0 : P.cellsOf g0.type = 1) (a1 : g1.offset = 1) (b1 : P.cellsOf g1.type = 1) (a2 : g2.offset = 2) (b2 : P.cellsOf g2.type = 1) (a3 : g3.offset = 3) (b3 : P.cellsOf g3.type = 1) (a4 : g4.offset = 4) (b4 : P.cellsOf g4.type = 1)
    (c0 : q0.offset = 0) (d0 : P.cellsOf q0.type = 1) (c1 : q1.offset = 1) (d1 : P.cellsOf q1.type = 1)
    (u0 : P.underlying f0.type = some (.int .u8)) (v0 : P.underlying g0.type = some (.int .u64)) (v1 : P.underlying g1.type = some .string) (v2 : P.underlying g2.type = some (.int .i64)) (v3 : P.underlying g3.type = some (.slice te)) (v4 : P.underlying g4.type = some (.int .i64)) (z0 : P.underlying q0.type = some (.int .i64)) (z1 : P.underlying q1.type = some (.int .i64)) (u3 : P.underlying f3.type = some (.int .i64))
    (ue : P.underlying te = some (.struct #[p0, p1])) (uC : P.cellsOf te = 2) (uo0 : p0.offset = 0) (uk0 : P.cellsOf p0.type = 1) (uo1 : p1.offset = 1) (uk1 : P.cellsOf p1.type = 1) (uu0 : P.underlying p0.type = some (.int .i64)) (uu1 : P.underlying p1.type = some (.int .i64))
    (h : DataW.trod enc P w base (fun _ => true) held fuel t [v] = some y) :
    ∃ a cap L, v = .slice a (List.length L) cap ∧ Acs w a L ∧ L.length ≤ maxLen ∧ ∀ x ∈ L, Ac.Fits2 x := by
  obtain ⟨a, cap, L, hv, hA, hl, hf⟩ := open_acts ht he hs1 hs2 hC o0 k0 o1 k1 o2 k2 o3 k3 a0 b0 a1 b1 a2 b2 a3 b3 a4 b4 c0 d0 c1 d1 u0 v0 v1 v2 v3 v4 z0 z1 u3 ue uC uo0 uk0 uo1 uk1 uu0 uu1 h
  refine ⟨a, cap, L, hv, hA, hl, fun x hx => ⟨hf x hx, fun hn => ?_⟩⟩
  obtain ⟨i, hi, rfl⟩ := List.getElem_of_mem hx
  obtain ⟨ab, ao, rfl, _, hc, _⟩ := hA i hi
  rcases open_slice ht h with ⟨hcs, _⟩ | ⟨a', len, cap', m, n, D, Pl, hcs, _, _, hm, hmm, _, hxx⟩
  · simp at hcs
    rw [hv] at hcs
    injection hcs with h1
    cases h1
  · simp at hcs
    rw [hv] at hcs
    injection hcs with h1 h2 h3
    cases h1
    rw [hC] at hxx
    have hlm : len ≤ m := by rw [hmm]; split <;> omega
    obtain ⟨cs', r1, r2⟩ := hxx i (by omega)
    obtain ⟨_, hlen, hat⟩ := World.cells?_some r1
    obtain ⟨y0, y1, y2, y3, kk, t0, t1, t2, t3⟩ := trod_struct4' he r2
    match cs', hlen with
    | [w0, w1, w2, w3, w4, w5, w6, w7, w8], _ =>
      simp only [o0, k0, o1, k1, o2, k2, o3, k3] at t0 t1 t2 t3
      obtain ⟨r0, r1', r2', r3, r4, k5, s0, s1, s2, s3, s4⟩ := trod_struct5' hs1 t1
      simp [a0, b0, a1, b1, a2, b2, a3, b3, a4, b4] at s0 s1 s2 s3 s4
      have h4 := hat 4 (by simp)
      have h4' := hc 4 _ rfl
      rw [Go.WideShapes.add_plain, Go.WideShapes.add_plain] at h4
      rw [h4'] at h4
      simp at h4
      rw [hn] at h4
      exact nil_cap v3 s3 h4.symm
end
end Go.Proofs.Ytakpoabpgdmneaa.Pl
