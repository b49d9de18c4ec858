/- Package invoices: an invoice, and a list of them, that came in. (gen_open.py writes this.) -/
import Derived.Test.YtaidijbjpogpeaaDoorInHead
import Derived.Lib.SmallJoins
import Derived.OpenShut
import Derived.Deep.Slices
import Derived.Deep.Fields
import Derived.ChangeSame
namespace Go.Proofs.YtaidijbjpogpeaaDoor.Inv
open Go.RowKit Go.ChangeShapes Go.WideShapes Go.ChangeAt Go.Joins Go.WideMaps Go.WideElems Go.Deep
/-- A list of invoices in memory. -/
def Ivs (w : World) (a : Option Addr) (L : List Iv) : Prop :=
  ∀ j (h : j < L.length), ∃ b off, a = some ⟨b, off, none⟩ ∧ b < w.heap.size ∧ w.cell? ⟨b, off + j * 11, none⟩ = some (.int .u64 L[j].id) ∧ w.cell? ⟨b, off + j * 11 + 1, none⟩ = some (.int .u64 L[j].cust) ∧ w.cell? ⟨b, off + j * 11 + 2, none⟩ = some (.int .u64 L[j].con) ∧ w.cell? ⟨b, off + j * 11 + 3, none⟩ = some (.int .i64 L[j].day) ∧ w.cell? ⟨b, off + j * 11 + 4, none⟩ = some (.int .i64 L[j].due) ∧ w.cell? ⟨b, off + j * 11 + 5, none⟩ = some (.int .i64 L[j].frm) ∧ w.cell? ⟨b, off + j * 11 + 6, none⟩ = some (.int .i64 L[j].next) ∧ w.cell? ⟨b, off + j * 11 + 7, none⟩ = some (.int .i64 L[j].amt) ∧ w.cell? ⟨b, off + j * 11 + 8, none⟩ = some (.int .i64 L[j].cred) ∧ w.cell? ⟨b, off + j * 11 + 9, none⟩ = some (.int .i64 L[j].paid) ∧ w.cell? ⟨b, off + j * 11 + 10, none⟩ = some (.int .i64 L[j].lost)
theorem Ivs.later {w w' : World} {a : Option Addr} {L : List Iv} (h : Ivs w a L) (hb : Below w.heap.size w w') : Ivs w' a L := by
  intro j hj
  obtain ⟨b, off, ha, hlt, c0, c1, c2, c3, c4, c5, c6, c7, c8, c9, c10⟩ := h j hj
  exact ⟨b, off, ha, Nat.lt_of_lt_of_le hlt hb.size, by rw [hb.cell (by simpa using hlt)]; exact c0, by rw [hb.cell (by simpa using hlt)]; exact c1, by rw [hb.cell (by simpa using hlt)]; exact c2, by rw [hb.cell (by simpa using hlt)]; exact c3, by rw [hb.cell (by simpa using hlt)]; exact c4, by rw [hb.cell (by simpa using hlt)]; exact c5, by rw [hb.cell (by simpa using hlt)]; exact c6, by rw [hb.cell (by simpa using hlt)]; exact c7, by rw [hb.cell (by simpa using hlt)]; exact c8, by rw [hb.cell (by simpa using hlt)]; exact c9, by rw [hb.cell (by simpa using hlt)]; exact c10⟩
instance : Inhabited Iv := ⟨⟨0, 0, 0, 0, 0, 0, 0, 0, 0, 0, 0⟩⟩
theorem array11 {α : Type} {cs : Array α} (h : cs.size = 11) : ∃ c0 c1 c2 c3 c4 c5 c6 c7 c8 c9 c10, cs = #[c0, c1, c2, c3, c4, c5, c6, c7, c8, c9, c10] := by
  obtain ⟨l⟩ := cs
  match l, h with
  | [c0, c1, c2, c3, c4, c5, c6, c7, c8, c9, c10], _ => exact ⟨c0, c1, c2, c3, c4, c5, c6, c7, c8, c9, c10, rfl⟩
section
variable {H : Type} {enc : TypeId × Value → H} {P : Program} {w : World} {base : Nat} {spare : Nat → Bool} {held : Bool}
theorem trod_struct11 {t : TypeId} {f0 f1 f2 f3 f4 f5 f6 f7 f8 f9 f10 : Field} {fuel : Nat} {cs : List Value} {x : DataW H × List MemPlace} (ht : P.underlying t = some (.struct #[f0, f1, f2, f3, f4, f5, f6, f7, f8, f9, f10])) (h : DataW.trod enc P w base spare held fuel t cs = some x) :
    ∃ y0 y1 y2 y3 y4 y5 y6 y7 y8 y9 y10 n, x.1 = .agg [y0.1, y1.1, y2.1, y3.1, y4.1, y5.1, y6.1, y7.1, y8.1, y9.1, y10.1] ∧ DataW.trod enc P w base spare held n f0.type ((cs.drop f0.offset).take (P.cellsOf f0.type)) = some y0 ∧ DataW.trod enc P w base spare held n f1.type ((cs.drop f1.offset).take (P.cellsOf f1.type)) = some y1 ∧ DataW.trod enc P w base spare held n f2.type ((cs.drop f2.offset).take (P.cellsOf f2.type)) = some y2 ∧ DataW.trod enc P w base spare held n f3.type ((cs.drop f3.offset).take (P.cellsOf f3.type)) = some y3 ∧ DataW.trod enc P w base spare held n f4.type ((cs.drop f4.offset).take (P.cellsOf f4.type)) = some y4 ∧ DataW.trod enc P w base spare held n f5.type ((cs.drop f5.offset).take (P.cellsOf f5.type)) = some y5 ∧ DataW.trod enc P w base spare held n f6.type ((cs.drop f6.offset).take (P.cellsOf f6.type)) = some y6 ∧ DataW.trod enc P w base spare held n f7.type ((cs.drop f7.offset).take (P.cellsOf f7.type)) = some y7 ∧ DataW.trod enc P w base spare held n f8.type ((cs.drop f8.offset).take (P.cellsOf f8.type)) = some y8 ∧ DataW.trod enc P w base spare held n f9.type ((cs.drop f9.offset).take (P.cellsOf f9.type)) = some y9 ∧ DataW.trod enc P w base spare held n f10.type ((cs.drop f10.offset).take (P.cellsOf f10.type)) = some y10 := by
  obtain ⟨xs, n, _, rfl, _, hlen, hf⟩ := DataW.trod_struct ht h
  match xs, hlen with
  | [y0, y1, y2, y3, y4, y5, y6, y7, y8, y9, y10], _ => exact ⟨y0, y1, y2, y3, y4, y5, y6, y7, y8, y9, y10, n, by simp, by simpa using hf 0 f0 rfl, by simpa using hf 1 f1 rfl, by simpa using hf 2 f2 rfl, by simpa using hf 3 f3 rfl, by simpa using hf 4 f4 rfl, by simpa using hf 5 f5 rfl, by simpa using hf 6 f6 rfl, by simpa using hf 7 f7 rfl, by simpa using hf 8 f8 rfl, by simpa using hf 9 f9 rfl, by simpa using hf 10 f10 rfl⟩
theorem open_agg11 {r : Reach} {b0 : Nat} {t : TypeId} {f0 f1 f2 f3 f4 f5 f6 f7 f8 f9 f10 : Field} {v : Value} {d : DataW H} {p : List MemPlace} (hs : P.underlying t = some (.struct #[f0, f1, f2, f3, f4, f5, f6, f7, f8, f9, f10])) (hone : oneCellFields P #[f0, f1, f2, f3, f4, f5, f6, f7, f8, f9, f10] = true) (hC : P.cellsOf t = 11)
    (hv : Value.okWide P w r b0 t v) (h : DataW.Trod enc P w base spare held t v d p) :
    ∃ (v0 v1 v2 v3 v4 v5 v6 v7 v8 v9 v10 : Value) (y0 y1 y2 y3 y4 y5 y6 y7 y8 y9 y10 : DataW H × List MemPlace) (n : Nat), v = .agg #[v0, v1, v2, v3, v4, v5, v6, v7, v8, v9, v10] ∧ d = .agg [y0.1, y1.1, y2.1, y3.1, y4.1, y5.1, y6.1, y7.1, y8.1, y9.1, y10.1] ∧
      DataW.trod enc P w base spare held n f0.type [v0] = some y0 ∧ DataW.trod enc P w base spare held n f1.type [v1] = some y1 ∧ DataW.trod enc P w base spare held n f2.type [v2] = some y2 ∧ DataW.trod enc P w base spare held n f3.type [v3] = some y3 ∧ DataW.trod enc P w base spare held n f4.type [v4] = some y4 ∧ DataW.trod enc P w base spare held n f5.type [v5] = some y5 ∧ DataW.trod enc P w base spare held n f6.type [v6] = some y6 ∧ DataW.trod enc P w base spare held n f7.type [v7] = some y7 ∧ DataW.trod enc P w base spare held n f8.type [v8] = some y8 ∧ DataW.trod enc P w base spare held n f9.type [v9] = some y9 ∧ DataW.trod enc P w base spare held n f10.type [v10] = some y10 := by
  obtain ⟨cs, rfl, hsz⟩ := okWide_struct hs hv
  obtain ⟨c0, c1, c2, c3, c4, c5, c6, c7, c8, c9, c10, rfl⟩ := array11 (hsz.trans hC)
  obtain ⟨fuel, hf⟩ := h
  obtain ⟨y0, y1, y2, y3, y4, y5, y6, y7, y8, y9, y10, n, hx, h0, h1, h2, h3, h4, h5, h6, h7, h8, h9, h10⟩ := trod_struct11 hs hf
  obtain ⟨o0, k0⟩ := hone_of hone 0 f0 rfl
  obtain ⟨o1, k1⟩ := hone_of hone 1 f1 rfl
  obtain ⟨o2, k2⟩ := hone_of hone 2 f2 rfl
  obtain ⟨o3, k3⟩ := hone_of hone 3 f3 rfl
  obtain ⟨o4, k4⟩ := hone_of hone 4 f4 rfl
  obtain ⟨o5, k5⟩ := hone_of hone 5 f5 rfl
  obtain ⟨o6, k6⟩ := hone_of hone 6 f6 rfl
  obtain ⟨o7, k7⟩ := hone_of hone 7 f7 rfl
  obtain ⟨o8, k8⟩ := hone_of hone 8 f8 rfl
  obtain ⟨o9, k9⟩ := hone_of hone 9 f9 rfl
  obtain ⟨o10, k10⟩ := hone_of hone 10 f10 rfl
  exact ⟨c0, c1, c2, c3, c4, c5, c6, c7, c8, c9, c10, y0, y1, y2, y3, y4, y5, y6, y7, y8, y9, y10, n, rfl, hx, by simpa [Value.cells, o0, k0] using h0, by simpa [Value.cells, o1, k1] using h1, by simpa [Value.cells, o2, k2] using h2, by simpa [Value.cells, o3, k3] using h3, by simpa [Value.cells, o4, k4] using h4, by simpa [Value.cells, o5, k5] using h5, by simpa [Value.cells, o6, k6] using h6, by simpa [Value.cells, o7, k7] using h7, by simpa [Value.cells, o8, k8] using h8, by simpa [Value.cells, o9, k9] using h9, by simpa [Value.cells, o10, k10] using h10⟩
end
section
variable {H : Type} {enc : TypeId × Value → H} {P : Program} {w : World} {base : Nat} {spare : Nat → Bool} {held : Bool}
theorem open_ivs {t e : TypeId} {f0 f1 f2 f3 f4 f5 f6 f7 f8 f9 f10 : Field} {fuel : Nat} {v : Value} {y : DataW H × List MemPlace} (ht : P.underlying t = some (.slice e)) (he : P.underlying e = some (.struct #[f0, f1, f2, f3, f4, f5, f6, f7, f8, f9, f10]))
    (hone : oneCellFields P #[f0, f1, f2, f3, f4, f5, f6, f7, f8, f9, f10] = true) (hC : P.cellsOf e = 11) (u0 : P.underlying f0.type = some (.int .u64)) (u1 : P.underlying f1.type = some (.int .u64)) (u2 : P.underlying f2.type = some (.int .u64)) (u3 : P.underlying f3.type = some (.int .i64)) (u4 : P.underlying f4.type = some (.int .i64)) (u5 : P.underlying f5.type = some (.int .i64)) (u6 : P.underlying f6.type = some (.int .i64)) (u7 : P.underlying f7.type = some (.int .i64)) (u8 : P.underlying f8.type = some (.int .i64)) (u9 : P.underlying f9.type = some (.int .i64)) (u10 : P.underlying f10.type = some (.int .i64))
    (h : DataW.trod enc P w base spare held fuel t [v] = some y) :
    ∃ a cap L, v = .slice a (List.length L) cap ∧ Ivs w a L ∧ L.length ≤ maxLen ∧ ∀ x ∈ L, Iv.Fits x := by
  rcases open_slice ht h with ⟨hcs, _⟩ | ⟨a, len, cap, m, n, D, Pl, hcs, _, hl, hm, hmm, _, hx⟩
  · simp at hcs
    exact ⟨none, 0, [], hcs, fun j hj => by simp at hj, by simp, by simp⟩
  · simp at hcs
    have hlm : len ≤ m := by rw [hmm]; split <;> omega
    rw [hC] at hx
    have hall : ∀ i, i < len → ∃ x : Iv, (w.cell? ((a.add (i * 11))) = some (.int .u64 x.id) ∧ w.cell? ((a.add (i * 11)).add 1) = some (.int .u64 x.cust) ∧ w.cell? ((a.add (i * 11)).add 2) = some (.int .u64 x.con) ∧ w.cell? ((a.add (i * 11)).add 3) = some (.int .i64 x.day) ∧ w.cell? ((a.add (i * 11)).add 4) = some (.int .i64 x.due) ∧ w.cell? ((a.add (i * 11)).add 5) = some (.int .i64 x.frm) ∧ w.cell? ((a.add (i * 11)).add 6) = some (.int .i64 x.next) ∧ w.cell? ((a.add (i * 11)).add 7) = some (.int .i64 x.amt) ∧ w.cell? ((a.add (i * 11)).add 8) = some (.int .i64 x.cred) ∧ w.cell? ((a.add (i * 11)).add 9) = some (.int .i64 x.paid) ∧ w.cell? ((a.add (i * 11)).add 10) = some (.int .i64 x.lost)) ∧ Iv.Fits x := by
      intro i hi
      obtain ⟨cs', h1, h2⟩ := hx i (by omega)
      obtain ⟨_, hlen, hat⟩ := World.cells?_some h1
      obtain ⟨xs, k, _, _, _, hxl, hf⟩ := DataW.trod_struct he h2
      obtain ⟨o0, k0⟩ := hone_of hone 0 f0 rfl
      obtain ⟨o1, k1⟩ := hone_of hone 1 f1 rfl
      obtain ⟨o2, k2⟩ := hone_of hone 2 f2 rfl
      obtain ⟨o3, k3⟩ := hone_of hone 3 f3 rfl
      obtain ⟨o4, k4⟩ := hone_of hone 4 f4 rfl
      obtain ⟨o5, k5⟩ := hone_of hone 5 f5 rfl
      obtain ⟨o6, k6⟩ := hone_of hone 6 f6 rfl
      obtain ⟨o7, k7⟩ := hone_of hone 7 f7 rfl
      obtain ⟨o8, k8⟩ := hone_of hone 8 f8 rfl
      obtain ⟨o9, k9⟩ := hone_of hone 9 f9 rfl
      obtain ⟨o10, k10⟩ := hone_of hone 10 f10 rfl
      match cs', hlen, xs, hxl with
      | [c0, c1, c2, c3, c4, c5, c6, c7, c8, c9, c10], _, [y0, y1, y2, y3, y4, y5, y6, y7, y8, y9, y10], _ =>
        have g0 : DataW.trod enc P w base spare held k f0.type [c0] = some y0 := by simpa [o0, k0] using hf 0 f0 rfl
        obtain ⟨x0, e0, _, wx0⟩ := DataW.trod_int u0 g0
        have g1 : DataW.trod enc P w base spare held k f1.type [c1] = some y1 := by simpa [o1, k1] using hf 1 f1 rfl
        obtain ⟨x1, e1, _, wx1⟩ := DataW.trod_int u1 g1
        have g2 : DataW.trod enc P w base spare held k f2.type [c2] = some y2 := by simpa [o2, k2] using hf 2 f2 rfl
        obtain ⟨x2, e2, _, wx2⟩ := DataW.trod_int u2 g2
        have g3 : DataW.trod enc P w base spare held k f3.type [c3] = some y3 := by simpa [o3, k3] using hf 3 f3 rfl
        obtain ⟨x3, e3, _, wx3⟩ := DataW.trod_int u3 g3
        have g4 : DataW.trod enc P w base spare held k f4.type [c4] = some y4 := by simpa [o4, k4] using hf 4 f4 rfl
        obtain ⟨x4, e4, _, wx4⟩ := DataW.trod_int u4 g4
        have g5 : DataW.trod enc P w base spare held k f5.type [c5] = some y5 := by simpa [o5, k5] using hf 5 f5 rfl
        obtain ⟨x5, e5, _, wx5⟩ := DataW.trod_int u5 g5
        have g6 : DataW.trod enc P w base spare held k f6.type [c6] = some y6 := by simpa [o6, k6] using hf 6 f6 rfl
        obtain ⟨x6, e6, _, wx6⟩ := DataW.trod_int u6 g6
        have g7 : DataW.trod enc P w base spare held k f7.type [c7] = some y7 := by simpa [o7, k7] using hf 7 f7 rfl
        obtain ⟨x7, e7, _, wx7⟩ := DataW.trod_int u7 g7
        have g8 : DataW.trod enc P w base spare held k f8.type [c8] = some y8 := by simpa [o8, k8] using hf 8 f8 rfl
        obtain ⟨x8, e8, _, wx8⟩ := DataW.trod_int u8 g8
        have g9 : DataW.trod enc P w base spare held k f9.type [c9] = some y9 := by simpa [o9, k9] using hf 9 f9 rfl
        obtain ⟨x9, e9, _, wx9⟩ := DataW.trod_int u9 g9
        have g10 : DataW.trod enc P w base spare held k f10.type [c10] = some y10 := by simpa [o10, k10] using hf 10 f10 rfl
        obtain ⟨x10, e10, _, wx10⟩ := DataW.trod_int u10 g10
        simp at e0 e1 e2 e3 e4 e5 e6 e7 e8 e9 e10
        subst e0 e1 e2 e3 e4 e5 e6 e7 e8 e9 e10
        have a0 := hat 0 (by omega)
        have a1 := hat 1 (by omega)
        have a2 := hat 2 (by omega)
        have a3 := hat 3 (by omega)
        have a4 := hat 4 (by omega)
        have a5 := hat 5 (by omega)
        have a6 := hat 6 (by omega)
        have a7 := hat 7 (by omega)
        have a8 := hat 8 (by omega)
        have a9 := hat 9 (by omega)
        have a10 := hat 10 (by omega)
        have hml : maxLen = 9223372036854775807 := rfl
        refine ⟨⟨x0, x1, x2, x3, x4, x5, x6, x7, x8, x9, x10⟩, ⟨?_, ?_, ?_, ?_, ?_, ?_, ?_, ?_, ?_, ?_, ?_⟩, ⟨bounds_u64 wx0, bounds_u64 wx1, bounds_u64 wx2, bounds_i64 wx3, bounds_i64 wx4, bounds_i64 wx5, bounds_i64 wx6, bounds_i64 wx7, bounds_i64 wx8, bounds_i64 wx9, bounds_i64 wx10⟩⟩
        · simpa [Addr.add] using a0
        · simpa using a1
        · simpa using a2
        · simpa using a3
        · simpa using a4
        · simpa using a5
        · simpa using a6
        · simpa using a7
        · simpa using a8
        · simpa using a9
        · simpa using a10
    obtain ⟨V, hV⟩ := choose_lt (α := Iv) (p := fun i x => (w.cell? ((a.add (i * 11))) = some (.int .u64 x.id) ∧ w.cell? ((a.add (i * 11)).add 1) = some (.int .u64 x.cust) ∧ w.cell? ((a.add (i * 11)).add 2) = some (.int .u64 x.con) ∧ w.cell? ((a.add (i * 11)).add 3) = some (.int .i64 x.day) ∧ w.cell? ((a.add (i * 11)).add 4) = some (.int .i64 x.due) ∧ w.cell? ((a.add (i * 11)).add 5) = some (.int .i64 x.frm) ∧ w.cell? ((a.add (i * 11)).add 6) = some (.int .i64 x.next) ∧ w.cell? ((a.add (i * 11)).add 7) = some (.int .i64 x.amt) ∧ w.cell? ((a.add (i * 11)).add 8) = some (.int .i64 x.cred) ∧ w.cell? ((a.add (i * 11)).add 9) = some (.int .i64 x.paid) ∧ w.cell? ((a.add (i * 11)).add 10) = some (.int .i64 x.lost)) ∧ Iv.Fits x) hall
    refine ⟨some a, cap, (List.range len).map V, by simpa using hcs, ?_, by simp; omega, ?_⟩
    · intro j hj
      have hj' : j < len := by simpa using hj
      obtain ⟨⟨c0, c1, c2, c3, c4, c5, c6, c7, c8, c9, c10⟩, _⟩ := hV j hj'
      have c00 := (hV 0 (by omega)).1.1
      obtain ⟨ab, ao, spot⟩ := a
      have hspot : spot = none := by simpa [Addr.add] using World.cell?_spot c00
      subst hspot
      rw [Go.WideShapes.add_plain] at c0 c1 c2 c3 c4 c5 c6 c7 c8 c9 c10
      rw [Go.WideShapes.add_plain] at c1 c2 c3 c4 c5 c6 c7 c8 c9 c10
      refine ⟨ab, ao, rfl, World.block_lt_of_cell? w ⟨ab, ao + j * 11, none⟩ c0, ?_, ?_, ?_, ?_, ?_, ?_, ?_, ?_, ?_, ?_, ?_⟩
      · rw [c0]; simp
      · rw [c1]; simp
      · rw [c2]; simp
      · rw [c3]; simp
      · rw [c4]; simp
      · rw [c5]; simp
      · rw [c6]; simp
      · rw [c7]; simp
      · rw [c8]; simp
      · rw [c9]; simp
      · rw [c10]; simp
    · intro x hx
      obtain ⟨i, hi, rfl⟩ := List.mem_map.1 hx
      exact (hV i (List.mem_range.1 hi)).2
end
end Go.Proofs.YtaidijbjpogpeaaDoor.Inv
