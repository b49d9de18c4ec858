/- Package quittancelaw04: a list of writings that came in. -/
import Derived.Test.YtbmlnodimcalgaaDoorSfTorn1
import Derived.Lib.SmallJoins
import Derived.OpenShut
import Derived.Deep.Slices
import Derived.Deep.Fields
import Derived.ChangeSame
import Derived.ChangeOld
namespace Go.Proofs.YtbmlnodimcalgaaDoor.Shf
open Go.RowKit Go.ChangeShapes Go.WideShapes Go.ChangeAt Go.Joins Go.WideMaps Go.WideElems Go.Deep
instance : Inhabited Ovr := ⟨⟨0, 0, ⟨#[]⟩, none, 0, []⟩⟩
section
variable {H : Type} {enc : TypeId × Value → H} {P : Program} {w : World} {base : Nat} {spare : Nat → Bool} {held : Bool}
theorem open_intsT {t e : TypeId} {fuel : Nat} {v : Value} {y : DataW H × List MemPlace} (ht : P.underlying t = some (.slice e)) (he : P.underlying e = some (.int .i64)) (hc : P.cellsOf e = 1)
    (h : DataW.trod enc P w base spare held fuel t [v] = some y) :
    ∃ a cap N, v = .slice a (List.length N) cap ∧ Ints w a N ∧ N.length ≤ 9223372036854775807 ∧ ∀ n ∈ N, -9223372036854775808 ≤ n ∧ n ≤ 9223372036854775807 := by
  have hml : maxLen = 9223372036854775807 := rfl
  rcases open_ints ht he hc h with ⟨hcs, _⟩ | ⟨x, l, c, zs, hcs, _, hl, hm, hz, _, hcell, hwz⟩
  · simp at hcs
    exact ⟨none, 0, [], hcs, fun j hj => by simp at hj, by simp, by simp⟩
  · simp at hcs
    have hge : l ≤ zs.length := by rw [hz]; split <;> omega
    have hlt : (zs.take l).length = l := by simp; omega
    refine ⟨some x, c, zs.take l, by rw [hlt]; exact hcs, ?_, by omega, fun n hn => bounds_i64 (hwz n (List.mem_of_mem_take hn))⟩
    intro j hj
    have hj' : j < l := by omega
    obtain ⟨ab, ao, spot⟩ := x
    have hcj := hcell j (by omega)
    have hspot : spot = none := by simpa [Addr.add] using World.cell?_spot (hcell 0 (by omega))
    subst hspot
    rw [Go.WideShapes.add_plain] at hcj
    refine ⟨ab, ao, rfl, World.block_lt_of_cell? w ⟨ab, ao + j, none⟩ hcj, ?_⟩
    rw [hcj]
    have hjs : j < zs.length := by omega
    simp [List.getD, List.getElem?_eq_getElem hjs]
theorem open_overs {t e ti : TypeId} {f0 f1 f2 f3 : Field} {fuel : Nat} {v : Value} {y : DataW H × List MemPlace} (ht : P.underlying t = some (.slice e)) (he : P.underlying e = some (.struct #[f0, f1, f2, f3]))
    (hone : oneCellFields P #[f0, f1, f2, f3] = true) (hC : P.cellsOf e = 4) (u0 : P.underlying f0.type = some (.int .u8)) (u1 : P.underlying f1.type = some (.int .u16)) (u2 : P.underlying f2.type = some .string) (u3 : P.underlying f3.type = some (.slice ti)) (ui : P.underlying ti = some (.int .i64)) (ci : P.cellsOf ti = 1)
    (h : DataW.trod enc P w base spare held fuel t [v] = some y) :
    ∃ a cap L, v = .slice a (List.length L) cap ∧ OvsT w a L ∧ L.length ≤ maxLen ∧ ∀ x ∈ L, OvrOk x := by
  rcases open_slice ht h with ⟨hcs, _⟩ | ⟨a, len, cap, m, n, D, Pl, hcs, _, hl, hm, hmm, _, hx⟩
  · simp at hcs
    exact ⟨none, 0, [], hcs, fun j hj => by simp at hj, by simp, by simp⟩
  · simp at hcs
    have hlm : len ≤ m := by rw [hmm]; split <;> omega
    rw [hC] at hx
    have hall : ∀ i, i < len → ∃ x : Ovr, (w.cell? (a.add (i * 4)) = some (.int .u8 (x.f : Int)) ∧ w.cell? ((a.add (i * 4)).add 1) = some (.int .u16 (x.m : Int)) ∧ w.cell? ((a.add (i * 4)).add 2) = some (.string x.S) ∧ w.cell? ((a.add (i * 4)).add 3) = some (.slice x.a x.N.length x.cap)) ∧ OvrOk x ∧ Ints w x.a x.N := by
      intro i hi
      obtain ⟨cs', h1, h2⟩ := hx i (by omega)
      obtain ⟨_, hlen, hat⟩ := World.cells?_some h1
      obtain ⟨xs, k, _, _, _, hxl, hf⟩ := DataW.trod_struct he h2
      obtain ⟨o0, k0⟩ := hone_of hone 0 f0 rfl
      obtain ⟨o1, k1⟩ := hone_of hone 1 f1 rfl
      obtain ⟨o2, k2⟩ := hone_of hone 2 f2 rfl
      obtain ⟨o3, k3⟩ := hone_of hone 3 f3 rfl
      match cs', hlen, xs, hxl with
      | [c0, c1, c2, c3], _, [y0, y1, y2, y3], _ =>
        have g0 : DataW.trod enc P w base spare held k f0.type [c0] = some y0 := by simpa [o0, k0] using hf 0 f0 rfl
        have g1 : DataW.trod enc P w base spare held k f1.type [c1] = some y1 := by simpa [o1, k1] using hf 1 f1 rfl
        have g2 : DataW.trod enc P w base spare held k f2.type [c2] = some y2 := by simpa [o2, k2] using hf 2 f2 rfl
        have g3 : DataW.trod enc P w base spare held k f3.type [c3] = some y3 := by simpa [o3, k3] using hf 3 f3 rfl
        obtain ⟨x0, e0, _, wx0⟩ := DataW.trod_int u0 g0
        obtain ⟨x1, e1, _, wx1⟩ := DataW.trod_int u1 g1
        obtain ⟨x2, e2, _, bx2⟩ := DataW.trod_string u2 g2
        obtain ⟨ia, ic, iN, e3, iI, iL, iB⟩ := open_intsT u3 ui ci g3
        simp at e0 e1 e2
        subst e0 e1 e2 e3
        have a0 := hat 0 (by omega)
        have a1 := hat 1 (by omega)
        have a2 := hat 2 (by omega)
        have a3 := hat 3 (by omega)
        have hml : maxLen = 9223372036854775807 := rfl
        have b0 := bounds_u8 wx0
        have b1 := bounds_u16 wx1
        obtain ⟨n0, rfl⟩ : ∃ n0 : Nat, x0 = n0 := ⟨x0.toNat, by omega⟩
        obtain ⟨n1, rfl⟩ : ∃ n1 : Nat, x1 = n1 := ⟨x1.toNat, by omega⟩
        refine ⟨⟨n0, n1, x2, ia, ic, iN⟩, ⟨?_, ?_, ?_, ?_⟩, ⟨by show n0 ≤ 255; omega, by show n1 ≤ 65535; omega, by show x2.size ≤ _; omega, iL, iB⟩, iI⟩
        · simpa [Addr.add] using a0
        · simpa using a1
        · simpa using a2
        · simpa using a3
    obtain ⟨V, hV⟩ := choose_lt (α := Ovr) (p := fun i x => (w.cell? (a.add (i * 4)) = some (.int .u8 (x.f : Int)) ∧ w.cell? ((a.add (i * 4)).add 1) = some (.int .u16 (x.m : Int)) ∧ w.cell? ((a.add (i * 4)).add 2) = some (.string x.S) ∧ w.cell? ((a.add (i * 4)).add 3) = some (.slice x.a x.N.length x.cap)) ∧ OvrOk x ∧ Ints w x.a x.N) hall
    refine ⟨some a, cap, (List.range len).map V, by simpa using hcs, ?_, by simp; omega, ?_⟩
    · intro j hj
      have hj' : j < len := by simpa using hj
      obtain ⟨⟨c0, c1, c2, c3⟩, _, hi4⟩ := hV j hj'
      have c00 := (hV 0 (by omega)).1.1
      obtain ⟨ab, ao, spot⟩ := a
      have hspot : spot = none := by simpa [Addr.add] using World.cell?_spot c00
      subst hspot
      rw [Go.WideShapes.add_plain] at c0 c1 c2 c3
      rw [Go.WideShapes.add_plain] at c1 c2 c3
      refine ⟨ab, ao, rfl, ⟨World.block_lt_of_cell? w ⟨ab, ao + j * 4, none⟩ c0, ?_, ?_, ?_, ?_⟩, ?_⟩
      · rw [c0]; simp
      · rw [c1]; simp
      · rw [c2]; simp
      · rw [c3]; simp
      · simpa using hi4
    · intro x hx
      obtain ⟨i, hi, rfl⟩ := List.mem_map.1 hx
      exact (hV i (List.mem_range.1 hi)).2.1
end
end Go.Proofs.YtbmlnodimcalgaaDoor.Shf
