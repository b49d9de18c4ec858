/- Joined: SfOpen WlOpenA. -/
import Derived.Test.YtjlncjabiofklaaDoorRgB
import Derived.SliceStrings
import Derived.OpenShut
import Derived.ChangeOld
import Derived.Test.YtjlncjabiofklaaDoorWjG
import Derived.Lib.SmallJoins
import Derived.Deep.Slices
import Derived.Deep.Fields
import Derived.ChangeSame
section
namespace Go.Proofs.YtjlncjabiofklaaDoor.Shf
open Go.RowKit Go.WideShapes Go.ChangeShapes Tal
section
variable {H : Type} {P : Program} {w : World} {base : Nat} {spare : Nat → Bool} {held : Bool} {enc : TypeId × Value → H}
def StrsC (w : World) (cap : Nat) (a : Option Addr) (L : List ByteArray) : Prop := Strs w a L ∧ L.length ≤ cap
def FitS (s : ByteArray) : Prop := s.size ≤ maxLen
def StrsD (w : World) (cap : Nat) (a : Option Addr) (L : List ByteArray) : Prop := Strs w a L ∧ L.length ≤ cap ∧ (a = none → cap = 0)
theorem open_strsC {t e : TypeId} {n : Nat} {v : Value} {y : DataW H × List MemPlace} (ht : P.underlying t = some (.slice e)) (he : P.underlying e = some .string) (hc : P.cellsOf e = 1) (h : DataW.trod enc P w base spare held n t [v] = some y) :
    ∃ a cap L, v = .slice a (List.length L) cap ∧ StrsC w cap a L ∧ L.length ≤ maxLen ∧ ∀ s ∈ L, FitS s := by
  rcases open_strings ht he hc h with ⟨hcs, _⟩ | ⟨a, len, cap, ss, hcs, _, hl, hm, hlen, _, hcell, hz⟩
  · simp at hcs
    exact ⟨none, 0, [], hcs, ⟨fun j hj => by simp at hj, by simp⟩, by simp, by simp⟩
  · simp at hcs
    have hge : len ≤ ss.length := by rw [hlen]; split <;> omega
    have hlt : (ss.take len).length = len := by simp; omega
    refine ⟨some a, cap, ss.take len, by rw [hlt]; exact hcs, ⟨?_, by omega⟩, by omega, fun s hs => hz s (List.mem_of_mem_take hs)⟩
    intro j hj
    have hj' : j < len := by omega
    obtain ⟨ab, ao, spot⟩ := a
    have hcj := hcell j (by omega)
    have hspot : spot = none := by simpa [Addr.add] using World.cell?_spot (hcell 0 (by omega))
    subst hspot
    rw [Go.WideShapes.add_plain] at hcj
    refine ⟨ab, ao, rfl, World.block_lt_of_cell? w ⟨ab, ao + j, none⟩ hcj, ?_⟩
    rw [hcj]
    have hjs : j < ss.length := by omega
    simp [List.getD, List.getElem?_eq_getElem hjs]
theorem open_strsD {t e : TypeId} {n : Nat} {v : Value} {y : DataW H × List MemPlace} (ht : P.underlying t = some (.slice e)) (he : P.underlying e = some .string) (hc : P.cellsOf e = 1) (h : DataW.trod enc P w base spare held n t [v] = some y) :
    ∃ a cap L, v = .slice a (List.length L) cap ∧ StrsD w cap a L ∧ L.length ≤ maxLen ∧ ∀ s ∈ L, FitS s := by
  rcases open_strings ht he hc h with ⟨hcs, _⟩ | ⟨a, len, cap, ss, hcs, _, hl, hm, hlen, _, hcell, hz⟩
  · simp at hcs
    exact ⟨none, 0, [], hcs, ⟨fun j hj => by simp at hj, by simp, fun _ => rfl⟩, by simp, by simp⟩
  · simp at hcs
    have hge : len ≤ ss.length := by rw [hlen]; split <;> omega
    have hlt : (ss.take len).length = len := by simp; omega
    refine ⟨some a, cap, ss.take len, by rw [hlt]; exact hcs, ⟨?_, by omega, fun h => by cases h⟩, by omega, fun s hs => hz s (List.mem_of_mem_take hs)⟩
    intro j hj
    have hj' : j < len := by omega
    obtain ⟨ab, ao, spot⟩ := a
    have hcj := hcell j (by omega)
    have hspot : spot = none := by simpa [Addr.add] using World.cell?_spot (hcell 0 (by omega))
    subst hspot
    rw [Go.WideShapes.add_plain] at hcj
    refine ⟨ab, ao, rfl, World.block_lt_of_cell? w ⟨ab, ao + j, none⟩ hcj, ?_⟩
    rw [hcj]
    have hjs : j < ss.length := by omega
    simp [List.getD, List.getElem?_eq_getElem hjs]
end
end Go.Proofs.YtjlncjabiofklaaDoor.Shf
end
section
namespace Go.Proofs.YtjlncjabiofklaaDoor.Wl
open Go Go.RowKit
open Go.ChangeShapes Go.WideShapes Go.ChangeAt Go.Joins Go.WideMaps Go.WideElems Go.Deep
open Tal (Strs bas)
instance : Inhabited Ac := ⟨⟨0, [], 0, ⟨0, 0, 0⟩⟩⟩
theorem bas_lists (L : List ByteArray) : bas (Shf.lists L) = L := by
  unfold bas Shf.lists
  rw [List.map_map]
  have : ∀ x ∈ L, ((fun x : List UInt8 => (⟨x.toArray⟩ : ByteArray)) ∘ fun s : ByteArray => s.data.toList) x = id x := fun x _ => by
    show (⟨x.data.toList.toArray⟩ : ByteArray) = x
    simp
  rw [List.map_congr_left this, List.map_id]
section
variable {H : Type} {enc : TypeId × Value → H} {P : Program} {w : World} {base : Nat} {held : Bool}
theorem trod_struct4' {t : TypeId} {f0 f1 f2 f3 : Field} {fuel : Nat} {cs : List Value} {x : DataW H × List MemPlace} (ht : P.underlying t = some (.struct #[f0, f1, f2, f3])) (h : DataW.trod enc P w base (fun _ => true) held fuel t cs = some x) :
    ∃ y0 y1 y2 y3 m, DataW.trod enc P w base (fun _ => true) held m f0.type ((cs.drop f0.offset).take (P.cellsOf f0.type)) = some y0 ∧ DataW.trod enc P w base (fun _ => true) held m f1.type ((cs.drop f1.offset).take (P.cellsOf f1.type)) = some y1 ∧ DataW.trod enc P w base (fun _ => true) held m f2.type ((cs.drop f2.offset).take (P.cellsOf f2.type)) = some y2 ∧ DataW.trod enc P w base (fun _ => true) held m f3.type ((cs.drop f3.offset).take (P.cellsOf f3.type)) = some y3 := by
  obtain ⟨xs, m, _, _, _, hlen, hf⟩ := DataW.trod_struct ht h
  match xs, hlen with
  | [y0, y1, y2, y3], _ => exact ⟨y0, y1, y2, y3, m, by simpa using hf 0 f0 rfl, by simpa using hf 1 f1 rfl, by simpa using hf 2 f2 rfl, by simpa using hf 3 f3 rfl⟩
theorem trod_struct3' {t : TypeId} {f0 f1 f2 : Field} {fuel : Nat} {cs : List Value} {x : DataW H × List MemPlace} (ht : P.underlying t = some (.struct #[f0, f1, f2])) (h : DataW.trod enc P w base (fun _ => true) held fuel t cs = some x) :
    ∃ y0 y1 y2 m, DataW.trod enc P w base (fun _ => true) held m f0.type ((cs.drop f0.offset).take (P.cellsOf f0.type)) = some y0 ∧ DataW.trod enc P w base (fun _ => true) held m f1.type ((cs.drop f1.offset).take (P.cellsOf f1.type)) = some y1 ∧ DataW.trod enc P w base (fun _ => true) held m f2.type ((cs.drop f2.offset).take (P.cellsOf f2.type)) = some y2 := by
  obtain ⟨xs, m, _, _, _, hlen, hf⟩ := DataW.trod_struct ht h
  match xs, hlen with
  | [y0, y1, y2], _ => exact ⟨y0, y1, y2, m, by simpa using hf 0 f0 rfl, by simpa using hf 1 f1 rfl, by simpa using hf 2 f2 rfl⟩
theorem open_acts {t e : TypeId} {f0 f1 f2 f3 g0 g1 g2 : Field} {te : TypeId} {fuel : Nat} {v : Value} {y : DataW H × List MemPlace} (ht : P.underlying t = some (.slice e)) (he : P.underlying e = some (.struct #[f0, f1, f2, f3])) (hs3 : P.underlying f3.type = some (.struct #[g0, g1, g2])) (hC : P.cellsOf e = 6)
    (o0 : f0.offset = 0) (k0 : P.cellsOf f0.type = 1) (o1 : f1.offset = 1) (k1 : P.cellsOf f1.type = 1) (o2 : f2.offset = 2) (k2 : P.cellsOf f2.type = 1) (o3 : f3.offset = 3) (k3 : P.cellsOf f3.type = 3)
    (p0 : g0.offset = 0) (q0 : P.cellsOf g0.type = 1) (p1 : g1.offset = 1) (q1 : P.cellsOf g1.type = 1) (p2 : g2.offset = 2) (q2 : P.cellsOf g2.type = 1)
    (u0 : P.underlying f0.type = some (.int .u8)) (u1 : P.underlying f1.type = some (.slice te)) (ue : P.underlying te = some .string) (uc : P.cellsOf te = 1) (u2 : P.underlying f2.type = some (.int .u8)) (v0 : P.underlying g0.type = some (.int .u64)) (v1 : P.underlying g1.type = some (.int .i64)) (v2 : P.underlying g2.type = some (.int .i64))
    (h : DataW.trod enc P w base (fun _ => true) held fuel t [v] = some y) :
    ∃ a cap L, v = .slice a (List.length L) cap ∧ Acs w a L ∧ L.length ≤ maxLen ∧ ∀ x ∈ L, Ac.Fits x := by
  rcases open_slice ht h with ⟨hcs, _⟩ | ⟨a, len, cap, m, n, D, Pl, hcs, _, hl, hm, hmm, _, hx⟩
  · simp at hcs
    exact ⟨none, 0, [], hcs, fun j hj => by simp at hj, by simp, by simp⟩
  · simp at hcs
    have hlm : len ≤ m := by rw [hmm]; split <;> omega
    rw [hC] at hx
    have hall : ∀ i, i < len → ∃ x : Ac, (∃ s cp, (∀ k u, ([.int .u8 x.what, .slice s x.l.length cp, .int .u8 x.fuse, .int .u64 (x.c.keep : Int), .int .i64 x.c.torn, .int .i64 x.c.at'] : List Value)[k]? = some u → w.cell? ((a.add (i * 6)).add k) = some u) ∧ Strs w s (bas x.l)) ∧ x.Fits := by
      intro i hi
      obtain ⟨cs', h1, h2⟩ := hx i (by omega)
      obtain ⟨_, hlen, hat⟩ := World.cells?_some h1
      obtain ⟨z0, z1, z2, z3, k, a0, a1, a2, a3⟩ := trod_struct4' he h2
      match cs', hlen with
      | [c0, c1, c2, c3, c4, c5], _ =>
        simp only [o0, k0, o1, k1, o2, k2, o3, k3] at a0 a1 a2 a3
        obtain ⟨y0, y1, y2, k2, b0, b1, b2⟩ := trod_struct3' hs3 a3
        simp [p0, q0, p1, q1, p2, q2] at b0 b1 b2
        simp at a0 a1 a2
        obtain ⟨x0, e0, _, wx0⟩ := DataW.trod_int u0 a0
        obtain ⟨s1, cp1, L1, e1, hst1, hl1, hf1⟩ := Shf.open_strsC u1 ue uc a1
        obtain ⟨x3, e3, _, wx3⟩ := DataW.trod_int u2 a2
        obtain ⟨x4, e4, _, wx4⟩ := DataW.trod_int v0 b0
        obtain ⟨x5, e5, _, wx5⟩ := DataW.trod_int v1 b1
        obtain ⟨x6, e6, _, wx6⟩ := DataW.trod_int v2 b2
        simp at e0 e3 e4 e5 e6
        subst e0 e1 e3 e4 e5 e6
        have b3 := bounds_u64 wx4
        obtain ⟨kk, rfl⟩ := Int.eq_ofNat_of_zero_le b3.1
        have hml : maxLen = 9223372036854775807 := rfl
        refine ⟨⟨x0, Shf.lists L1, x3, ⟨kk, x5, x6⟩⟩, ⟨s1, cp1, fun j u hu => ?_, ?_⟩, ⟨bounds_u8 wx0, ⟨?_, fun p hp => ?_⟩, bounds_u8 wx3, ⟨by show kk ≤ _; omega, bounds_i64 wx5, bounds_i64 wx6⟩⟩⟩
        · have hj : j < 6 := (List.getElem?_eq_some_iff.1 hu).1
          rw [hat j (by simpa using hj), ← hu, Shf.lists_len]
        · show Strs w s1 (bas (Shf.lists L1))
          rw [bas_lists]
          exact hst1.1
        · show (Shf.lists L1).length ≤ _
          rw [Shf.lists_len]; omega
        · obtain ⟨q, hq, rfl⟩ := List.mem_map.1 (show p ∈ L1.map _ from hp)
          have := hf1 q hq
          unfold Shf.FitS at this
          show q.data.toList.length ≤ _
          simp; omega
    obtain ⟨V, hV⟩ := choose_lt (α := Ac) (p := fun i x => (∃ s cp, (∀ k u, ([.int .u8 x.what, .slice s x.l.length cp, .int .u8 x.fuse, .int .u64 (x.c.keep : Int), .int .i64 x.c.torn, .int .i64 x.c.at'] : List Value)[k]? = some u → w.cell? ((a.add (i * 6)).add k) = some u) ∧ Strs w s (bas x.l)) ∧ x.Fits) hall
    refine ⟨some a, cap, (List.range len).map V, by simpa using hcs, ?_, by simp; omega, ?_⟩
    · intro j hj
      have hj' : j < len := by simpa using hj
      obtain ⟨s0, cp0, h00, _⟩ := (hV 0 (by omega)).1
      have c00 : w.cell? ((a.add (0 * 6)).add 0) = some (.int .u8 (V 0).what) := h00 0 _ rfl
      obtain ⟨ab, ao, spot⟩ := a
      have hspot : spot = none := by simpa [Addr.add] using World.cell?_spot c00
      subst hspot
      obtain ⟨s, cp, hc, hst⟩ := (hV j hj').1
      have hk : ∀ k u, ([.int .u8 (V j).what, .slice s (V j).l.length cp, .int .u8 (V j).fuse, .int .u64 ((V j).c.keep : Int), .int .i64 (V j).c.torn, .int .i64 (V j).c.at'] : List Value)[k]? = some u → w.cell? ⟨ab, ao + j * 6 + k, none⟩ = some u := fun k u hu => by
        have := hc k u hu
        rwa [Go.WideShapes.add_plain, Go.WideShapes.add_plain] at this
      have hgj : ((List.range len).map V)[j] = V j := by simp
      have h0 := hk 0 _ rfl
      refine ⟨ab, ao, rfl, World.block_lt_of_cell? w ⟨ab, ao + j * 6 + 0, none⟩ h0, s, cp, ?_⟩
      rw [hgj]
      exact ⟨h0, hk 1 _ rfl, hst, hk 2 _ rfl, hk 3 _ rfl, hk 4 _ rfl, hk 5 _ rfl⟩
    · intro x hx
      obtain ⟨i, hi, rfl⟩ := List.mem_map.1 hx
      exact (hV i (List.mem_range.1 hi)).2
end
end Go.Proofs.YtjlncjabiofklaaDoor.Wl
end
