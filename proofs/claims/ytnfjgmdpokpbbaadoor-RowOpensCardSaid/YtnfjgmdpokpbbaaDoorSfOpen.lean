/- A slice of strings that came in, with its capacity. -/
import Derived.Test.YtnfjgmdpokpbbaaDoorRgB
import Derived.SliceStrings
import Derived.OpenShut
import Derived.ChangeOld
namespace Go.Proofs.YtnfjgmdpokpbbaaDoor.Shf
open Go.RowKit Go.WideShapes Go.ChangeShapes Tal
section
variable {H : Type} {P : Program} {w : World} {base : Nat} {spare : Nat → Bool} {held : Bool} {enc : TypeId × Value → H}
def StrsC (w : World) (cap : Nat) (a : Option Addr) (L : List ByteArray) : Prop := Strs w a L ∧ L.length ≤ cap
def FitS (s : ByteArray) : Prop := s.size ≤ maxLen
def StrsD (w : World) (cap : Nat) (a : Option Addr) (L : List ByteArray) : Prop := Strs w a L ∧ L.length ≤ cap ∧ (a = none → cap = 0)
theorem open_strsC {t e : TypeId} {n : Nat} {v : Value} {y : DataW H × List MemPlace} (ht : P.underlying t = some (.slice e)) (he : P.underlying e = some .string) (hc : P.cellsOf e = 1) (h : DataW.trod enc P w base spare held n t [v] = some y) :
    ∃ a cap L, v = .slice a (List.length L) cap ∧ StrsC w cap a L ∧ L.length ≤ maxLen ∧ ∀ s ∈ L, FitS s := by
  rcases open_strings ht he hc h with ⟨hcs, _⟩ | ⟨a, len, cap, ss, hcs, _, hl, hm, hlen, _, hcell, hz⟩
  · simp at hcs
    exact ⟨none, 0, [], hcs, ⟨fun j hj => by simp at hj, by simp⟩, by simp, by simp⟩
  · simp at hcs
    have hge : len ≤ ss.length := by rw [hlen]; split <;> omega
    have hlt : (ss.take len).length = len := by simp; omega
    refine ⟨some a, cap, ss.take len, by rw [hlt]; exact hcs, ⟨?_, by omega⟩, by omega, fun s hs => hz s (List.mem_of_mem_take hs)⟩
    intro j hj
    have hj' : j < len := by omega
    obtain ⟨ab, ao, spot⟩ := a
    have hcj := hcell j (by omega)
    have hspot : spot = none := by simpa [Addr.add] using World.cell?_spot (hcell 0 (by omega))
    subst hspot
    rw [Go.WideShapes.add_plain] at hcj
    refine ⟨ab, ao, rfl, World.block_lt_of_cell? w ⟨ab, ao + j, none⟩ hcj, ?_⟩
    rw [hcj]
    have hjs : j < ss.length := by omega
    simp [List.getD, List.getElem?_eq_getElem hjs]
theorem open_strsD {t e : TypeId} {n : Nat} {v : Value} {y : DataW H × List MemPlace} (ht : P.underlying t = some (.slice e)) (he : P.underlying e = some .string) (hc : P.cellsOf e = 1) (h : DataW.trod enc P w base spare held n t [v] = some y) :
    ∃ a cap L, v = .slice a (List.length L) cap ∧ StrsD w cap a L ∧ L.length ≤ maxLen ∧ ∀ s ∈ L, FitS s := by
  rcases open_strings ht he hc h with ⟨hcs, _⟩ | ⟨a, len, cap, ss, hcs, _, hl, hm, hlen, _, hcell, hz⟩
  · simp at hcs
    exact ⟨none, 0, [], hcs, ⟨fun j hj => by simp at hj, by simp, fun _ => rfl⟩, by simp, by simp⟩
  · simp at hcs
    have hge : len ≤ ss.length := by rw [hlen]; split <;> omega
    have hlt : (ss.take len).length = len := by simp; omega
    refine ⟨some a, cap, ss.take len, by rw [hlt]; exact hcs, ⟨?_, by omega, fun h => by cases h⟩, by omega, fun s hs => hz s (List.mem_of_mem_take hs)⟩
    intro j hj
    have hj' : j < len := by omega
    obtain ⟨ab, ao, spot⟩ := a
    have hcj := hcell j (by omega)
    have hspot : spot = none := by simpa [Addr.add] using World.cell?_spot (hcell 0 (by omega))
    subst hspot
    rw [Go.WideShapes.add_plain] at hcj
    refine ⟨ab, ao, rfl, World.block_lt_of_cell? w ⟨ab, ao + j, none⟩ hcj, ?_⟩
    rw [hcj]
    have hjs : j < ss.length := by omega
    simp [List.getD, List.getElem?_eq_getElem hjs]
end
end Go.Proofs.YtnfjgmdpokpbbaaDoor.Shf
