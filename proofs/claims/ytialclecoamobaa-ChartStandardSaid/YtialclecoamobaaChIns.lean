/- Package chart: a code put in among the others: the list in memory. -/
import Derived.Test.YtialclecoamobaaChSet
import Derived.Deep.LoopGhost
namespace Go.Proofs.Ytialclecoamobaa.Ch
open Go Go.RowKit Ck Go.Maps
abbrev TInts : TypeId := 41
theorem und_ints : Try.prog.underlying TInts = some (.slice (Try.prog.elem TInts)) := by kernel_rfl
theorem sz_int (w : World) : (Go.sizeOf (Try.prog.elem TInts)).run Try.prog w = .ok 1 w := by kernel_rfl
theorem slice_ints (g n cap e : Nat) (he : e ≤ n) (_hc : n ≤ cap) (u : World) :
    (Instr.sliceAt TInts (.slice (some ⟨g, 0, none⟩) n cap) (some (.int .i64 (e : Int))) none none).run Try.prog u = .ok (.slice (if cap = e then some ⟨g, 0, none⟩ else some ⟨g, e, none⟩) (n - e) (cap - e)) u := by
  rw [run_sliceAt_slice _ _ _ _ _ _ und_ints, run_slice_l _ _ _ _ _ und_ints .i64 (e : Int) (by omega) (by omega)]
  rw [sz_int]
  rcases Nat.eq_zero_or_pos e with rfl | h0
  · simp [Result.andThen, sliced, Addr.add]
  · simp [Result.andThen, sliced, Addr.add, show e ≠ 0 by omega]
/-- What is in the block then. -/
theorem ins_take {L : List Value} {K : List Int} {k : Int} {a : Nat} (ha : a ≤ K.length) (hL : K.length + 1 ≤ L.length) (ht : L.take (K.length + 1) = (K ++ [k]).map iv) :
    ((splice L (a + 1) ((K.drop a).map iv)).set a (iv k)).take (K.length + 1) = (ins K a k).map iv := by
  have hl : (splice L (a + 1) ((K.drop a).map iv)).length = L.length := length_splice _ _ _ (by simp; omega)
  have hcs : ((K.drop a).map iv).length = K.length - a := by simp
  apply List.ext_getElem?
  intro i
  by_cases hi : i < K.length + 1
  · rw [List.getElem?_take_of_lt hi]
    have hLi : L[i]? = ((K ++ [k]).map iv)[i]? := by rw [← ht, List.getElem?_take_of_lt hi]
    unfold ins
    rw [List.getElem?_map]
    by_cases h1 : i < a
    · rw [List.getElem?_set_ne (by omega), List.getElem?_append_left (by simp; omega), List.getElem?_take_of_lt h1]
      unfold splice
      rw [List.getElem?_append_left (by simp; omega), List.getElem?_take_of_lt (by omega), hLi, List.getElem?_map, List.getElem?_append_left (by omega)]
    · by_cases h2 : i = a
      · subst h2
        have e0 : i - (K.take i).length = 0 := by simp; omega
        rw [List.getElem?_set_self (by omega), List.getElem?_append_right (by simp; omega), e0]
        rfl
      · obtain ⟨j, rfl⟩ : ∃ j, i = a + 1 + j := ⟨i - a - 1, by omega⟩
        rw [List.getElem?_set_ne (by omega), List.getElem?_append_right (by simp; omega)]
        unfold splice
        rw [List.getElem?_append_right (by simp; omega), List.getElem?_append_left (by simp; omega)]
        have e1 : a + 1 + j - (L.take (a + 1)).length = j := by simp; omega
        have e2 : a + 1 + j - (K.take a).length = j + 1 := by simp; omega
        rw [e1, e2, List.getElem?_map, List.getElem?_cons_succ]
  · rw [List.getElem?_eq_none (by simp; omega), List.getElem?_eq_none (by rw [List.length_map, ins_len]; omega)]
theorem splice_nil {α : Type} (L : List α) (n : Nat) : splice L n ([] : List α) = L := by
  unfold splice
  simp
end Go.Proofs.Ytialclecoamobaa.Ch
