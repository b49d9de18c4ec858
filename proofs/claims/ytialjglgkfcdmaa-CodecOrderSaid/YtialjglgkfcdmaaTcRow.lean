/- The contract of package tally's Row. -/
import Derived.Test.YtialjglgkfcdmaaTcPut3
namespace Go.Proofs.Ytialjglgkfcdmaa.Tal
open Go.RowKit

def txts : List ByteArray → List UInt8
  | [] => []
  | s :: L => txt s.data.toList ++ txts L
def row (L : List ByteArray) : List UInt8 := Ta.num L.length ++ txts L
def total (L : List ByteArray) : Nat := (L.map ByteArray.size).sum
theorem txts_append (L M : List ByteArray) : txts (L ++ M) = txts L ++ txts M := by
  induction L with
  | nil => rfl
  | cons s L ih => simp [txts, ih]
theorem txt_len (s : List UInt8) (h : s.length < 18446744073709551616) : (txt s).length ≤ 10 + s.length := by
  have := Ta.num_len s.length h
  unfold txt; simp; omega
theorem txts_len (L : List ByteArray) (h : ∀ s ∈ L, s.size < 18446744073709551616) : (txts L).length ≤ 10 * L.length + total L := by
  induction L with
  | nil => simp [txts]
  | cons s L ih =>
    have h1 := ih (fun x hx => h x (by simp [hx]))
    have h2 := txt_len s.data.toList (by have := h s (by simp); simpa using this)
    have h3 : s.data.toList.length = s.size := by simp
    simp [txts, total] at *
    omega
theorem total_take (L : List ByteArray) (k : Nat) : total (L.take k) ≤ total L := by
  have h : total L = total (L.take k) + total (L.drop k) := by
    unfold total
    rw [← List.sum_append, ← List.map_append, List.take_append_drop]
  omega
theorem total_mem (L : List ByteArray) (s : ByteArray) (h : s ∈ L) : s.size ≤ total L := by
  induction L with
  | nil => simp at h
  | cons t L ih =>
    rcases List.mem_cons.1 h with rfl | h
    · simp [total]
    · have := ih h; simp [total] at *; omega
theorem txts_take (L : List ByteArray) (k : Nat) (h : k < L.length) : txts (L.take (k + 1)) = txts (L.take k) ++ txt L[k].data.toList := by
  rw [List.take_succ_eq_append_getElem h, txts_append]
  simp [txts]


/-- A slice of strings: its cells. -/
def Strs (w : World) (a : Option Addr) (L : List ByteArray) : Prop :=
  ∀ j (h : j < L.length), ∃ b off, a = some ⟨b, off, none⟩ ∧ b < w.heap.size ∧ w.cell? ⟨b, off + j, none⟩ = some (.string L[j])
theorem Strs.later {w w' : World} {a : Option Addr} {L : List ByteArray} (h : Strs w a L) (hb : Below w.heap.size w w') : Strs w' a L := by
  intro j hj
  obtain ⟨b, off, ha, hlt, hc⟩ := h j hj
  exact ⟨b, off, ha, Nat.lt_of_lt_of_le hlt hb.size, by rw [hb.cell (by simpa using hlt)]; exact hc⟩
end Go.Proofs.Ytialjglgkfcdmaa.Tal
