/- Bytes and strings, at the seat of order. -/
import Derived.Test.YtialjglgkfcdmaaOrKinds
import Derived.Test.YtialjglgkfcdmaaCmRow
import Derived.Laws.IdiomStrings
import Derived.Lib.BufferRead
import Derived.Lib.AppendStr
import Derived.Below
namespace Go.Proofs.Ytialjglgkfcdmaa.Or
open Go.RowKit Cm
def bv (c : UInt8) : Value := .int .u8 c.toNat
theorem und_bytes : Try.prog.underlying 78 = some (.slice 5) := by kernel_rfl
theorem und_u8 : Try.prog.underlying 5 = some (.int .u8) := by kernel_rfl
theorem und_str : Try.prog.underlying 9 = some .string := by kernel_rfl
theorem bytes_conv (w : World) (s : ByteArray) : ∃ cap w1, (convert 9 78 (.string s)).run Try.prog w = .ok (.slice (some ⟨w.heap.size, 0, none⟩) s.size cap) w1 ∧ RowAt w1 w.heap.size (s.data.toList.map bv) ∧ Below w.heap.size w w1 := by
  have hsz : s.data.toList.length = s.size := by simp
  refine ⟨_, _, run_bytes_of_string w _ _ _ s und_str und_bytes und_u8, ⟨by simp, fun j hj => ?_, fun j hj => ?_⟩, (Below.refl _ w).drew.alloc (Nat.le_refl _) _⟩
  · have hj' : j < s.data.size := by simpa using hj
    have h := World.cell?_alloc_mark w.drew (bytesRow s (grownCap w s.size 0 5)) 5 ((bytesRow s (grownCap w s.size 0 5)).size, (bytesRow s (grownCap w s.size 0 5)).size + 1) j
    rw [bytesRow_at s _ j hj'] at h
    refine Eq.trans h ?_
    simp [bv]
  · have hj' : j < s.data.size := by simpa using hj
    have h := World.frozen?_alloc_mark w.drew (bytesRow s (grownCap w s.size 0 5)) 5 (bytesRow s (grownCap w s.size 0 5)).size ((bytesRow s (grownCap w s.size 0 5)).size + 1) j
    refine Eq.trans h ?_
    have : s.data.size ≤ (bytesRow s (grownCap w s.size 0 5)).size := by unfold bytesRow; simp
    rw [decide_eq_false (by omega)]; rfl
/-- 'string(b)' of a row of bytes. -/
theorem row_str {w : World} {g cap : Nat} {l : List UInt8} (h : RowAt w g (l.map bv)) :
    (convert 78 9 (.slice (some ⟨g, 0, none⟩) l.length cap)).run Try.prog w = .ok (.string ⟨l.toArray⟩) w := by
  refine run_convert_bytes_back w _ _ _ ⟨g, 0, none⟩ cap l und_bytes und_u8 und_str ?_
  intro j hj
  have := h.cell j (by simpa using hj)
  rw [Go.WideShapes.add_plain, Nat.zero_add, this]
  simp [bv]
theorem one_str (w : World) (n : Nat) (h : n < 256) : (convert 78 9 (.slice (some ⟨w.heap.size, 0, none⟩) 1 1)).run Try.prog (w.alloc (.cells #[.int .u8 n] 5)) = .ok (.string ⟨#[UInt8.ofNat n]⟩) (w.alloc (.cells #[.int .u8 n] 5)) := by
  have e : (.int .u8 n : Value) = bv (UInt8.ofNat n) := by unfold bv; simp; omega
  have h2 := row_new w [bv (UInt8.ofNat n)] 5
  rw [e]
  exact row_str (l := [UInt8.ofNat n]) h2
theorem cat_mk2 (x y : List UInt8) : (⟨x.toArray⟩ : ByteArray) ++ (⟨y.toArray⟩ : ByteArray) = ⟨(x ++ y).toArray⟩ := by
  apply ByteArray.ext
  apply Array.ext'
  simp
theorem ext_take (s : ByteArray) (k : Nat) : s.extract 0 k = ⟨(s.data.toList.take k).toArray⟩ := by
  apply ByteArray.ext
  apply Array.ext'
  simp
theorem below_cell {w w' : World} (h : Below w.heap.size w w') : w.heap.size ≤ w'.heap.size := h.size
end Go.Proofs.Ytialjglgkfcdmaa.Or
