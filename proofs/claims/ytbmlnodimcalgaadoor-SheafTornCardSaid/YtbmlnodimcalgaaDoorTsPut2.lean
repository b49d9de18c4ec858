/- The contracts of package tally's putters: Num, Int, Long, Text. -/
import Derived.Test.YtbmlnodimcalgaaDoorTsPut
import Derived.Laws.IdiomStrings
import Derived.Lib.BufferRead
namespace Go.Proofs.YtbmlnodimcalgaaDoor.Tal
open Go.RowKit

theorem und_bytes : Tryd.prog.underlying 39 = some (.slice 5) := by kernel_rfl
theorem und_u8 : Tryd.prog.underlying 5 = some (.int .u8) := by kernel_rfl
theorem und_str : Tryd.prog.underlying 9 = some .string := by kernel_rfl
/-- 'string(b)' of an owned row. -/
theorem own_str {w : World} {base : Nat} {v : Value} {l : List UInt8} (h : w.ownsRow base 5 1 v l.length (l.map bv)) :
    (convert 39 9 v).run Tryd.prog w = .ok (.string ⟨l.toArray⟩) w := by
  rcases h.2 with ⟨rfl, h0⟩ | ⟨g, cap, cur, rfl, hg, hrest⟩
  · have hl : l = [] := by
      have := h.1
      simp at h0
      exact h0
    subst hl
    exact Lib.run_convert_nil_bytes w _ _ _ 0 und_bytes und_u8 und_str
  · refine run_convert_bytes_back w _ _ _ ⟨g, 0, none⟩ cap l und_bytes und_u8 und_str ?_
    intro j hj
    exact h.cells rfl j (.int .u8 l[j].toNat) (by simp [bv, hj])

/-- What a putter answers. -/
def PutRes (l : List UInt8) (w : World) (e : Ending) (w' : World) : Prop := e = .returned (.string ⟨l.toArray⟩) ∧ Below w.heap.size w w'

theorem xor_hi (a : Nat) (ha : a < 18446744073709551616) : bits .xor .u64 (a : Int) 18446744073709551615 = 18446744073709551615 - (a : Int) := by
  have h := u64_xor_nat a 18446744073709551615 ha (by omega)
  rw [show ((18446744073709551615 : Nat) : Int) = 18446744073709551615 from rfl] at h
  rw [h, Nat.xor_comm, show (18446744073709551615 : Nat) = 2 ^ 64 - 1 from rfl, Lib.xor_ones64 a (by omega)]
  omega
theorem xor_lo (a : Nat) (ha : a < 18446744073709551616) : bits .xor .u64 (a : Int) 0 = (a : Int) := by
  have h := u64_xor_nat a 0 ha (by omega)
  rw [show ((0 : Nat) : Int) = 0 from rfl] at h
  rw [h, Nat.xor_zero]
/-- The number of an integer. -/
def zig (n : Int) : Nat := if n < 0 then (-n - 1).toNat * 2 + 1 else n.toNat * 2
theorem zig_lt (n : Int) (h0 : -9223372036854775808 ≤ n) (h1 : n ≤ 9223372036854775807) : zig n < 18446744073709551616 := by
  unfold zig; split <;> omega
theorem unz_zig (n : Int) : unz (zig n) = n := by
  unfold unz zig
  split <;> split <;> omega
theorem zig_unz (m : Nat) : zig (unz m) = m := by
  unfold unz zig
  split <;> split <;> omega
theorem unz_range (m : Nat) (h : m < 18446744073709551616) : -9223372036854775808 ≤ unz m ∧ unz m ≤ 9223372036854775807 := by
  unfold unz
  split <;> omega

end Go.Proofs.YtbmlnodimcalgaaDoor.Tal
