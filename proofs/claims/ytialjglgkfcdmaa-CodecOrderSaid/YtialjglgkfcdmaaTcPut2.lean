/- The contracts of package tally's putters: Num, Int, Long, Text. -/
import Derived.Test.YtialjglgkfcdmaaTcPut
import Derived.Laws.IdiomStrings
import Derived.Lib.BufferRead
namespace Go.Proofs.Ytialjglgkfcdmaa.Tal
open Go.RowKit

theorem und_bytes : Try.prog.underlying 78 = some (.slice 5) := by kernel_rfl
theorem und_u8 : Try.prog.underlying 5 = some (.int .u8) := by kernel_rfl
theorem und_str : Try.prog.underlying 9 = some .string := by kernel_rfl
/-- 'string(b)' of an owned row. -/
theorem own_str {w : World} {base : Nat} {v : Value} {l : List UInt8} (h : w.ownsRow base 5 1 v l.length (l.map bv)) :
    (convert 78 9 v).run Try.prog w = .ok (.string ⟨l.toArray⟩) w := by
  rcases h.2 with ⟨rfl, h0⟩ | ⟨g, cap, cur, rfl, hg, hrest⟩
  · have hl : l = [] := by
      have := h.1
      simp at h0
      exact h0
    subst hl
    exact Lib.run_convert_nil_bytes w _ _ _ 0 und_bytes und_u8 und_str
  · refine run_convert_bytes_back w _ _ _ ⟨g, 0, none⟩ cap l und_bytes und_u8 und_str ?_
    intro j hj
    exact h.cells rfl j (.int .u8 l[j].toNat) (by simp [bv, hj])

/-- What a putter answers. -/
def PutRes (l : List UInt8) (w : World) (e : Ending) (w' : World) : Prop := e = .returned (.string ⟨l.toArray⟩) ∧ Below w.heap.size w w'

set_option maxRecDepth 100000 in
theorem num_c (n : Nat) (w : World) (hn : n < 18446744073709551616) :
    Calls Try.prog 33 #[.int .u64 n] w (PutRes (Ta.num n) w) := by
  have K := Lib.hid (addNum_c w.heap.size (.slice none 0 0) [] n w (Nat.le_refl _) (World.ownsRow_nil w _ _ _) hn (by simp))
  clear hn
  go_enter Try.func33, Try.ntmps33
  go_wp2_with fail
  refine K.out.mono ?_
  rintro e w1 ⟨v, rfl, hv, b1⟩
  have hc := own_str hv
  simp only [List.nil_append] at hc
  go_wp2_with fail
  go_ret
  exact ⟨rfl, b1⟩

theorem xor_hi (a : Nat) (ha : a < 18446744073709551616) : bits .xor .u64 (a : Int) 18446744073709551615 = 18446744073709551615 - (a : Int) := by
  have h := u64_xor_nat a 18446744073709551615 ha (by omega)
  rw [show ((18446744073709551615 : Nat) : Int) = 18446744073709551615 from rfl] at h
  rw [h, Nat.xor_comm, show (18446744073709551615 : Nat) = 2 ^ 64 - 1 from rfl, Lib.xor_ones64 a (by omega)]
  omega
theorem xor_lo (a : Nat) (ha : a < 18446744073709551616) : bits .xor .u64 (a : Int) 0 = (a : Int) := by
  have h := u64_xor_nat a 0 ha (by omega)
  rw [show ((0 : Nat) : Int) = 0 from rfl] at h
  rw [h, Nat.xor_zero]
/-- The number of an integer. -/
def zig (n : Int) : Nat := if n < 0 then (-n - 1).toNat * 2 + 1 else n.toNat * 2
theorem zig_lt (n : Int) (h0 : -9223372036854775808 ≤ n) (h1 : n ≤ 9223372036854775807) : zig n < 18446744073709551616 := by
  unfold zig; split <;> omega
theorem unz_zig (n : Int) : unz (zig n) = n := by
  unfold unz zig
  split <;> split <;> omega
theorem zig_unz (m : Nat) : zig (unz m) = m := by
  unfold unz zig
  split <;> split <;> omega
theorem unz_range (m : Nat) (h : m < 18446744073709551616) : -9223372036854775808 ≤ unz m ∧ unz m ≤ 9223372036854775807 := by
  unfold unz
  split <;> omega

set_option maxRecDepth 100000 in
theorem int_c (n : Int) (w : World) (h0 : -9223372036854775808 ≤ n) (h1 : n ≤ 9223372036854775807) :
    Calls Try.prog 34 #[.int .i64 n] w (PutRes (Ta.num (zig n)) w) := by
  have K := Lib.hid (num_c (zig n) w (zig_lt n h0 h1))
  by_cases hn : n < 0
  · obtain ⟨m, rfl⟩ : ∃ m : Nat, n = -(m : Int) - 1 := ⟨(-n - 1).toNat, by omega⟩
    have e1 : IntKind.u64.wrap (IntKind.u64.wrap (-(m : Int) - 1) * 2) = ((18446744073709551614 - 2 * m : Nat) : Int) := by
      rw [IntKind.wrap_u64, IntKind.wrap_u64]; omega
    have e2 : (-(m : Int) - 1) / 9223372036854775808 = -1 := by omega
    have e3 := xor_hi (18446744073709551614 - 2 * m) (by omega)
    have HZ := Lib.hid (show ((zig (-(m : Int) - 1) : Nat) : Int) = 18446744073709551615 - ((18446744073709551614 - 2 * m : Nat) : Int) by unfold zig; rw [if_pos (by omega)]; omega)
    rw [← HZ.out] at e3
    replace e3 : bits .xor .u64 ((18446744073709551614 - 2 * m : Nat) : Int) (IntKind.u64.wrap (-1)) = ((zig (-(m : Int) - 1) : Nat) : Int) := e3
    clear h0 h1 hn HZ
    go_enter Try.func34, Try.ntmps34
    go_wp2_with fail
    refine K.out.mono ?_
    rintro e w1 ⟨rfl, b1⟩
    go_wp2_with fail
    go_ret
    exact ⟨rfl, b1⟩
  · obtain ⟨m, rfl⟩ : ∃ m : Nat, n = (m : Int) := ⟨n.toNat, by omega⟩
    have e2 : (m : Int) / 9223372036854775808 = 0 := by omega
    have e3 := xor_lo (m * 2) (by omega)
    have HZ := Lib.hid (show ((zig (m : Int) : Nat) : Int) = ((m * 2 : Nat) : Int) by unfold zig; rw [if_neg (by omega)]; omega)
    rw [← HZ.out] at e3
    replace e3 : bits .xor .u64 ((m : Int) * 2) 0 = ((zig (m : Int) : Nat) : Int) := by rw [← e3]; norm_cast
    clear h0 hn HZ
    go_enter Try.func34, Try.ntmps34
    go_wp2_with fail
    refine K.out.mono ?_
    rintro e w1 ⟨rfl, b1⟩
    go_wp2_with fail
    go_ret
    exact ⟨rfl, b1⟩
end Go.Proofs.Ytialjglgkfcdmaa.Tal
