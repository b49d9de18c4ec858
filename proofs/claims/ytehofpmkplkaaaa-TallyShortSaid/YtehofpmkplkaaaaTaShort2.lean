/- Package tally: the law of beginnings, whole. -/
import Derived.Test.YtehofpmkplkaaaaTaShort
import Derived.Test.YtehofpmkplkaaaaTaBack4
namespace Go.Proofs.Ytehofpmkplkaaaa.Tal
open Go.RowKit
set_option maxRecDepth 100000 in
theorem short_great (n : Nat) (i : Int) (s t : ByteArray) (w : World) (a : Option Addr) (cap cut : Nat) (L : List ByteArray) (hL : Strs w a L) (hs : s.size ≤ maxLen) (ht : t.size ≤ maxLen) (hl : L.length ≤ maxLen) (hz : ∀ s ∈ L, s.size ≤ maxLen)
    (hG : isGreat s t L = true) :
    Calls Try.prog 7 #[.agg #[.int .u64 n, .int .i64 i, .string s, .slice a L.length cap, .string t], .int .u32 cut] w fun e w' => e = .returned (.bool true) ∧ Below w.heap.size w w' := by
  have k1 := Lib.hid (fun w (h : Strs w a L) => hG ▸ great_c n i s t w a cap L h (by unfold maxLen at hl; omega) hz hs ht)
  have HS := Lib.hid hL
  clear hL hG hz hs ht hl
  have B0 := Lib.hid ((Below.refl _ w).alloc (Nat.le_refl _) (.cells #[.int .u64 n, .int .i64 i, .string s, .slice a L.length cap, .string t] 25))
  go_enter Try.func7, Try.ntmps7
  go_wp2_with fail
  refine (k1.out (w.alloc (.cells #[.int .u64 n, .int .i64 i, .string s, .slice a L.length cap, .string t] 25)) (HS.out.later B0.out)).mono ?_
  rintro e w1 ⟨rfl, b1⟩
  go_wp2_with fail
  refine (head_c w1).mono ?_
  rintro e w2 ⟨rfl, b2⟩
  go_wp2_with fail
  go_ret
  exact ⟨rfl, then_below (then_below B0.out b1) b2⟩
theorem short_num (l : List UInt8) (k : Nat) (w : World) (hl : l.length ≤ 2000000) (h : Ta.take 0 (l.take k) = none) : Calls Try.prog 25 #[.string ((⟨l.toArray⟩ : ByteArray).extract 0 k)] w (FailRes w) := by
  rw [ext_mk_take]
  refine (takeNum_c ⟨(l.take k).toArray⟩ w (by show (l.take k).length ≤ maxLen; unfold maxLen; simp; omega)).mono fun e w' hh => ?_
  have e1 : (⟨(l.take k).toArray⟩ : ByteArray).data.toList = l.take k := by simp
  rw [e1, h] at hh
  obtain ⟨rfl, b⟩ := hh
  exact ⟨⟨_, _, rfl⟩, b⟩
theorem short_int (l : List UInt8) (k : Nat) (w : World) (hl : l.length ≤ 2000000) (h : Ta.take 0 (l.take k) = none) : Calls Try.prog 27 #[.string ((⟨l.toArray⟩ : ByteArray).extract 0 k)] w (FailRes w) := by
  rw [ext_mk_take]
  refine (takeInt_c ⟨(l.take k).toArray⟩ w (by show (l.take k).length ≤ maxLen; unfold maxLen; simp; omega)).mono fun e w' hh => ?_
  have e1 : (⟨(l.take k).toArray⟩ : ByteArray).data.toList = l.take k := by simp
  rw [e1, h] at hh
  obtain ⟨rfl, b⟩ := hh
  exact ⟨⟨_, _, rfl⟩, b⟩
theorem short_text (l : List UInt8) (k : Nat) (w : World) (hl : l.length ≤ 2000000) (h : Ta.takeText (l.take k) = none) : Calls Try.prog 29 #[.string ((⟨l.toArray⟩ : ByteArray).extract 0 k)] w (FailRes w) := by
  rw [ext_mk_take]
  refine (takeText_c ⟨(l.take k).toArray⟩ w (by show (l.take k).length ≤ maxLen; unfold maxLen; simp; omega)).mono fun e w' hh => ?_
  have e1 : (⟨(l.take k).toArray⟩ : ByteArray).data.toList = l.take k := by simp
  rw [e1, h] at hh
  obtain ⟨rfl, b⟩ := hh
  exact ⟨⟨_, _, rfl⟩, b⟩
theorem short_row (l : List UInt8) (k : Nat) (w : World) (hl : l.length ≤ 2000000) (h : takeRow (l.take k) = none) : Calls Try.prog 31 #[.string ((⟨l.toArray⟩ : ByteArray).extract 0 k)] w (FailRes w) := by
  rw [ext_mk_take]
  refine (takeRow_c ⟨(l.take k).toArray⟩ w (by show (l.take k).length ≤ _; simp; omega)).mono fun e w' hh => ?_
  have e1 : (⟨(l.take k).toArray⟩ : ByteArray).data.toList = l.take k := by simp
  rw [e1, h] at hh
  obtain ⟨av, cv, rfl, b⟩ := row_none hh
  exact ⟨⟨_, _, rfl⟩, b⟩
theorem num_pos (n : Nat) : 0 < (Ta.num n).length := by unfold Ta.num; simp
theorem short_law (n i : Int) (s : ByteArray) (a : Option Addr) (cap : Nat) (L : List ByteArray) (t : ByteArray) (cut : Int) (w : World) (hn : 0 ≤ n ∧ n ≤ 18446744073709551615) (hi : -9223372036854775808 ≤ i ∧ i ≤ 9223372036854775807)
    (hs : s.size ≤ maxLen) (hL : Strs w a L) (hl : L.length ≤ maxLen) (hz : ∀ s ∈ L, s.size ≤ maxLen) (ht : t.size ≤ maxLen) (hcut : 0 ≤ cut ∧ cut ≤ 4294967295) :
    Calls Try.prog 7 #[.agg #[.int .u64 n, .int .i64 i, .string s, .slice a L.length cap, .string t], .int .u32 cut] w fun e w' => e = .returned (.bool true) ∧ Below w.heap.size w w' := by
  obtain ⟨n, rfl⟩ : ∃ m : Nat, n = m := ⟨n.toNat, by omega⟩
  obtain ⟨cut, rfl⟩ : ∃ m : Nat, cut = m := ⟨cut.toNat, by omega⟩
  cases hG : isGreat s t L with
  | true => exact short_great n i s t w a cap cut L hL hs ht hl hz hG
  | false =>
    obtain ⟨g1, g2, g3, g4⟩ := not_great hG
    have hrl := row_len L g3 g4
    have hzl := zig_lt i hi.1 hi.2
    have n0 := Ta.num_len n (by omega)
    have n1 := Ta.num_len (zig i) hzl
    have hsl : s.data.toList.length = s.size := by simp
    have n2 := txt_len s.data.toList (by omega)
    have q1 := num_pos s.data.toList.length
    have q3 := num_pos L.length
    have z2 : 0 < (txt s.data.toList).length := by unfold txt; rw [List.length_append]; omega
    have z3 : 0 < (row L).length := by unfold row; rw [List.length_append]; omega
    have hL0 := lists_of L
    have hrow : row L = rowL (L.map fun s => s.data.toList) := by rw [← row_bas, hL0]
    have m3 : cut % (row L).length < (row L).length := Nat.mod_lt _ z3
    exact short_c n i s t w a cap cut L hL (Ta.num n) (Ta.num (zig i)) (txt s.data.toList) (row L) (by omega) (by omega) (by omega) (by omega) (by omega)
      (fun w h => hG ▸ great_c n i s t w a cap L h (by unfold maxLen at hl; omega) hz hs ht)
      (fun w => num_c n w (by omega)) (fun w => int_c i w hi.1 hi.2) (fun w => text_c s w (by omega)) (fun w h => row_c w a cap L h (by omega) (by omega))
      (fun w => short_num _ _ w (by omega) (Ta.take_short _ _ (Nat.mod_lt _ (by omega))))
      (fun w => short_int _ _ w (by omega) (Ta.take_short _ _ (Nat.mod_lt _ (by omega))))
      (fun w => short_text _ _ w (by omega) (by have := takeText_short s.data.toList [] (cut % (txt s.data.toList).length) (by omega) (Nat.mod_lt _ z2); simpa using this))
      (fun w => short_row _ _ w (by omega) (by
        rw [hrow] at m3 ⊢
        exact takeRow_short _ _ (fun x hx => by
          obtain ⟨s, hs, rfl⟩ := List.mem_map.1 hx
          have := g4 s hs
          simp; omega) (by simp; omega) m3))
end Go.Proofs.Ytehofpmkplkaaaa.Tal
