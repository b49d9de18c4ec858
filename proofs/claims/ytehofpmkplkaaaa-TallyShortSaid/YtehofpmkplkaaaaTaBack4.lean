/- Package tally: the law of what was put, whole. -/
import Derived.Test.YtehofpmkplkaaaaTaBack3
namespace Go.Proofs.Ytehofpmkplkaaaa.Tal
open Go.RowKit
set_option maxRecDepth 100000 in
theorem back_great (n : Nat) (i : Int) (s t : ByteArray) (w : World) (a : Option Addr) (cap : Nat) (L : List ByteArray) (hL : Strs w a L) (hs : s.size ≤ maxLen) (ht : t.size ≤ maxLen) (hl : L.length ≤ maxLen) (hz : ∀ s ∈ L, s.size ≤ maxLen)
    (hG : isGreat s t L = true) :
    Calls Try.prog 5 #[.agg #[.int .u64 n, .int .i64 i, .string s, .slice a L.length cap, .string t]] w fun e w' => e = .returned (.bool true) ∧ Below w.heap.size w w' := by
  have k1 := Lib.hid (fun w (h : Strs w a L) => hG ▸ great_c n i s t w a cap L h (by unfold maxLen at hl; omega) hz hs ht)
  have HS := Lib.hid hL
  clear hL hG hz hs ht hl
  have I0 := Lib.hid (show ItemAt w.heap.size n i s a L.length cap t (w.alloc (.cells #[.int .u64 n, .int .i64 i, .string s, .slice a L.length cap, .string t] 25)) by constructor <;> simp [go_sem])
  have B0 := Lib.hid ((Below.refl _ w).alloc (Nat.le_refl _) (.cells #[.int .u64 n, .int .i64 i, .string s, .slice a L.length cap, .string t] 25))
  go_enter Try.func5, Try.ntmps5
  go_wp2_with fail
  refine (k1.out (w.alloc (.cells #[.int .u64 n, .int .i64 i, .string s, .slice a L.length cap, .string t] 25)) (HS.out.later B0.out)).mono ?_
  rintro e w1 ⟨rfl, b1⟩
  go_wp2_with fail
  refine (head_c w1).mono ?_
  rintro e w2 ⟨rfl, b2⟩
  go_wp2_with fail
  go_ret
  exact ⟨rfl, then_below (then_below B0.out b1) b2⟩
theorem not_great {s t : ByteArray} {L : List ByteArray} (h : isGreat s t L = false) : s.size ≤ 3000 ∧ t.size ≤ 3000 ∧ L.length ≤ 300 ∧ ∀ s ∈ L, s.size ≤ 300 := by
  unfold isGreat at h
  rw [Bool.or_eq_false_iff, Bool.or_eq_false_iff] at h
  have h3 := notLong h.2
  exact ⟨by simpa using h.1.1, by simpa using h.1.2, h3.1, h3.2⟩
theorem back_law (n i : Int) (s : ByteArray) (a : Option Addr) (cap : Nat) (L : List ByteArray) (t : ByteArray) (w : World) (hn : 0 ≤ n ∧ n ≤ 18446744073709551615) (hi : -9223372036854775808 ≤ i ∧ i ≤ 9223372036854775807)
    (hs : s.size ≤ maxLen) (hL : Strs w a L) (hl : L.length ≤ maxLen) (hz : ∀ s ∈ L, s.size ≤ maxLen) (ht : t.size ≤ maxLen) :
    Calls Try.prog 5 #[.agg #[.int .u64 n, .int .i64 i, .string s, .slice a L.length cap, .string t]] w fun e w' => e = .returned (.bool true) ∧ Below w.heap.size w w' := by
  obtain ⟨n, rfl⟩ : ∃ m : Nat, n = m := ⟨n.toNat, by omega⟩
  cases hG : isGreat s t L with
  | true => exact back_great n i s t w a cap L hL hs ht hl hz hG
  | false =>
    obtain ⟨g1, g2, g3, g4⟩ := not_great hG
    exact back_c n i s t w a cap L hL g1 g2 g3 g4 hG (by omega) hi.1 hi.2
end Go.Proofs.Ytehofpmkplkaaaa.Tal
