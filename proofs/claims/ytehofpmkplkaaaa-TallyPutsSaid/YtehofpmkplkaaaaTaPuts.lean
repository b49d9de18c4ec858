/- Package tally: the law of what is put. -/
import Derived.Test.YtehofpmkplkaaaaTaRef
import Derived.Test.YtehofpmkplkaaaaTaShort
namespace Go.Proofs.Ytehofpmkplkaaaa.Tal
open Go.RowKit
set_option maxRecDepth 100000 in
theorem puts_big (n : Nat) (i : Int) (s t : ByteArray) (w : World) (a : Option Addr) (cap : Nat) (L : List ByteArray) (hs : 70000 < s.size) (hs2 : s.size ≤ maxLen) :
    Calls Try.prog 3 #[.agg #[.int .u64 n, .int .i64 i, .string s, .slice a L.length cap, .string t]] w fun e w' => e = .returned (.bool true) ∧ Below w.heap.size w w' := by
  unfold maxLen at hs2
  have B0 := Lib.hid ((Below.refl _ w).alloc (Nat.le_refl _) (.cells #[.int .u64 n, .int .i64 i, .string s, .slice a L.length cap, .string t] 25))
  have hs' : (70000 : Int) < (s.size : Int) := by omega
  clear hs
  go_enter Try.func3, Try.ntmps3
  go_wp2_with fail
  refine (head_c _).mono ?_
  rintro e w1 ⟨rfl, b1⟩
  go_wp2_with fail
  go_ret
  exact ⟨rfl, then_below B0.out b1⟩
set_option maxRecDepth 100000 in
theorem puts_long (n : Nat) (i : Int) (s t : ByteArray) (w : World) (a : Option Addr) (cap : Nat) (L : List ByteArray) (hL : Strs w a L) (hs : s.size ≤ 70000) (hl : L.length ≤ 9223372036854775807) (hz : ∀ s ∈ L, s.size ≤ maxLen) (hG : isLong L = true) :
    Calls Try.prog 3 #[.agg #[.int .u64 n, .int .i64 i, .string s, .slice a L.length cap, .string t]] w fun e w' => e = .returned (.bool true) ∧ Below w.heap.size w w' := by
  have k1 := Lib.hid (fun w (h : Strs w a L) => hG ▸ islong_c w a cap L h hl hz)
  have HS := Lib.hid hL
  have hs' : ¬ (70000 : Int) < (s.size : Int) := by omega
  clear hL hG hz
  have B0 := Lib.hid ((Below.refl _ w).alloc (Nat.le_refl _) (.cells #[.int .u64 n, .int .i64 i, .string s, .slice a L.length cap, .string t] 25))
  go_enter Try.func3, Try.ntmps3
  go_wp2_with fail
  refine (k1.out (w.alloc (.cells #[.int .u64 n, .int .i64 i, .string s, .slice a L.length cap, .string t] 25)) (HS.out.later B0.out)).mono ?_
  rintro e w1 ⟨rfl, b1⟩
  go_wp2_with fail
  refine (head_c _).mono ?_
  rintro e w2 ⟨rfl, b2⟩
  go_wp2_with fail
  go_ret
  exact ⟨rfl, then_below (then_below B0.out b1) b2⟩
set_option maxRecDepth 100000 in
set_option maxHeartbeats 1600000 in
theorem puts_c (n : Nat) (i : Int) (s t : ByteArray) (w : World) (a : Option Addr) (cap : Nat) (L : List ByteArray) (hL : Strs w a L) (hs : s.size ≤ 70000) (hl : L.length ≤ 300) (hz : ∀ s ∈ L, s.size ≤ 300)
    (hG : isLong L = false) (hn : n < 18446744073709551616) (i0 : -9223372036854775808 ≤ i) (i1 : i ≤ 9223372036854775807) :
    Calls Try.prog 3 #[.agg #[.int .u64 n, .int .i64 i, .string s, .slice a L.length cap, .string t]] w fun e w' => e = .returned (.bool true) ∧ Below w.heap.size w w' := by
  have k1 := Lib.hid (fun w (h : Strs w a L) => hG ▸ islong_c w a cap L h (by omega) (fun s hs => by have := hz s hs; unfold maxLen; omega))
  have hrl := row_len L hl hz
  have p1 := Lib.hid (fun w => num_c n w hn)
  have q1 := Lib.hid (fun w => refNum_c n w hn)
  have p2 := Lib.hid (fun w => int_c i w i0 i1)
  have q2 := Lib.hid (fun w => refInt_c i w i0 i1)
  have p3 := Lib.hid (fun w => text_c s w (by omega))
  have q3 := Lib.hid (fun w => refText_c s w (by omega))
  have p4 := Lib.hid (fun w (h : Strs w a L) => row_c w a cap L h (by omega) (by omega))
  have q4 := Lib.hid (fun w (h : Strs w a L) => refRow_c w a cap L h (by omega) (by omega))
  have p5 := Lib.hid (fun w => long_c n w hn)
  have HS := Lib.hid hL
  have hs' : ¬ (70000 : Int) < (s.size : Int) := by omega
  have hnl := Ta.num_len n hn
  clear hL hG hz hrl i0 i1 hn
  have I0 := Lib.hid (show ItemAt w.heap.size n i s a L.length cap t (w.alloc (.cells #[.int .u64 n, .int .i64 i, .string s, .slice a L.length cap, .string t] 25)) by constructor <;> simp [go_sem])
  have B0 := Lib.hid ((Below.refl _ w).alloc (Nat.le_refl _) (.cells #[.int .u64 n, .int .i64 i, .string s, .slice a L.length cap, .string t] 25))
  go_enter Try.func3, Try.ntmps3
  go_wp2_with fail
  refine (k1.out (w.alloc (.cells #[.int .u64 n, .int .i64 i, .string s, .slice a L.length cap, .string t] 25)) (HS.out.later B0.out)).mono ?_
  rintro e w1 ⟨rfl, b1⟩
  have I1 := Lib.hid (I0.out.later b1)
  have B1 := Lib.hid (then_below B0.out b1)
  clear I0 B0 b1 k1
  go_wp2_with fail
  go_region_held3 (fun u => u.cell? ⟨w.heap.size, 0, none⟩ = some (.int .u64 n) ∧ u.cell? ⟨w.heap.size, 1, none⟩ = some (.int .i64 i) ∧ u.cell? ⟨w.heap.size, 2, none⟩ = some (.string s) ∧ u.cell? ⟨w.heap.size, 3, none⟩ = some (.slice a L.length cap) ∧ ItemAt w.heap.size n i s a L.length cap t u ∧ Below w.heap.size w u)
    (first | exact ItemAt.pack I1.out B1.out | exact ItemAt.pack I1.out.drew B1.out.drew | exact ItemAt.pack J1 D1 | exact ItemAt.pack (ItemAt.alloc (by assumption) _) (below_alloc (by assumption) _))
    (first | (go_at_call 16; (try go_split_ands); refine (p1.out _).mono ?_; rintro e u1 ⟨rfl, b1⟩; have J1 := ItemAt.later (by assumption) b1; have D1 := then_below (by assumption) b1) | (go_at_call 17; (try go_split_ands); refine (q1.out _).mono ?_; rintro e u1 ⟨rfl, b1⟩; have J1 := ItemAt.later (by assumption) b1; have D1 := then_below (by assumption) b1) | (go_at_call 18; (try go_split_ands); refine (p2.out _).mono ?_; rintro e u1 ⟨rfl, b1⟩; have J1 := ItemAt.later (by assumption) b1; have D1 := then_below (by assumption) b1) | (go_at_call 19; (try go_split_ands); refine (q2.out _).mono ?_; rintro e u1 ⟨rfl, b1⟩; have J1 := ItemAt.later (by assumption) b1; have D1 := then_below (by assumption) b1) | (go_at_call 20; (try go_split_ands); refine (p3.out _).mono ?_; rintro e u1 ⟨rfl, b1⟩; have J1 := ItemAt.later (by assumption) b1; have D1 := then_below (by assumption) b1) | (go_at_call 21; (try go_split_ands); refine (q3.out _).mono ?_; rintro e u1 ⟨rfl, b1⟩; have J1 := ItemAt.later (by assumption) b1; have D1 := then_below (by assumption) b1) | (go_at_call 22; (try go_split_ands); refine (p4.out _ (HS.out.later (by assumption))).mono ?_; rintro e u1 ⟨rfl, b1⟩; have J1 := ItemAt.later (by assumption) b1; have D1 := then_below (by assumption) b1) | (go_at_call 23; (try go_split_ands); refine (q4.out _ (HS.out.later (by assumption))).mono ?_; rintro e u1 ⟨rfl, b1⟩; have J1 := ItemAt.later (by assumption) b1; have D1 := then_below (by assumption) b1) | (go_at_call 24; (try go_split_ands); refine (p5.out _).mono ?_; rintro e u1 ⟨rfl, b1⟩; have J1 := ItemAt.later (by assumption) b1; have D1 := then_below (by assumption) b1) | (go_at_call 15; (try go_split_ands); refine (head_c _).mono ?_; rintro e u1 ⟨rfl, b1⟩; have J1 := ItemAt.later (by assumption) b1; have D1 := then_below (by assumption) b1))
  go_split_ands
  have D2 : Below w.heap.size w u1 := by assumption
  go_wp2_with fail
  go_ret
  exact ⟨rfl, D2⟩
theorem puts_law (n i : Int) (s : ByteArray) (a : Option Addr) (cap : Nat) (L : List ByteArray) (t : ByteArray) (w : World) (hn : 0 ≤ n ∧ n ≤ 18446744073709551615) (hi : -9223372036854775808 ≤ i ∧ i ≤ 9223372036854775807)
    (hs : s.size ≤ maxLen) (hL : Strs w a L) (hl : L.length ≤ maxLen) (hz : ∀ s ∈ L, s.size ≤ maxLen) :
    Calls Try.prog 3 #[.agg #[.int .u64 n, .int .i64 i, .string s, .slice a L.length cap, .string t]] w fun e w' => e = .returned (.bool true) ∧ Below w.heap.size w w' := by
  obtain ⟨n, rfl⟩ : ∃ m : Nat, n = m := ⟨n.toNat, by omega⟩
  by_cases h1 : 70000 < s.size
  · exact puts_big n i s t w a cap L h1 hs
  · cases hG : isLong L with
    | true => exact puts_long n i s t w a cap L hL (by omega) (by unfold maxLen at hl; omega) hz hG
    | false =>
      obtain ⟨g1, g2⟩ := notLong hG
      exact puts_c n i s t w a cap L hL (by omega) g1 g2 hG (by omega) hi.1 hi.2
end Go.Proofs.Ytehofpmkplkaaaa.Tal
