/- The known answers of layer 7: head. -/
import Derived.Test.YtehofpmkplkaaaaArAdd
namespace Go.Proofs.Ytehofpmkplkaaaa
open Go.RowKit

theorem told_in {P : Program} {f : FuncId} {args : Array Value} {n m : Int} {w : World} (h : Calls P f args w (Told n w)) (hm : n = m) (h1 : -9223372036854775808 ≤ m) (h2 : m ≤ 9223372036854775807) :
    Calls P f args w fun e w' => e = .returned (.tuple #[.int .i64 m, .bool true]) ∧ Below w.heap.size w w' :=
  h.mono fun e w' ⟨he, hb⟩ => by subst hm; exact ⟨by rw [he, (ok_in h1 h2).1, (ok_in h1 h2).2], hb⟩
theorem told_out {P : Program} {f : FuncId} {args : Array Value} {n : Int} {w : World} (h : Calls P f args w (Told n w)) (hn : n < -9223372036854775808 ∨ 9223372036854775807 < n) :
    Calls P f args w fun e w' => e = .returned (.tuple #[.int .i64 0, .bool false]) ∧ Below w.heap.size w w' :=
  h.mono fun e w' ⟨he, hb⟩ => ⟨by rw [he, (ok_out hn).1, (ok_out hn).2], hb⟩
theorem muldiv_in (a b c q r : Int) (w : World) (ha : I64 a) (hb : I64 b) (c1 : 1 ≤ c) (c2 : c < 9223372036854775808) (hq : a * b / c = q) (hr : a * b % c = r) (q1 : -9223372036854775808 ≤ q) (q2 : q ≤ 9223372036854775807) :
    Calls Try.prog 45 #[.int .i64 a, .int .i64 b, .int .i64 c] w fun e w' => e = .returned (.tuple #[.int .i64 q, .int .i64 r, .bool true]) ∧ Below w.heap.size w w' := by
  subst hq hr; exact (muldiv_c a b c w ha hb c1 c2).1 (ok_in q1 q2).1
theorem muldiv_out (a b c : Int) (w : World) (ha : I64 a) (hb : I64 b) (c1 : 1 ≤ c) (c2 : c < 9223372036854775808) (hq : a * b / c < -9223372036854775808 ∨ 9223372036854775807 < a * b / c) :
    Calls Try.prog 45 #[.int .i64 a, .int .i64 b, .int .i64 c] w fun e w' => e = .returned (.tuple #[.int .i64 0, .int .i64 0, .bool false]) ∧ Below w.heap.size w w' :=
  (muldiv_c a b c w ha hb c1 c2).2 (ok_out hq).1
theorem sum3_in (a b c n : Int) (w : World) (ha : I64 a) (hb : I64 b) (hc : I64 c) (hn : a + b + c = n) (h1 : -9223372036854775808 ≤ n) (h2 : n ≤ 9223372036854775807) :
    Calls Try.prog 43 #[.slice (some ⟨w.heap.size, 0, none⟩) 3 3] (w.alloc (.cells #[.int .i64 a, .int .i64 b, .int .i64 c] 2)) fun e w' => e = .returned (.tuple #[.int .i64 n, .bool true]) ∧ Below w.heap.size w w' :=
  (told_in (sum3 a b c w ha hb hc) hn h1 h2).mono fun e w' ⟨he, hb⟩ => ⟨he, ((Below.refl _ _).alloc (Nat.le_refl _) _).trans (hb.mono (by simp))⟩
theorem i64_lit {n : Int} (h1 : -9223372036854775808 ≤ n) (h2 : n ≤ 9223372036854775807) : I64 n := ⟨h1, h2⟩

set_option maxRecDepth 100000 in
set_option maxHeartbeats 800000 in
theorem head_c (w : World) : Calls Try.prog 42 #[] w fun e w' => e = .returned (.bool true) ∧ Below w.heap.size w w' := by
  go_enter Try.func42, Try.ntmps42
  go_wp2_with fail
  refine (told_out (add_c 9223372036854775807 1 _ ⟨by omega, by omega⟩ ⟨by omega, by omega⟩) (by omega)).mono ?_
  rintro e w1 ⟨rfl, b1⟩
  go_wp2_with fail
  refine (told_out (neg_c (-9223372036854775808) _ ⟨by omega, by omega⟩) (by omega)).mono ?_
  rintro e w2 ⟨rfl, b2⟩
  have B2 := b1.trans (b2.mono b1.size)
  clear b1 b2
  go_wp2_with fail
  refine (told_out (mul_c 4294967296 2147483648 _ ⟨by omega, by omega⟩ ⟨by omega, by omega⟩) (by omega)).mono ?_
  rintro e w3 ⟨rfl, b3⟩
  have B3 := B2.trans (b3.mono B2.size)
  clear b3 B2
  go_wp2_with fail
  refine (sum3_in 9223372036854775807 1 (-5) 9223372036854775803 w3 ⟨by omega, by omega⟩ ⟨by omega, by omega⟩ ⟨by omega, by omega⟩ (by omega) (by omega) (by omega)).mono ?_
  rintro e w4 ⟨rfl, b4⟩
  have B4 := B3.trans (b4.mono B3.size)
  clear b4 B3
  go_wp2_with fail
  refine (muldiv_in (-7) 3 2 (-11) 1 _ ⟨by omega, by omega⟩ ⟨by omega, by omega⟩ (by omega) (by omega) (by decide) (by decide) (by omega) (by omega)).mono ?_
  rintro e w5 ⟨rfl, b5⟩
  have B5 := B4.trans (b5.mono B4.size)
  clear b5 B4
  go_wp2_with fail
  refine (told_in (near_c 1 1 2 _ ⟨by omega, by omega⟩ ⟨by omega, by omega⟩ (by omega) (by omega)) (m := 1) (by decide) (by omega) (by omega)).mono ?_
  rintro e w6 ⟨rfl, b6⟩
  have B6 := B5.trans (b6.mono B5.size)
  clear b6 B5
  go_wp2_with fail
  refine (told_in (near_c (-1) 1 2 _ ⟨by omega, by omega⟩ ⟨by omega, by omega⟩ (by omega) (by omega)) (m := 0) (by decide) (by omega) (by omega)).mono ?_
  rintro e w7 ⟨rfl, b7⟩
  have B7 := B6.trans (b7.mono B6.size)
  clear b7 B6
  go_wp2_with fail
  refine (muldiv_0 1 1 0 _ (by omega)).mono ?_
  rintro e w8 ⟨rfl, rfl⟩
  go_wp2_with fail
  go_ret
  exact ⟨rfl, B7⟩
end Go.Proofs.Ytehofpmkplkaaaa
