/- The walk of ArithParts. -/
import Derived.Test.YtehofpmkplkaaaaArRing
import Derived.BigQuiet
import Derived.Deep.QuietTactic
namespace Go.Proofs.Ytehofpmkplkaaaa
open Go.RowKit

theorem below_q {w : World} (o : Obj) (n : Nat) : Below w.heap.size w ((w.alloc o).drewN n) := ((Below.refl _ _).alloc (Nat.le_refl _) o).trans ⟨rfl, rfl, rfl, Nat.le_refl _, fun _ _ => rfl⟩
theorem parts_0 (a b n c : Int) (w : World) (hc0 : c ≤ 0) :
    Calls Try.prog 13 #[.agg #[.int .i64 a, .int .i64 b, .int .i64 n, .int .i64 c]] w fun e w' => e = .returned (.bool true) ∧ Below w.heap.size w w' := by
  go_enter Try.func13, Try.ntmps13
  go_wp2
  go_quiet (fail)
  have B0 := below_q (w := w) (.cells #[.int .i64 a, .int .i64 b, .int .i64 n, .int .i64 c] 60) nq
  go_wp2_with fail
  refine (muldiv_0 a n c _ hc0).mono ?_
  rintro e w1 ⟨rfl, rfl⟩
  go_wp2_with fail
  refine (head_c _).mono ?_
  rintro e w2 ⟨rfl, b2⟩
  have B2 := B0.trans (b2.mono (by simp))
  go_wp2_with fail
  go_ret
  exact ⟨rfl, B2⟩

/-- The rest that MulDiv tells. -/
def mdr (P c : Int) : Int := if Ar.ok (P / c) then P % c else 0
theorem muldiv_told (a b c P : Int) (w : World) (ha : I64 a) (hb : I64 b) (c1 : 1 ≤ c) (c2 : c < 9223372036854775808) (hP : a * b = P) :
    Calls Try.prog 45 #[.int .i64 a, .int .i64 b, .int .i64 c] w fun e w' => e = .returned (.tuple #[.int .i64 (Ar.val (P / c)), .int .i64 (mdr P c), .bool (Ar.ok (P / c))]) ∧ Below w.heap.size w w' := by
  subst hP
  rcases ok_or (a * b / c) with ⟨h1, h2⟩ | ⟨h1, h2⟩
  · rw [h1, h2, mdr, h2, if_pos rfl]; exact (muldiv_c a b c w ha hb c1 c2).1 h2
  · rw [h1, h2, mdr, h2, if_neg (by decide)]; exact (muldiv_c a b c w ha hb c1 c2).2 h2
theorem quo_mono (lo hi n c : Int) (h : lo ≤ hi) (n0 : 0 ≤ n) (c1 : 1 ≤ c) : lo * n / c ≤ hi * n / c := Int.ediv_le_ediv (by omega) (Int.mul_le_mul_of_nonneg_right h n0)
theorem quo_parts (lo hi s n c : Int) (hs : lo + hi = s) (c1 : 1 ≤ c) : lo * n / c + hi * n / c = s * n / c ∨ lo * n / c + hi * n / c = s * n / c - 1 := by
  subst hs
  rw [Int.add_mul]
  have e1 := Int.mul_ediv_add_emod (lo * n) c
  have e2 := Int.mul_ediv_add_emod (hi * n) c
  have r1 := Int.emod_nonneg (lo * n) (show c ≠ 0 by omega)
  have r2 := Int.emod_nonneg (hi * n) (show c ≠ 0 by omega)
  have r3 := Int.emod_lt_of_pos (lo * n) (show 0 < c by omega)
  have r4 := Int.emod_lt_of_pos (hi * n) (show 0 < c by omega)
  have e3 : lo * n + hi * n = (lo * n % c + hi * n % c) + c * (lo * n / c + hi * n / c) := by grind
  rw [e3, Int.add_mul_ediv_left _ _ (by omega)]
  by_cases h : lo * n % c + hi * n % c < c
  · have : (lo * n % c + hi * n % c) / c = 0 := Int.ediv_eq_zero_of_lt (by omega) h
    omega
  · have : (lo * n % c + hi * n % c) / c = 1 := by
      have h1 : (lo * n % c + hi * n % c - c) / c = 0 := Int.ediv_eq_zero_of_lt (by omega) (by omega)
      have h2 := Int.add_mul_ediv_left (lo * n % c + hi * n % c - c) 1 (show c ≠ 0 by omega)
      rw [h1, show lo * n % c + hi * n % c - c + c * 1 = lo * n % c + hi * n % c by omega] at h2
      omega
    omega
set_option maxRecDepth 100000 in
set_option maxHeartbeats 1600000 in
theorem parts_le_1 (a b n c : Int) (w : World) (ha : I64 a) (hb : I64 b) (hn : I64 n) (c1 : 1 ≤ c) (c2 : c < 9223372036854775808) (_hab : a < b) (_n0 : 0 ≤ n) (he : ¬ I64 (a * n / c)) :
    Calls Try.prog 13 #[.agg #[.int .i64 a, .int .i64 b, .int .i64 n, .int .i64 c]] w fun e w' => e = .returned (.bool true) ∧ Below w.heap.size w w' := by
  go_enter Try.func13, Try.ntmps13
  go_wp2
  go_quiet (fail)
  have B0 := below_q (w := w) (.cells #[.int .i64 a, .int .i64 b, .int .i64 n, .int .i64 c] 60) nq
  go_wp2_with fail
  refine (muldiv_in a c c a 0 _ ha ⟨by omega, by omega⟩ c1 c2 (Int.mul_ediv_cancel _ (by omega)) (Int.mul_emod_left _ _) ha.1 ha.2).mono ?_
  rintro e w1 ⟨rfl, b1⟩
  have B1 := B0.trans (b1.mono (by simp))
  clear b1 B0
  go_wp2_with fail
  refine (muldiv_out a n c _ ha hn c1 c2 (by unfold I64 at he; omega)).mono ?_
  rintro e w2 ⟨rfl, b2⟩
  have B2 := B1.trans (b2.mono B1.size)
  clear b2 B1
  go_wp2_with fail
  refine (muldiv_told b n c _ _ hb hn c1 c2 rfl).mono ?_
  rintro e w3 ⟨rfl, b3⟩
  have B3 := B2.trans (b3.mono B2.size)
  clear b3 B2
  go_wp2_with fail
  refine (add_c a b _ ha hb).mono ?_
  rintro e w4 ⟨rfl, b4⟩
  have B4 := B3.trans (b4.mono B3.size)
  clear b4 B3
  go_wp2_with fail
  refine (muldiv_told (Ar.val (a + b)) n c _ _ (val_i64 _) hn c1 c2 rfl).mono ?_
  rintro e w5 ⟨rfl, b5⟩
  have B5 := B4.trans (b5.mono B4.size)
  clear b5 B4
  go_wp2_with fail
  refine (add_c 0 (Ar.val (b * n / c)) _ zero_i64 (val_i64 _)).mono ?_
  rintro e w6 ⟨rfl, b6⟩
  have B6 := B5.trans (b6.mono B5.size)
  clear b6 B5
  go_wp2_with fail
  refine (head_c _).mono ?_
  rintro e w7 ⟨rfl, b7⟩
  have B7 := B6.trans (b7.mono B6.size)
  clear b7 B6
  go_wp2_with fail
  go_ret
  exact ⟨rfl, B7⟩
set_option maxRecDepth 100000 in
set_option maxHeartbeats 1600000 in
theorem parts_le_2 (a b n c : Int) (w : World) (ha : I64 a) (hb : I64 b) (hn : I64 n) (c1 : 1 ≤ c) (c2 : c < 9223372036854775808) (_hab : a < b) (_n0 : 0 ≤ n) (he : I64 (a * n / c)) (hf : ¬ I64 (b * n / c)) :
    Calls Try.prog 13 #[.agg #[.int .i64 a, .int .i64 b, .int .i64 n, .int .i64 c]] w fun e w' => e = .returned (.bool true) ∧ Below w.heap.size w w' := by
  go_enter Try.func13, Try.ntmps13
  go_wp2
  go_quiet (fail)
  have B0 := below_q (w := w) (.cells #[.int .i64 a, .int .i64 b, .int .i64 n, .int .i64 c] 60) nq
  go_wp2_with fail
  refine (muldiv_in a c c a 0 _ ha ⟨by omega, by omega⟩ c1 c2 (Int.mul_ediv_cancel _ (by omega)) (Int.mul_emod_left _ _) ha.1 ha.2).mono ?_
  rintro e w1 ⟨rfl, b1⟩
  have B1 := B0.trans (b1.mono (by simp))
  clear b1 B0
  go_wp2_with fail
  refine (muldiv_in a n c (a * n / c) (a * n % c) _ ha hn c1 c2 rfl rfl he.1 he.2).mono ?_
  rintro e w2 ⟨rfl, b2⟩
  have B2 := B1.trans (b2.mono B1.size)
  clear b2 B1
  go_wp2_with fail
  refine (muldiv_out b n c _ hb hn c1 c2 (by unfold I64 at hf; omega)).mono ?_
  rintro e w3 ⟨rfl, b3⟩
  have B3 := B2.trans (b3.mono B2.size)
  clear b3 B2
  go_wp2_with fail
  refine (add_c a b _ ha hb).mono ?_
  rintro e w4 ⟨rfl, b4⟩
  have B4 := B3.trans (b4.mono B3.size)
  clear b4 B3
  go_wp2_with fail
  refine (muldiv_told (Ar.val (a + b)) n c _ _ (val_i64 _) hn c1 c2 rfl).mono ?_
  rintro e w5 ⟨rfl, b5⟩
  have B5 := B4.trans (b5.mono B4.size)
  clear b5 B4
  go_wp2_with fail
  refine (add_c (a * n / c) 0 _ he zero_i64).mono ?_
  rintro e w6 ⟨rfl, b6⟩
  have B6 := B5.trans (b6.mono B5.size)
  clear b6 B5
  go_wp2_with fail
  refine (head_c _).mono ?_
  rintro e w7 ⟨rfl, b7⟩
  have B7 := B6.trans (b7.mono B6.size)
  clear b7 B6
  go_wp2_with fail
  go_ret
  exact ⟨rfl, B7⟩
set_option maxRecDepth 100000 in
set_option maxHeartbeats 1600000 in
theorem parts_le_3 (a b n c : Int) (w : World) (ha : I64 a) (hb : I64 b) (hn : I64 n) (c1 : 1 ≤ c) (c2 : c < 9223372036854775808) (_hab : a < b) (_n0 : 0 ≤ n) (he : I64 (a * n / c)) (hf : I64 (b * n / c)) (_hxy : a * n / c ≤ b * n / c) (hg : ¬ I64 (a + b)) :
    Calls Try.prog 13 #[.agg #[.int .i64 a, .int .i64 b, .int .i64 n, .int .i64 c]] w fun e w' => e = .returned (.bool true) ∧ Below w.heap.size w w' := by
  go_enter Try.func13, Try.ntmps13
  go_wp2
  go_quiet (fail)
  have B0 := below_q (w := w) (.cells #[.int .i64 a, .int .i64 b, .int .i64 n, .int .i64 c] 60) nq
  go_wp2_with fail
  refine (muldiv_in a c c a 0 _ ha ⟨by omega, by omega⟩ c1 c2 (Int.mul_ediv_cancel _ (by omega)) (Int.mul_emod_left _ _) ha.1 ha.2).mono ?_
  rintro e w1 ⟨rfl, b1⟩
  have B1 := B0.trans (b1.mono (by simp))
  clear b1 B0
  go_wp2_with fail
  refine (muldiv_in a n c (a * n / c) (a * n % c) _ ha hn c1 c2 rfl rfl he.1 he.2).mono ?_
  rintro e w2 ⟨rfl, b2⟩
  have B2 := B1.trans (b2.mono B1.size)
  clear b2 B1
  go_wp2_with fail
  refine (muldiv_in b n c (b * n / c) (b * n % c) _ hb hn c1 c2 rfl rfl hf.1 hf.2).mono ?_
  rintro e w3 ⟨rfl, b3⟩
  have B3 := B2.trans (b3.mono B2.size)
  clear b3 B2
  go_wp2_with fail
  refine (told_out (add_c a b _ ha hb) (by unfold I64 at hg; omega)).mono ?_
  rintro e w4 ⟨rfl, b4⟩
  have B4 := B3.trans (b4.mono B3.size)
  clear b4 B3
  go_wp2_with fail
  refine (muldiv_told 0 n c _ _ zero_i64 hn c1 c2 rfl).mono ?_
  rintro e w5 ⟨rfl, b5⟩
  have B5 := B4.trans (b5.mono B4.size)
  clear b5 B4
  go_wp2_with fail
  refine (add_c (a * n / c) (b * n / c) _ he hf).mono ?_
  rintro e w6 ⟨rfl, b6⟩
  have B6 := B5.trans (b6.mono B5.size)
  clear b6 B5
  go_wp2_with fail
  refine (head_c _).mono ?_
  rintro e w7 ⟨rfl, b7⟩
  have B7 := B6.trans (b7.mono B6.size)
  clear b7 B6
  go_wp2_with fail
  go_ret
  exact ⟨rfl, B7⟩
set_option maxRecDepth 100000 in
set_option maxHeartbeats 1600000 in
theorem parts_le_4 (a b n c : Int) (w : World) (ha : I64 a) (hb : I64 b) (hn : I64 n) (c1 : 1 ≤ c) (c2 : c < 9223372036854775808) (_hab : a < b) (_n0 : 0 ≤ n) (he : I64 (a * n / c)) (hf : I64 (b * n / c)) (_hxy : a * n / c ≤ b * n / c) (hg : I64 (a + b)) (hh : ¬ I64 ((a + b) * n / c)) :
    Calls Try.prog 13 #[.agg #[.int .i64 a, .int .i64 b, .int .i64 n, .int .i64 c]] w fun e w' => e = .returned (.bool true) ∧ Below w.heap.size w w' := by
  go_enter Try.func13, Try.ntmps13
  go_wp2
  go_quiet (fail)
  have B0 := below_q (w := w) (.cells #[.int .i64 a, .int .i64 b, .int .i64 n, .int .i64 c] 60) nq
  go_wp2_with fail
  refine (muldiv_in a c c a 0 _ ha ⟨by omega, by omega⟩ c1 c2 (Int.mul_ediv_cancel _ (by omega)) (Int.mul_emod_left _ _) ha.1 ha.2).mono ?_
  rintro e w1 ⟨rfl, b1⟩
  have B1 := B0.trans (b1.mono (by simp))
  clear b1 B0
  go_wp2_with fail
  refine (muldiv_in a n c (a * n / c) (a * n % c) _ ha hn c1 c2 rfl rfl he.1 he.2).mono ?_
  rintro e w2 ⟨rfl, b2⟩
  have B2 := B1.trans (b2.mono B1.size)
  clear b2 B1
  go_wp2_with fail
  refine (muldiv_in b n c (b * n / c) (b * n % c) _ hb hn c1 c2 rfl rfl hf.1 hf.2).mono ?_
  rintro e w3 ⟨rfl, b3⟩
  have B3 := B2.trans (b3.mono B2.size)
  clear b3 B2
  go_wp2_with fail
  refine (told_in (add_c a b _ ha hb) rfl hg.1 hg.2).mono ?_
  rintro e w4 ⟨rfl, b4⟩
  have B4 := B3.trans (b4.mono B3.size)
  clear b4 B3
  go_wp2_with fail
  refine (muldiv_out (a + b) n c _ hg hn c1 c2 (by unfold I64 at hh; omega)).mono ?_
  rintro e w5 ⟨rfl, b5⟩
  have B5 := B4.trans (b5.mono B4.size)
  clear b5 B4
  go_wp2_with fail
  refine (add_c (a * n / c) (b * n / c) _ he hf).mono ?_
  rintro e w6 ⟨rfl, b6⟩
  have B6 := B5.trans (b6.mono B5.size)
  clear b6 B5
  go_wp2_with fail
  refine (head_c _).mono ?_
  rintro e w7 ⟨rfl, b7⟩
  have B7 := B6.trans (b7.mono B6.size)
  clear b7 B6
  go_wp2_with fail
  go_ret
  exact ⟨rfl, B7⟩
set_option maxRecDepth 100000 in
set_option maxHeartbeats 1600000 in
theorem parts_le_5 (a b n c : Int) (w : World) (ha : I64 a) (hb : I64 b) (hn : I64 n) (c1 : 1 ≤ c) (c2 : c < 9223372036854775808) (_hab : a < b) (_n0 : 0 ≤ n) (he : I64 (a * n / c)) (hf : I64 (b * n / c)) (_hxy : a * n / c ≤ b * n / c) (hg : I64 (a + b)) (hh : I64 ((a + b) * n / c)) (hi : ¬ I64 (a * n / c + b * n / c)) :
    Calls Try.prog 13 #[.agg #[.int .i64 a, .int .i64 b, .int .i64 n, .int .i64 c]] w fun e w' => e = .returned (.bool true) ∧ Below w.heap.size w w' := by
  go_enter Try.func13, Try.ntmps13
  go_wp2
  go_quiet (fail)
  have B0 := below_q (w := w) (.cells #[.int .i64 a, .int .i64 b, .int .i64 n, .int .i64 c] 60) nq
  go_wp2_with fail
  refine (muldiv_in a c c a 0 _ ha ⟨by omega, by omega⟩ c1 c2 (Int.mul_ediv_cancel _ (by omega)) (Int.mul_emod_left _ _) ha.1 ha.2).mono ?_
  rintro e w1 ⟨rfl, b1⟩
  have B1 := B0.trans (b1.mono (by simp))
  clear b1 B0
  go_wp2_with fail
  refine (muldiv_in a n c (a * n / c) (a * n % c) _ ha hn c1 c2 rfl rfl he.1 he.2).mono ?_
  rintro e w2 ⟨rfl, b2⟩
  have B2 := B1.trans (b2.mono B1.size)
  clear b2 B1
  go_wp2_with fail
  refine (muldiv_in b n c (b * n / c) (b * n % c) _ hb hn c1 c2 rfl rfl hf.1 hf.2).mono ?_
  rintro e w3 ⟨rfl, b3⟩
  have B3 := B2.trans (b3.mono B2.size)
  clear b3 B2
  go_wp2_with fail
  refine (told_in (add_c a b _ ha hb) rfl hg.1 hg.2).mono ?_
  rintro e w4 ⟨rfl, b4⟩
  have B4 := B3.trans (b4.mono B3.size)
  clear b4 B3
  go_wp2_with fail
  refine (muldiv_in (a + b) n c ((a + b) * n / c) ((a + b) * n % c) _ hg hn c1 c2 rfl rfl hh.1 hh.2).mono ?_
  rintro e w5 ⟨rfl, b5⟩
  have B5 := B4.trans (b5.mono B4.size)
  clear b5 B4
  go_wp2_with fail
  refine (told_out (add_c (a * n / c) (b * n / c) _ he hf) (by unfold I64 at hi; omega)).mono ?_
  rintro e w6 ⟨rfl, b6⟩
  have B6 := B5.trans (b6.mono B5.size)
  clear b6 B5
  go_wp2_with fail
  refine (head_c _).mono ?_
  rintro e w7 ⟨rfl, b7⟩
  have B7 := B6.trans (b7.mono B6.size)
  clear b7 B6
  go_wp2_with fail
  go_ret
  exact ⟨rfl, B7⟩
set_option maxRecDepth 100000 in
set_option maxHeartbeats 1600000 in
theorem parts_le_6 (a b n c : Int) (w : World) (ha : I64 a) (hb : I64 b) (hn : I64 n) (c1 : 1 ≤ c) (c2 : c < 9223372036854775808) (_hab : a < b) (_n0 : 0 ≤ n) (he : I64 (a * n / c)) (hf : I64 (b * n / c)) (_hxy : a * n / c ≤ b * n / c) (hg : I64 (a + b)) (hh : I64 ((a + b) * n / c)) (hz : a * n / c + b * n / c = (a + b) * n / c) :
    Calls Try.prog 13 #[.agg #[.int .i64 a, .int .i64 b, .int .i64 n, .int .i64 c]] w fun e w' => e = .returned (.bool true) ∧ Below w.heap.size w w' := by
  have HZ := Lib.hid hz
  clear hz
  go_enter Try.func13, Try.ntmps13
  go_wp2
  go_quiet (fail)
  have B0 := below_q (w := w) (.cells #[.int .i64 a, .int .i64 b, .int .i64 n, .int .i64 c] 60) nq
  go_wp2_with fail
  refine (muldiv_in a c c a 0 _ ha ⟨by omega, by omega⟩ c1 c2 (Int.mul_ediv_cancel _ (by omega)) (Int.mul_emod_left _ _) ha.1 ha.2).mono ?_
  rintro e w1 ⟨rfl, b1⟩
  have B1 := B0.trans (b1.mono (by simp))
  clear b1 B0
  go_wp2_with fail
  refine (muldiv_in a n c (a * n / c) (a * n % c) _ ha hn c1 c2 rfl rfl he.1 he.2).mono ?_
  rintro e w2 ⟨rfl, b2⟩
  have B2 := B1.trans (b2.mono B1.size)
  clear b2 B1
  go_wp2_with fail
  refine (muldiv_in b n c (b * n / c) (b * n % c) _ hb hn c1 c2 rfl rfl hf.1 hf.2).mono ?_
  rintro e w3 ⟨rfl, b3⟩
  have B3 := B2.trans (b3.mono B2.size)
  clear b3 B2
  go_wp2_with fail
  refine (told_in (add_c a b _ ha hb) rfl hg.1 hg.2).mono ?_
  rintro e w4 ⟨rfl, b4⟩
  have B4 := B3.trans (b4.mono B3.size)
  clear b4 B3
  go_wp2_with fail
  refine (muldiv_in (a + b) n c ((a + b) * n / c) ((a + b) * n % c) _ hg hn c1 c2 rfl rfl hh.1 hh.2).mono ?_
  rintro e w5 ⟨rfl, b5⟩
  have B5 := B4.trans (b5.mono B4.size)
  clear b5 B4
  go_wp2_with fail
  refine (told_in (add_c (a * n / c) (b * n / c) _ he hf) HZ.out hh.1 hh.2).mono ?_
  rintro e w6 ⟨rfl, b6⟩
  have B6 := B5.trans (b6.mono B5.size)
  clear b6 B5
  go_wp2_with fail
  refine (head_c _).mono ?_
  rintro e w7 ⟨rfl, b7⟩
  have B7 := B6.trans (b7.mono B6.size)
  clear b7 B6
  go_wp2_with fail
  go_ret
  exact ⟨rfl, B7⟩
set_option maxRecDepth 100000 in
set_option maxHeartbeats 1600000 in
theorem parts_le_7 (a b n c : Int) (w : World) (ha : I64 a) (hb : I64 b) (hn : I64 n) (c1 : 1 ≤ c) (c2 : c < 9223372036854775808) (_hab : a < b) (_n0 : 0 ≤ n) (he : I64 (a * n / c)) (hf : I64 (b * n / c)) (_hxy : a * n / c ≤ b * n / c) (hg : I64 (a + b)) (hh : I64 ((a + b) * n / c)) (hz : a * n / c + b * n / c = (a + b) * n / c - 1) (hi : I64 ((a + b) * n / c - 1)) :
    Calls Try.prog 13 #[.agg #[.int .i64 a, .int .i64 b, .int .i64 n, .int .i64 c]] w fun e w' => e = .returned (.bool true) ∧ Below w.heap.size w w' := by
  have HZ := Lib.hid hz
  have i1 := hi.1
  have i2 := hi.2
  have ne : (((a + b) * n / c - 1 : Int) == (a + b) * n / c) = false := beq_eq_false_iff_ne.2 (by omega)
  clear hz
  go_enter Try.func13, Try.ntmps13
  go_wp2
  go_quiet (fail)
  have B0 := below_q (w := w) (.cells #[.int .i64 a, .int .i64 b, .int .i64 n, .int .i64 c] 60) nq
  go_wp2_with fail
  refine (muldiv_in a c c a 0 _ ha ⟨by omega, by omega⟩ c1 c2 (Int.mul_ediv_cancel _ (by omega)) (Int.mul_emod_left _ _) ha.1 ha.2).mono ?_
  rintro e w1 ⟨rfl, b1⟩
  have B1 := B0.trans (b1.mono (by simp))
  clear b1 B0
  go_wp2_with fail
  refine (muldiv_in a n c (a * n / c) (a * n % c) _ ha hn c1 c2 rfl rfl he.1 he.2).mono ?_
  rintro e w2 ⟨rfl, b2⟩
  have B2 := B1.trans (b2.mono B1.size)
  clear b2 B1
  go_wp2_with fail
  refine (muldiv_in b n c (b * n / c) (b * n % c) _ hb hn c1 c2 rfl rfl hf.1 hf.2).mono ?_
  rintro e w3 ⟨rfl, b3⟩
  have B3 := B2.trans (b3.mono B2.size)
  clear b3 B2
  go_wp2_with fail
  refine (told_in (add_c a b _ ha hb) rfl hg.1 hg.2).mono ?_
  rintro e w4 ⟨rfl, b4⟩
  have B4 := B3.trans (b4.mono B3.size)
  clear b4 B3
  go_wp2_with fail
  refine (muldiv_in (a + b) n c ((a + b) * n / c) ((a + b) * n % c) _ hg hn c1 c2 rfl rfl hh.1 hh.2).mono ?_
  rintro e w5 ⟨rfl, b5⟩
  have B5 := B4.trans (b5.mono B4.size)
  clear b5 B4
  go_wp2_with fail
  refine (told_in (add_c (a * n / c) (b * n / c) _ he hf) HZ.out hi.1 hi.2).mono ?_
  rintro e w6 ⟨rfl, b6⟩
  have B6 := B5.trans (b6.mono B5.size)
  clear b6 B5
  go_wp2_with fail
  refine (head_c _).mono ?_
  rintro e w7 ⟨rfl, b7⟩
  have B7 := B6.trans (b7.mono B6.size)
  clear b7 B6
  go_wp2_with fail
  go_ret
  exact ⟨rfl, B7⟩
set_option maxRecDepth 100000 in
set_option maxHeartbeats 1600000 in
theorem parts_le_8 (a b n c : Int) (w : World) (ha : I64 a) (hb : I64 b) (_hn : I64 n) (c1 : 1 ≤ c) (c2 : c < 9223372036854775808) (_hab : a < b) (_n0 : n < 0) (hg : I64 (a + b)) :
    Calls Try.prog 13 #[.agg #[.int .i64 a, .int .i64 b, .int .i64 n, .int .i64 c]] w fun e w' => e = .returned (.bool true) ∧ Below w.heap.size w w' := by
  go_enter Try.func13, Try.ntmps13
  go_wp2
  go_quiet (fail)
  have B0 := below_q (w := w) (.cells #[.int .i64 a, .int .i64 b, .int .i64 n, .int .i64 c] 60) nq
  go_wp2_with fail
  refine (muldiv_in a c c a 0 _ ha ⟨by omega, by omega⟩ c1 c2 (Int.mul_ediv_cancel _ (by omega)) (Int.mul_emod_left _ _) ha.1 ha.2).mono ?_
  rintro e w1 ⟨rfl, b1⟩
  have B1 := B0.trans (b1.mono (by simp))
  clear b1 B0
  go_wp2_with fail
  refine (muldiv_in a 0 c 0 0 _ ha zero_i64 c1 c2 (by simp) (by simp) (by omega) (by omega)).mono ?_
  rintro e w2 ⟨rfl, b2⟩
  have B2 := B1.trans (b2.mono B1.size)
  clear b2 B1
  go_wp2_with fail
  refine (muldiv_in b 0 c 0 0 _ hb zero_i64 c1 c2 (by simp) (by simp) (by omega) (by omega)).mono ?_
  rintro e w3 ⟨rfl, b3⟩
  have B3 := B2.trans (b3.mono B2.size)
  clear b3 B2
  go_wp2_with fail
  refine (told_in (add_c a b _ ha hb) rfl hg.1 hg.2).mono ?_
  rintro e w4 ⟨rfl, b4⟩
  have B4 := B3.trans (b4.mono B3.size)
  clear b4 B3
  go_wp2_with fail
  refine (muldiv_in (a + b) 0 c 0 0 _ hg zero_i64 c1 c2 (by simp) (by simp) (by omega) (by omega)).mono ?_
  rintro e w5 ⟨rfl, b5⟩
  have B5 := B4.trans (b5.mono B4.size)
  clear b5 B4
  go_wp2_with fail
  refine (told_in (add_c 0 0 _ zero_i64 zero_i64) (m := 0) (by omega) (by omega) (by omega)).mono ?_
  rintro e w6 ⟨rfl, b6⟩
  have B6 := B5.trans (b6.mono B5.size)
  clear b6 B5
  go_wp2_with fail
  refine (head_c _).mono ?_
  rintro e w7 ⟨rfl, b7⟩
  have B7 := B6.trans (b7.mono B6.size)
  clear b7 B6
  go_wp2_with fail
  go_ret
  exact ⟨rfl, B7⟩
set_option maxRecDepth 100000 in
set_option maxHeartbeats 1600000 in
theorem parts_le_9 (a b n c : Int) (w : World) (ha : I64 a) (hb : I64 b) (_hn : I64 n) (c1 : 1 ≤ c) (c2 : c < 9223372036854775808) (_hab : a < b) (_n0 : n < 0) (hg : ¬ I64 (a + b)) :
    Calls Try.prog 13 #[.agg #[.int .i64 a, .int .i64 b, .int .i64 n, .int .i64 c]] w fun e w' => e = .returned (.bool true) ∧ Below w.heap.size w w' := by
  go_enter Try.func13, Try.ntmps13
  go_wp2
  go_quiet (fail)
  have B0 := below_q (w := w) (.cells #[.int .i64 a, .int .i64 b, .int .i64 n, .int .i64 c] 60) nq
  go_wp2_with fail
  refine (muldiv_in a c c a 0 _ ha ⟨by omega, by omega⟩ c1 c2 (Int.mul_ediv_cancel _ (by omega)) (Int.mul_emod_left _ _) ha.1 ha.2).mono ?_
  rintro e w1 ⟨rfl, b1⟩
  have B1 := B0.trans (b1.mono (by simp))
  clear b1 B0
  go_wp2_with fail
  refine (muldiv_in a 0 c 0 0 _ ha zero_i64 c1 c2 (by simp) (by simp) (by omega) (by omega)).mono ?_
  rintro e w2 ⟨rfl, b2⟩
  have B2 := B1.trans (b2.mono B1.size)
  clear b2 B1
  go_wp2_with fail
  refine (muldiv_in b 0 c 0 0 _ hb zero_i64 c1 c2 (by simp) (by simp) (by omega) (by omega)).mono ?_
  rintro e w3 ⟨rfl, b3⟩
  have B3 := B2.trans (b3.mono B2.size)
  clear b3 B2
  go_wp2_with fail
  refine (told_out (add_c a b _ ha hb) (by unfold I64 at hg; omega)).mono ?_
  rintro e w4 ⟨rfl, b4⟩
  have B4 := B3.trans (b4.mono B3.size)
  clear b4 B3
  go_wp2_with fail
  refine (muldiv_in 0 0 c 0 0 _ zero_i64 zero_i64 c1 c2 (by simp) (by simp) (by omega) (by omega)).mono ?_
  rintro e w5 ⟨rfl, b5⟩
  have B5 := B4.trans (b5.mono B4.size)
  clear b5 B4
  go_wp2_with fail
  refine (told_in (add_c 0 0 _ zero_i64 zero_i64) (m := 0) (by omega) (by omega) (by omega)).mono ?_
  rintro e w6 ⟨rfl, b6⟩
  have B6 := B5.trans (b6.mono B5.size)
  clear b6 B5
  go_wp2_with fail
  refine (head_c _).mono ?_
  rintro e w7 ⟨rfl, b7⟩
  have B7 := B6.trans (b7.mono B6.size)
  clear b7 B6
  go_wp2_with fail
  go_ret
  exact ⟨rfl, B7⟩
set_option maxRecDepth 100000 in
set_option maxHeartbeats 1600000 in
theorem parts_eq_1 (a n c : Int) (w : World) (ha : I64 a) (hn : I64 n) (c1 : 1 ≤ c) (c2 : c < 9223372036854775808) (_n0 : 0 ≤ n) (he : ¬ I64 (a * n / c)) :
    Calls Try.prog 13 #[.agg #[.int .i64 a, .int .i64 a, .int .i64 n, .int .i64 c]] w fun e w' => e = .returned (.bool true) ∧ Below w.heap.size w w' := by
  go_enter Try.func13, Try.ntmps13
  go_wp2
  go_quiet (fail)
  have B0 := below_q (w := w) (.cells #[.int .i64 a, .int .i64 a, .int .i64 n, .int .i64 c] 60) nq
  go_wp2_with fail
  refine (muldiv_in a c c a 0 _ ha ⟨by omega, by omega⟩ c1 c2 (Int.mul_ediv_cancel _ (by omega)) (Int.mul_emod_left _ _) ha.1 ha.2).mono ?_
  rintro e w1 ⟨rfl, b1⟩
  have B1 := B0.trans (b1.mono (by simp))
  clear b1 B0
  go_wp2_with fail
  refine (muldiv_out a n c _ ha hn c1 c2 (by unfold I64 at he; omega)).mono ?_
  rintro e w2 ⟨rfl, b2⟩
  have B2 := B1.trans (b2.mono B1.size)
  clear b2 B1
  go_wp2_with fail
  refine (muldiv_told a n c _ _ ha hn c1 c2 rfl).mono ?_
  rintro e w3 ⟨rfl, b3⟩
  have B3 := B2.trans (b3.mono B2.size)
  clear b3 B2
  go_wp2_with fail
  refine (add_c a a _ ha ha).mono ?_
  rintro e w4 ⟨rfl, b4⟩
  have B4 := B3.trans (b4.mono B3.size)
  clear b4 B3
  go_wp2_with fail
  refine (muldiv_told (Ar.val (a + a)) n c _ _ (val_i64 _) hn c1 c2 rfl).mono ?_
  rintro e w5 ⟨rfl, b5⟩
  have B5 := B4.trans (b5.mono B4.size)
  clear b5 B4
  go_wp2_with fail
  refine (add_c 0 (Ar.val (a * n / c)) _ zero_i64 (val_i64 _)).mono ?_
  rintro e w6 ⟨rfl, b6⟩
  have B6 := B5.trans (b6.mono B5.size)
  clear b6 B5
  go_wp2_with fail
  refine (head_c _).mono ?_
  rintro e w7 ⟨rfl, b7⟩
  have B7 := B6.trans (b7.mono B6.size)
  clear b7 B6
  go_wp2_with fail
  go_ret
  exact ⟨rfl, B7⟩
set_option maxRecDepth 100000 in
set_option maxHeartbeats 1600000 in
theorem parts_eq_3 (a n c : Int) (w : World) (ha : I64 a) (hn : I64 n) (c1 : 1 ≤ c) (c2 : c < 9223372036854775808) (_n0 : 0 ≤ n) (he : I64 (a * n / c)) (hf : I64 (a * n / c)) (_hxy : a * n / c ≤ a * n / c) (hg : ¬ I64 (a + a)) :
    Calls Try.prog 13 #[.agg #[.int .i64 a, .int .i64 a, .int .i64 n, .int .i64 c]] w fun e w' => e = .returned (.bool true) ∧ Below w.heap.size w w' := by
  go_enter Try.func13, Try.ntmps13
  go_wp2
  go_quiet (fail)
  have B0 := below_q (w := w) (.cells #[.int .i64 a, .int .i64 a, .int .i64 n, .int .i64 c] 60) nq
  go_wp2_with fail
  refine (muldiv_in a c c a 0 _ ha ⟨by omega, by omega⟩ c1 c2 (Int.mul_ediv_cancel _ (by omega)) (Int.mul_emod_left _ _) ha.1 ha.2).mono ?_
  rintro e w1 ⟨rfl, b1⟩
  have B1 := B0.trans (b1.mono (by simp))
  clear b1 B0
  go_wp2_with fail
  refine (muldiv_in a n c (a * n / c) (a * n % c) _ ha hn c1 c2 rfl rfl he.1 he.2).mono ?_
  rintro e w2 ⟨rfl, b2⟩
  have B2 := B1.trans (b2.mono B1.size)
  clear b2 B1
  go_wp2_with fail
  refine (muldiv_in a n c (a * n / c) (a * n % c) _ ha hn c1 c2 rfl rfl hf.1 hf.2).mono ?_
  rintro e w3 ⟨rfl, b3⟩
  have B3 := B2.trans (b3.mono B2.size)
  clear b3 B2
  go_wp2_with fail
  refine (told_out (add_c a a _ ha ha) (by unfold I64 at hg; omega)).mono ?_
  rintro e w4 ⟨rfl, b4⟩
  have B4 := B3.trans (b4.mono B3.size)
  clear b4 B3
  go_wp2_with fail
  refine (muldiv_told 0 n c _ _ zero_i64 hn c1 c2 rfl).mono ?_
  rintro e w5 ⟨rfl, b5⟩
  have B5 := B4.trans (b5.mono B4.size)
  clear b5 B4
  go_wp2_with fail
  refine (add_c (a * n / c) (a * n / c) _ he hf).mono ?_
  rintro e w6 ⟨rfl, b6⟩
  have B6 := B5.trans (b6.mono B5.size)
  clear b6 B5
  go_wp2_with fail
  refine (head_c _).mono ?_
  rintro e w7 ⟨rfl, b7⟩
  have B7 := B6.trans (b7.mono B6.size)
  clear b7 B6
  go_wp2_with fail
  go_ret
  exact ⟨rfl, B7⟩
set_option maxRecDepth 100000 in
set_option maxHeartbeats 1600000 in
theorem parts_eq_4 (a n c : Int) (w : World) (ha : I64 a) (hn : I64 n) (c1 : 1 ≤ c) (c2 : c < 9223372036854775808) (_n0 : 0 ≤ n) (he : I64 (a * n / c)) (hf : I64 (a * n / c)) (_hxy : a * n / c ≤ a * n / c) (hg : I64 (a + a)) (hh : ¬ I64 ((a + a) * n / c)) :
    Calls Try.prog 13 #[.agg #[.int .i64 a, .int .i64 a, .int .i64 n, .int .i64 c]] w fun e w' => e = .returned (.bool true) ∧ Below w.heap.size w w' := by
  go_enter Try.func13, Try.ntmps13
  go_wp2
  go_quiet (fail)
  have B0 := below_q (w := w) (.cells #[.int .i64 a, .int .i64 a, .int .i64 n, .int .i64 c] 60) nq
  go_wp2_with fail
  refine (muldiv_in a c c a 0 _ ha ⟨by omega, by omega⟩ c1 c2 (Int.mul_ediv_cancel _ (by omega)) (Int.mul_emod_left _ _) ha.1 ha.2).mono ?_
  rintro e w1 ⟨rfl, b1⟩
  have B1 := B0.trans (b1.mono (by simp))
  clear b1 B0
  go_wp2_with fail
  refine (muldiv_in a n c (a * n / c) (a * n % c) _ ha hn c1 c2 rfl rfl he.1 he.2).mono ?_
  rintro e w2 ⟨rfl, b2⟩
  have B2 := B1.trans (b2.mono B1.size)
  clear b2 B1
  go_wp2_with fail
  refine (muldiv_in a n c (a * n / c) (a * n % c) _ ha hn c1 c2 rfl rfl hf.1 hf.2).mono ?_
  rintro e w3 ⟨rfl, b3⟩
  have B3 := B2.trans (b3.mono B2.size)
  clear b3 B2
  go_wp2_with fail
  refine (told_in (add_c a a _ ha ha) rfl hg.1 hg.2).mono ?_
  rintro e w4 ⟨rfl, b4⟩
  have B4 := B3.trans (b4.mono B3.size)
  clear b4 B3
  go_wp2_with fail
  refine (muldiv_out (a + a) n c _ hg hn c1 c2 (by unfold I64 at hh; omega)).mono ?_
  rintro e w5 ⟨rfl, b5⟩
  have B5 := B4.trans (b5.mono B4.size)
  clear b5 B4
  go_wp2_with fail
  refine (add_c (a * n / c) (a * n / c) _ he hf).mono ?_
  rintro e w6 ⟨rfl, b6⟩
  have B6 := B5.trans (b6.mono B5.size)
  clear b6 B5
  go_wp2_with fail
  refine (head_c _).mono ?_
  rintro e w7 ⟨rfl, b7⟩
  have B7 := B6.trans (b7.mono B6.size)
  clear b7 B6
  go_wp2_with fail
  go_ret
  exact ⟨rfl, B7⟩
set_option maxRecDepth 100000 in
set_option maxHeartbeats 1600000 in
theorem parts_eq_5 (a n c : Int) (w : World) (ha : I64 a) (hn : I64 n) (c1 : 1 ≤ c) (c2 : c < 9223372036854775808) (_n0 : 0 ≤ n) (he : I64 (a * n / c)) (hf : I64 (a * n / c)) (_hxy : a * n / c ≤ a * n / c) (hg : I64 (a + a)) (hh : I64 ((a + a) * n / c)) (hi : ¬ I64 (a * n / c + a * n / c)) :
    Calls Try.prog 13 #[.agg #[.int .i64 a, .int .i64 a, .int .i64 n, .int .i64 c]] w fun e w' => e = .returned (.bool true) ∧ Below w.heap.size w w' := by
  go_enter Try.func13, Try.ntmps13
  go_wp2
  go_quiet (fail)
  have B0 := below_q (w := w) (.cells #[.int .i64 a, .int .i64 a, .int .i64 n, .int .i64 c] 60) nq
  go_wp2_with fail
  refine (muldiv_in a c c a 0 _ ha ⟨by omega, by omega⟩ c1 c2 (Int.mul_ediv_cancel _ (by omega)) (Int.mul_emod_left _ _) ha.1 ha.2).mono ?_
  rintro e w1 ⟨rfl, b1⟩
  have B1 := B0.trans (b1.mono (by simp))
  clear b1 B0
  go_wp2_with fail
  refine (muldiv_in a n c (a * n / c) (a * n % c) _ ha hn c1 c2 rfl rfl he.1 he.2).mono ?_
  rintro e w2 ⟨rfl, b2⟩
  have B2 := B1.trans (b2.mono B1.size)
  clear b2 B1
  go_wp2_with fail
  refine (muldiv_in a n c (a * n / c) (a * n % c) _ ha hn c1 c2 rfl rfl hf.1 hf.2).mono ?_
  rintro e w3 ⟨rfl, b3⟩
  have B3 := B2.trans (b3.mono B2.size)
  clear b3 B2
  go_wp2_with fail
  refine (told_in (add_c a a _ ha ha) rfl hg.1 hg.2).mono ?_
  rintro e w4 ⟨rfl, b4⟩
  have B4 := B3.trans (b4.mono B3.size)
  clear b4 B3
  go_wp2_with fail
  refine (muldiv_in (a + a) n c ((a + a) * n / c) ((a + a) * n % c) _ hg hn c1 c2 rfl rfl hh.1 hh.2).mono ?_
  rintro e w5 ⟨rfl, b5⟩
  have B5 := B4.trans (b5.mono B4.size)
  clear b5 B4
  go_wp2_with fail
  refine (told_out (add_c (a * n / c) (a * n / c) _ he hf) (by unfold I64 at hi; omega)).mono ?_
  rintro e w6 ⟨rfl, b6⟩
  have B6 := B5.trans (b6.mono B5.size)
  clear b6 B5
  go_wp2_with fail
  refine (head_c _).mono ?_
  rintro e w7 ⟨rfl, b7⟩
  have B7 := B6.trans (b7.mono B6.size)
  clear b7 B6
  go_wp2_with fail
  go_ret
  exact ⟨rfl, B7⟩
set_option maxRecDepth 100000 in
set_option maxHeartbeats 1600000 in
theorem parts_eq_6 (a n c : Int) (w : World) (ha : I64 a) (hn : I64 n) (c1 : 1 ≤ c) (c2 : c < 9223372036854775808) (_n0 : 0 ≤ n) (he : I64 (a * n / c)) (hf : I64 (a * n / c)) (_hxy : a * n / c ≤ a * n / c) (hg : I64 (a + a)) (hh : I64 ((a + a) * n / c)) (hz : a * n / c + a * n / c = (a + a) * n / c) :
    Calls Try.prog 13 #[.agg #[.int .i64 a, .int .i64 a, .int .i64 n, .int .i64 c]] w fun e w' => e = .returned (.bool true) ∧ Below w.heap.size w w' := by
  have HZ := Lib.hid hz
  clear hz
  go_enter Try.func13, Try.ntmps13
  go_wp2
  go_quiet (fail)
  have B0 := below_q (w := w) (.cells #[.int .i64 a, .int .i64 a, .int .i64 n, .int .i64 c] 60) nq
  go_wp2_with fail
  refine (muldiv_in a c c a 0 _ ha ⟨by omega, by omega⟩ c1 c2 (Int.mul_ediv_cancel _ (by omega)) (Int.mul_emod_left _ _) ha.1 ha.2).mono ?_
  rintro e w1 ⟨rfl, b1⟩
  have B1 := B0.trans (b1.mono (by simp))
  clear b1 B0
  go_wp2_with fail
  refine (muldiv_in a n c (a * n / c) (a * n % c) _ ha hn c1 c2 rfl rfl he.1 he.2).mono ?_
  rintro e w2 ⟨rfl, b2⟩
  have B2 := B1.trans (b2.mono B1.size)
  clear b2 B1
  go_wp2_with fail
  refine (muldiv_in a n c (a * n / c) (a * n % c) _ ha hn c1 c2 rfl rfl hf.1 hf.2).mono ?_
  rintro e w3 ⟨rfl, b3⟩
  have B3 := B2.trans (b3.mono B2.size)
  clear b3 B2
  go_wp2_with fail
  refine (told_in (add_c a a _ ha ha) rfl hg.1 hg.2).mono ?_
  rintro e w4 ⟨rfl, b4⟩
  have B4 := B3.trans (b4.mono B3.size)
  clear b4 B3
  go_wp2_with fail
  refine (muldiv_in (a + a) n c ((a + a) * n / c) ((a + a) * n % c) _ hg hn c1 c2 rfl rfl hh.1 hh.2).mono ?_
  rintro e w5 ⟨rfl, b5⟩
  have B5 := B4.trans (b5.mono B4.size)
  clear b5 B4
  go_wp2_with fail
  refine (told_in (add_c (a * n / c) (a * n / c) _ he hf) HZ.out hh.1 hh.2).mono ?_
  rintro e w6 ⟨rfl, b6⟩
  have B6 := B5.trans (b6.mono B5.size)
  clear b6 B5
  go_wp2_with fail
  refine (head_c _).mono ?_
  rintro e w7 ⟨rfl, b7⟩
  have B7 := B6.trans (b7.mono B6.size)
  clear b7 B6
  go_wp2_with fail
  go_ret
  exact ⟨rfl, B7⟩
set_option maxRecDepth 100000 in
set_option maxHeartbeats 1600000 in
theorem parts_eq_7 (a n c : Int) (w : World) (ha : I64 a) (hn : I64 n) (c1 : 1 ≤ c) (c2 : c < 9223372036854775808) (_n0 : 0 ≤ n) (he : I64 (a * n / c)) (hf : I64 (a * n / c)) (_hxy : a * n / c ≤ a * n / c) (hg : I64 (a + a)) (hh : I64 ((a + a) * n / c)) (hz : a * n / c + a * n / c = (a + a) * n / c - 1) (hi : I64 ((a + a) * n / c - 1)) :
    Calls Try.prog 13 #[.agg #[.int .i64 a, .int .i64 a, .int .i64 n, .int .i64 c]] w fun e w' => e = .returned (.bool true) ∧ Below w.heap.size w w' := by
  have HZ := Lib.hid hz
  have i1 := hi.1
  have i2 := hi.2
  have ne : (((a + a) * n / c - 1 : Int) == (a + a) * n / c) = false := beq_eq_false_iff_ne.2 (by omega)
  clear hz
  go_enter Try.func13, Try.ntmps13
  go_wp2
  go_quiet (fail)
  have B0 := below_q (w := w) (.cells #[.int .i64 a, .int .i64 a, .int .i64 n, .int .i64 c] 60) nq
  go_wp2_with fail
  refine (muldiv_in a c c a 0 _ ha ⟨by omega, by omega⟩ c1 c2 (Int.mul_ediv_cancel _ (by omega)) (Int.mul_emod_left _ _) ha.1 ha.2).mono ?_
  rintro e w1 ⟨rfl, b1⟩
  have B1 := B0.trans (b1.mono (by simp))
  clear b1 B0
  go_wp2_with fail
  refine (muldiv_in a n c (a * n / c) (a * n % c) _ ha hn c1 c2 rfl rfl he.1 he.2).mono ?_
  rintro e w2 ⟨rfl, b2⟩
  have B2 := B1.trans (b2.mono B1.size)
  clear b2 B1
  go_wp2_with fail
  refine (muldiv_in a n c (a * n / c) (a * n % c) _ ha hn c1 c2 rfl rfl hf.1 hf.2).mono ?_
  rintro e w3 ⟨rfl, b3⟩
  have B3 := B2.trans (b3.mono B2.size)
  clear b3 B2
  go_wp2_with fail
  refine (told_in (add_c a a _ ha ha) rfl hg.1 hg.2).mono ?_
  rintro e w4 ⟨rfl, b4⟩
  have B4 := B3.trans (b4.mono B3.size)
  clear b4 B3
  go_wp2_with fail
  refine (muldiv_in (a + a) n c ((a + a) * n / c) ((a + a) * n % c) _ hg hn c1 c2 rfl rfl hh.1 hh.2).mono ?_
  rintro e w5 ⟨rfl, b5⟩
  have B5 := B4.trans (b5.mono B4.size)
  clear b5 B4
  go_wp2_with fail
  refine (told_in (add_c (a * n / c) (a * n / c) _ he hf) HZ.out hi.1 hi.2).mono ?_
  rintro e w6 ⟨rfl, b6⟩
  have B6 := B5.trans (b6.mono B5.size)
  clear b6 B5
  go_wp2_with fail
  refine (head_c _).mono ?_
  rintro e w7 ⟨rfl, b7⟩
  have B7 := B6.trans (b7.mono B6.size)
  clear b7 B6
  go_wp2_with fail
  go_ret
  exact ⟨rfl, B7⟩
set_option maxRecDepth 100000 in
set_option maxHeartbeats 1600000 in
theorem parts_eq_8 (a n c : Int) (w : World) (ha : I64 a) (_hn : I64 n) (c1 : 1 ≤ c) (c2 : c < 9223372036854775808) (_n0 : n < 0) (hg : I64 (a + a)) :
    Calls Try.prog 13 #[.agg #[.int .i64 a, .int .i64 a, .int .i64 n, .int .i64 c]] w fun e w' => e = .returned (.bool true) ∧ Below w.heap.size w w' := by
  go_enter Try.func13, Try.ntmps13
  go_wp2
  go_quiet (fail)
  have B0 := below_q (w := w) (.cells #[.int .i64 a, .int .i64 a, .int .i64 n, .int .i64 c] 60) nq
  go_wp2_with fail
  refine (muldiv_in a c c a 0 _ ha ⟨by omega, by omega⟩ c1 c2 (Int.mul_ediv_cancel _ (by omega)) (Int.mul_emod_left _ _) ha.1 ha.2).mono ?_
  rintro e w1 ⟨rfl, b1⟩
  have B1 := B0.trans (b1.mono (by simp))
  clear b1 B0
  go_wp2_with fail
  refine (muldiv_in a 0 c 0 0 _ ha zero_i64 c1 c2 (by simp) (by simp) (by omega) (by omega)).mono ?_
  rintro e w2 ⟨rfl, b2⟩
  have B2 := B1.trans (b2.mono B1.size)
  clear b2 B1
  go_wp2_with fail
  refine (muldiv_in a 0 c 0 0 _ ha zero_i64 c1 c2 (by simp) (by simp) (by omega) (by omega)).mono ?_
  rintro e w3 ⟨rfl, b3⟩
  have B3 := B2.trans (b3.mono B2.size)
  clear b3 B2
  go_wp2_with fail
  refine (told_in (add_c a a _ ha ha) rfl hg.1 hg.2).mono ?_
  rintro e w4 ⟨rfl, b4⟩
  have B4 := B3.trans (b4.mono B3.size)
  clear b4 B3
  go_wp2_with fail
  refine (muldiv_in (a + a) 0 c 0 0 _ hg zero_i64 c1 c2 (by simp) (by simp) (by omega) (by omega)).mono ?_
  rintro e w5 ⟨rfl, b5⟩
  have B5 := B4.trans (b5.mono B4.size)
  clear b5 B4
  go_wp2_with fail
  refine (told_in (add_c 0 0 _ zero_i64 zero_i64) (m := 0) (by omega) (by omega) (by omega)).mono ?_
  rintro e w6 ⟨rfl, b6⟩
  have B6 := B5.trans (b6.mono B5.size)
  clear b6 B5
  go_wp2_with fail
  refine (head_c _).mono ?_
  rintro e w7 ⟨rfl, b7⟩
  have B7 := B6.trans (b7.mono B6.size)
  clear b7 B6
  go_wp2_with fail
  go_ret
  exact ⟨rfl, B7⟩
set_option maxRecDepth 100000 in
set_option maxHeartbeats 1600000 in
theorem parts_eq_9 (a n c : Int) (w : World) (ha : I64 a) (_hn : I64 n) (c1 : 1 ≤ c) (c2 : c < 9223372036854775808) (_n0 : n < 0) (hg : ¬ I64 (a + a)) :
    Calls Try.prog 13 #[.agg #[.int .i64 a, .int .i64 a, .int .i64 n, .int .i64 c]] w fun e w' => e = .returned (.bool true) ∧ Below w.heap.size w w' := by
  go_enter Try.func13, Try.ntmps13
  go_wp2
  go_quiet (fail)
  have B0 := below_q (w := w) (.cells #[.int .i64 a, .int .i64 a, .int .i64 n, .int .i64 c] 60) nq
  go_wp2_with fail
  refine (muldiv_in a c c a 0 _ ha ⟨by omega, by omega⟩ c1 c2 (Int.mul_ediv_cancel _ (by omega)) (Int.mul_emod_left _ _) ha.1 ha.2).mono ?_
  rintro e w1 ⟨rfl, b1⟩
  have B1 := B0.trans (b1.mono (by simp))
  clear b1 B0
  go_wp2_with fail
  refine (muldiv_in a 0 c 0 0 _ ha zero_i64 c1 c2 (by simp) (by simp) (by omega) (by omega)).mono ?_
  rintro e w2 ⟨rfl, b2⟩
  have B2 := B1.trans (b2.mono B1.size)
  clear b2 B1
  go_wp2_with fail
  refine (muldiv_in a 0 c 0 0 _ ha zero_i64 c1 c2 (by simp) (by simp) (by omega) (by omega)).mono ?_
  rintro e w3 ⟨rfl, b3⟩
  have B3 := B2.trans (b3.mono B2.size)
  clear b3 B2
  go_wp2_with fail
  refine (told_out (add_c a a _ ha ha) (by unfold I64 at hg; omega)).mono ?_
  rintro e w4 ⟨rfl, b4⟩
  have B4 := B3.trans (b4.mono B3.size)
  clear b4 B3
  go_wp2_with fail
  refine (muldiv_in 0 0 c 0 0 _ zero_i64 zero_i64 c1 c2 (by simp) (by simp) (by omega) (by omega)).mono ?_
  rintro e w5 ⟨rfl, b5⟩
  have B5 := B4.trans (b5.mono B4.size)
  clear b5 B4
  go_wp2_with fail
  refine (told_in (add_c 0 0 _ zero_i64 zero_i64) (m := 0) (by omega) (by omega) (by omega)).mono ?_
  rintro e w6 ⟨rfl, b6⟩
  have B6 := B5.trans (b6.mono B5.size)
  clear b6 B5
  go_wp2_with fail
  refine (head_c _).mono ?_
  rintro e w7 ⟨rfl, b7⟩
  have B7 := B6.trans (b7.mono B6.size)
  clear b7 B6
  go_wp2_with fail
  go_ret
  exact ⟨rfl, B7⟩
set_option maxRecDepth 100000 in
set_option maxHeartbeats 1600000 in
theorem parts_gt_1 (a b n c : Int) (w : World) (ha : I64 a) (hb : I64 b) (hn : I64 n) (c1 : 1 ≤ c) (c2 : c < 9223372036854775808) (_hab : b < a) (_n0 : 0 ≤ n) (he : ¬ I64 (b * n / c)) :
    Calls Try.prog 13 #[.agg #[.int .i64 a, .int .i64 b, .int .i64 n, .int .i64 c]] w fun e w' => e = .returned (.bool true) ∧ Below w.heap.size w w' := by
  go_enter Try.func13, Try.ntmps13
  go_wp2
  go_quiet (fail)
  have B0 := below_q (w := w) (.cells #[.int .i64 a, .int .i64 b, .int .i64 n, .int .i64 c] 60) nq
  go_wp2_with fail
  refine (muldiv_in a c c a 0 _ ha ⟨by omega, by omega⟩ c1 c2 (Int.mul_ediv_cancel _ (by omega)) (Int.mul_emod_left _ _) ha.1 ha.2).mono ?_
  rintro e w1 ⟨rfl, b1⟩
  have B1 := B0.trans (b1.mono (by simp))
  clear b1 B0
  go_wp2_with fail
  refine (muldiv_out b n c _ hb hn c1 c2 (by unfold I64 at he; omega)).mono ?_
  rintro e w2 ⟨rfl, b2⟩
  have B2 := B1.trans (b2.mono B1.size)
  clear b2 B1
  go_wp2_with fail
  refine (muldiv_told a n c _ _ ha hn c1 c2 rfl).mono ?_
  rintro e w3 ⟨rfl, b3⟩
  have B3 := B2.trans (b3.mono B2.size)
  clear b3 B2
  go_wp2_with fail
  refine (add_c a b _ ha hb).mono ?_
  rintro e w4 ⟨rfl, b4⟩
  have B4 := B3.trans (b4.mono B3.size)
  clear b4 B3
  go_wp2_with fail
  refine (muldiv_told (Ar.val (a + b)) n c _ _ (val_i64 _) hn c1 c2 rfl).mono ?_
  rintro e w5 ⟨rfl, b5⟩
  have B5 := B4.trans (b5.mono B4.size)
  clear b5 B4
  go_wp2_with fail
  refine (add_c 0 (Ar.val (a * n / c)) _ zero_i64 (val_i64 _)).mono ?_
  rintro e w6 ⟨rfl, b6⟩
  have B6 := B5.trans (b6.mono B5.size)
  clear b6 B5
  go_wp2_with fail
  refine (head_c _).mono ?_
  rintro e w7 ⟨rfl, b7⟩
  have B7 := B6.trans (b7.mono B6.size)
  clear b7 B6
  go_wp2_with fail
  go_ret
  exact ⟨rfl, B7⟩
set_option maxRecDepth 100000 in
set_option maxHeartbeats 1600000 in
theorem parts_gt_2 (a b n c : Int) (w : World) (ha : I64 a) (hb : I64 b) (hn : I64 n) (c1 : 1 ≤ c) (c2 : c < 9223372036854775808) (_hab : b < a) (_n0 : 0 ≤ n) (he : I64 (b * n / c)) (hf : ¬ I64 (a * n / c)) :
    Calls Try.prog 13 #[.agg #[.int .i64 a, .int .i64 b, .int .i64 n, .int .i64 c]] w fun e w' => e = .returned (.bool true) ∧ Below w.heap.size w w' := by
  go_enter Try.func13, Try.ntmps13
  go_wp2
  go_quiet (fail)
  have B0 := below_q (w := w) (.cells #[.int .i64 a, .int .i64 b, .int .i64 n, .int .i64 c] 60) nq
  go_wp2_with fail
  refine (muldiv_in a c c a 0 _ ha ⟨by omega, by omega⟩ c1 c2 (Int.mul_ediv_cancel _ (by omega)) (Int.mul_emod_left _ _) ha.1 ha.2).mono ?_
  rintro e w1 ⟨rfl, b1⟩
  have B1 := B0.trans (b1.mono (by simp))
  clear b1 B0
  go_wp2_with fail
  refine (muldiv_in b n c (b * n / c) (b * n % c) _ hb hn c1 c2 rfl rfl he.1 he.2).mono ?_
  rintro e w2 ⟨rfl, b2⟩
  have B2 := B1.trans (b2.mono B1.size)
  clear b2 B1
  go_wp2_with fail
  refine (muldiv_out a n c _ ha hn c1 c2 (by unfold I64 at hf; omega)).mono ?_
  rintro e w3 ⟨rfl, b3⟩
  have B3 := B2.trans (b3.mono B2.size)
  clear b3 B2
  go_wp2_with fail
  refine (add_c a b _ ha hb).mono ?_
  rintro e w4 ⟨rfl, b4⟩
  have B4 := B3.trans (b4.mono B3.size)
  clear b4 B3
  go_wp2_with fail
  refine (muldiv_told (Ar.val (a + b)) n c _ _ (val_i64 _) hn c1 c2 rfl).mono ?_
  rintro e w5 ⟨rfl, b5⟩
  have B5 := B4.trans (b5.mono B4.size)
  clear b5 B4
  go_wp2_with fail
  refine (add_c (b * n / c) 0 _ he zero_i64).mono ?_
  rintro e w6 ⟨rfl, b6⟩
  have B6 := B5.trans (b6.mono B5.size)
  clear b6 B5
  go_wp2_with fail
  refine (head_c _).mono ?_
  rintro e w7 ⟨rfl, b7⟩
  have B7 := B6.trans (b7.mono B6.size)
  clear b7 B6
  go_wp2_with fail
  go_ret
  exact ⟨rfl, B7⟩
set_option maxRecDepth 100000 in
set_option maxHeartbeats 1600000 in
theorem parts_gt_3 (a b n c : Int) (w : World) (ha : I64 a) (hb : I64 b) (hn : I64 n) (c1 : 1 ≤ c) (c2 : c < 9223372036854775808) (_hab : b < a) (_n0 : 0 ≤ n) (he : I64 (b * n / c)) (hf : I64 (a * n / c)) (_hxy : b * n / c ≤ a * n / c) (hg : ¬ I64 (a + b)) :
    Calls Try.prog 13 #[.agg #[.int .i64 a, .int .i64 b, .int .i64 n, .int .i64 c]] w fun e w' => e = .returned (.bool true) ∧ Below w.heap.size w w' := by
  go_enter Try.func13, Try.ntmps13
  go_wp2
  go_quiet (fail)
  have B0 := below_q (w := w) (.cells #[.int .i64 a, .int .i64 b, .int .i64 n, .int .i64 c] 60) nq
  go_wp2_with fail
  refine (muldiv_in a c c a 0 _ ha ⟨by omega, by omega⟩ c1 c2 (Int.mul_ediv_cancel _ (by omega)) (Int.mul_emod_left _ _) ha.1 ha.2).mono ?_
  rintro e w1 ⟨rfl, b1⟩
  have B1 := B0.trans (b1.mono (by simp))
  clear b1 B0
  go_wp2_with fail
  refine (muldiv_in b n c (b * n / c) (b * n % c) _ hb hn c1 c2 rfl rfl he.1 he.2).mono ?_
  rintro e w2 ⟨rfl, b2⟩
  have B2 := B1.trans (b2.mono B1.size)
  clear b2 B1
  go_wp2_with fail
  refine (muldiv_in a n c (a * n / c) (a * n % c) _ ha hn c1 c2 rfl rfl hf.1 hf.2).mono ?_
  rintro e w3 ⟨rfl, b3⟩
  have B3 := B2.trans (b3.mono B2.size)
  clear b3 B2
  go_wp2_with fail
  refine (told_out (add_c a b _ ha hb) (by unfold I64 at hg; omega)).mono ?_
  rintro e w4 ⟨rfl, b4⟩
  have B4 := B3.trans (b4.mono B3.size)
  clear b4 B3
  go_wp2_with fail
  refine (muldiv_told 0 n c _ _ zero_i64 hn c1 c2 rfl).mono ?_
  rintro e w5 ⟨rfl, b5⟩
  have B5 := B4.trans (b5.mono B4.size)
  clear b5 B4
  go_wp2_with fail
  refine (add_c (b * n / c) (a * n / c) _ he hf).mono ?_
  rintro e w6 ⟨rfl, b6⟩
  have B6 := B5.trans (b6.mono B5.size)
  clear b6 B5
  go_wp2_with fail
  refine (head_c _).mono ?_
  rintro e w7 ⟨rfl, b7⟩
  have B7 := B6.trans (b7.mono B6.size)
  clear b7 B6
  go_wp2_with fail
  go_ret
  exact ⟨rfl, B7⟩
set_option maxRecDepth 100000 in
set_option maxHeartbeats 1600000 in
theorem parts_gt_4 (a b n c : Int) (w : World) (ha : I64 a) (hb : I64 b) (hn : I64 n) (c1 : 1 ≤ c) (c2 : c < 9223372036854775808) (_hab : b < a) (_n0 : 0 ≤ n) (he : I64 (b * n / c)) (hf : I64 (a * n / c)) (_hxy : b * n / c ≤ a * n / c) (hg : I64 (a + b)) (hh : ¬ I64 ((a + b) * n / c)) :
    Calls Try.prog 13 #[.agg #[.int .i64 a, .int .i64 b, .int .i64 n, .int .i64 c]] w fun e w' => e = .returned (.bool true) ∧ Below w.heap.size w w' := by
  go_enter Try.func13, Try.ntmps13
  go_wp2
  go_quiet (fail)
  have B0 := below_q (w := w) (.cells #[.int .i64 a, .int .i64 b, .int .i64 n, .int .i64 c] 60) nq
  go_wp2_with fail
  refine (muldiv_in a c c a 0 _ ha ⟨by omega, by omega⟩ c1 c2 (Int.mul_ediv_cancel _ (by omega)) (Int.mul_emod_left _ _) ha.1 ha.2).mono ?_
  rintro e w1 ⟨rfl, b1⟩
  have B1 := B0.trans (b1.mono (by simp))
  clear b1 B0
  go_wp2_with fail
  refine (muldiv_in b n c (b * n / c) (b * n % c) _ hb hn c1 c2 rfl rfl he.1 he.2).mono ?_
  rintro e w2 ⟨rfl, b2⟩
  have B2 := B1.trans (b2.mono B1.size)
  clear b2 B1
  go_wp2_with fail
  refine (muldiv_in a n c (a * n / c) (a * n % c) _ ha hn c1 c2 rfl rfl hf.1 hf.2).mono ?_
  rintro e w3 ⟨rfl, b3⟩
  have B3 := B2.trans (b3.mono B2.size)
  clear b3 B2
  go_wp2_with fail
  refine (told_in (add_c a b _ ha hb) rfl hg.1 hg.2).mono ?_
  rintro e w4 ⟨rfl, b4⟩
  have B4 := B3.trans (b4.mono B3.size)
  clear b4 B3
  go_wp2_with fail
  refine (muldiv_out (a + b) n c _ hg hn c1 c2 (by unfold I64 at hh; omega)).mono ?_
  rintro e w5 ⟨rfl, b5⟩
  have B5 := B4.trans (b5.mono B4.size)
  clear b5 B4
  go_wp2_with fail
  refine (add_c (b * n / c) (a * n / c) _ he hf).mono ?_
  rintro e w6 ⟨rfl, b6⟩
  have B6 := B5.trans (b6.mono B5.size)
  clear b6 B5
  go_wp2_with fail
  refine (head_c _).mono ?_
  rintro e w7 ⟨rfl, b7⟩
  have B7 := B6.trans (b7.mono B6.size)
  clear b7 B6
  go_wp2_with fail
  go_ret
  exact ⟨rfl, B7⟩
set_option maxRecDepth 100000 in
set_option maxHeartbeats 1600000 in
theorem parts_gt_5 (a b n c : Int) (w : World) (ha : I64 a) (hb : I64 b) (hn : I64 n) (c1 : 1 ≤ c) (c2 : c < 9223372036854775808) (_hab : b < a) (_n0 : 0 ≤ n) (he : I64 (b * n / c)) (hf : I64 (a * n / c)) (_hxy : b * n / c ≤ a * n / c) (hg : I64 (a + b)) (hh : I64 ((a + b) * n / c)) (hi : ¬ I64 (b * n / c + a * n / c)) :
    Calls Try.prog 13 #[.agg #[.int .i64 a, .int .i64 b, .int .i64 n, .int .i64 c]] w fun e w' => e = .returned (.bool true) ∧ Below w.heap.size w w' := by
  go_enter Try.func13, Try.ntmps13
  go_wp2
  go_quiet (fail)
  have B0 := below_q (w := w) (.cells #[.int .i64 a, .int .i64 b, .int .i64 n, .int .i64 c] 60) nq
  go_wp2_with fail
  refine (muldiv_in a c c a 0 _ ha ⟨by omega, by omega⟩ c1 c2 (Int.mul_ediv_cancel _ (by omega)) (Int.mul_emod_left _ _) ha.1 ha.2).mono ?_
  rintro e w1 ⟨rfl, b1⟩
  have B1 := B0.trans (b1.mono (by simp))
  clear b1 B0
  go_wp2_with fail
  refine (muldiv_in b n c (b * n / c) (b * n % c) _ hb hn c1 c2 rfl rfl he.1 he.2).mono ?_
  rintro e w2 ⟨rfl, b2⟩
  have B2 := B1.trans (b2.mono B1.size)
  clear b2 B1
  go_wp2_with fail
  refine (muldiv_in a n c (a * n / c) (a * n % c) _ ha hn c1 c2 rfl rfl hf.1 hf.2).mono ?_
  rintro e w3 ⟨rfl, b3⟩
  have B3 := B2.trans (b3.mono B2.size)
  clear b3 B2
  go_wp2_with fail
  refine (told_in (add_c a b _ ha hb) rfl hg.1 hg.2).mono ?_
  rintro e w4 ⟨rfl, b4⟩
  have B4 := B3.trans (b4.mono B3.size)
  clear b4 B3
  go_wp2_with fail
  refine (muldiv_in (a + b) n c ((a + b) * n / c) ((a + b) * n % c) _ hg hn c1 c2 rfl rfl hh.1 hh.2).mono ?_
  rintro e w5 ⟨rfl, b5⟩
  have B5 := B4.trans (b5.mono B4.size)
  clear b5 B4
  go_wp2_with fail
  refine (told_out (add_c (b * n / c) (a * n / c) _ he hf) (by unfold I64 at hi; omega)).mono ?_
  rintro e w6 ⟨rfl, b6⟩
  have B6 := B5.trans (b6.mono B5.size)
  clear b6 B5
  go_wp2_with fail
  refine (head_c _).mono ?_
  rintro e w7 ⟨rfl, b7⟩
  have B7 := B6.trans (b7.mono B6.size)
  clear b7 B6
  go_wp2_with fail
  go_ret
  exact ⟨rfl, B7⟩
set_option maxRecDepth 100000 in
set_option maxHeartbeats 1600000 in
theorem parts_gt_6 (a b n c : Int) (w : World) (ha : I64 a) (hb : I64 b) (hn : I64 n) (c1 : 1 ≤ c) (c2 : c < 9223372036854775808) (_hab : b < a) (_n0 : 0 ≤ n) (he : I64 (b * n / c)) (hf : I64 (a * n / c)) (_hxy : b * n / c ≤ a * n / c) (hg : I64 (a + b)) (hh : I64 ((a + b) * n / c)) (hz : b * n / c + a * n / c = (a + b) * n / c) :
    Calls Try.prog 13 #[.agg #[.int .i64 a, .int .i64 b, .int .i64 n, .int .i64 c]] w fun e w' => e = .returned (.bool true) ∧ Below w.heap.size w w' := by
  have HZ := Lib.hid hz
  clear hz
  go_enter Try.func13, Try.ntmps13
  go_wp2
  go_quiet (fail)
  have B0 := below_q (w := w) (.cells #[.int .i64 a, .int .i64 b, .int .i64 n, .int .i64 c] 60) nq
  go_wp2_with fail
  refine (muldiv_in a c c a 0 _ ha ⟨by omega, by omega⟩ c1 c2 (Int.mul_ediv_cancel _ (by omega)) (Int.mul_emod_left _ _) ha.1 ha.2).mono ?_
  rintro e w1 ⟨rfl, b1⟩
  have B1 := B0.trans (b1.mono (by simp))
  clear b1 B0
  go_wp2_with fail
  refine (muldiv_in b n c (b * n / c) (b * n % c) _ hb hn c1 c2 rfl rfl he.1 he.2).mono ?_
  rintro e w2 ⟨rfl, b2⟩
  have B2 := B1.trans (b2.mono B1.size)
  clear b2 B1
  go_wp2_with fail
  refine (muldiv_in a n c (a * n / c) (a * n % c) _ ha hn c1 c2 rfl rfl hf.1 hf.2).mono ?_
  rintro e w3 ⟨rfl, b3⟩
  have B3 := B2.trans (b3.mono B2.size)
  clear b3 B2
  go_wp2_with fail
  refine (told_in (add_c a b _ ha hb) rfl hg.1 hg.2).mono ?_
  rintro e w4 ⟨rfl, b4⟩
  have B4 := B3.trans (b4.mono B3.size)
  clear b4 B3
  go_wp2_with fail
  refine (muldiv_in (a + b) n c ((a + b) * n / c) ((a + b) * n % c) _ hg hn c1 c2 rfl rfl hh.1 hh.2).mono ?_
  rintro e w5 ⟨rfl, b5⟩
  have B5 := B4.trans (b5.mono B4.size)
  clear b5 B4
  go_wp2_with fail
  refine (told_in (add_c (b * n / c) (a * n / c) _ he hf) HZ.out hh.1 hh.2).mono ?_
  rintro e w6 ⟨rfl, b6⟩
  have B6 := B5.trans (b6.mono B5.size)
  clear b6 B5
  go_wp2_with fail
  refine (head_c _).mono ?_
  rintro e w7 ⟨rfl, b7⟩
  have B7 := B6.trans (b7.mono B6.size)
  clear b7 B6
  go_wp2_with fail
  go_ret
  exact ⟨rfl, B7⟩
set_option maxRecDepth 100000 in
set_option maxHeartbeats 1600000 in
theorem parts_gt_7 (a b n c : Int) (w : World) (ha : I64 a) (hb : I64 b) (hn : I64 n) (c1 : 1 ≤ c) (c2 : c < 9223372036854775808) (_hab : b < a) (_n0 : 0 ≤ n) (he : I64 (b * n / c)) (hf : I64 (a * n / c)) (_hxy : b * n / c ≤ a * n / c) (hg : I64 (a + b)) (hh : I64 ((a + b) * n / c)) (hz : b * n / c + a * n / c = (a + b) * n / c - 1) (hi : I64 ((a + b) * n / c - 1)) :
    Calls Try.prog 13 #[.agg #[.int .i64 a, .int .i64 b, .int .i64 n, .int .i64 c]] w fun e w' => e = .returned (.bool true) ∧ Below w.heap.size w w' := by
  have HZ := Lib.hid hz
  have i1 := hi.1
  have i2 := hi.2
  have ne : (((a + b) * n / c - 1 : Int) == (a + b) * n / c) = false := beq_eq_false_iff_ne.2 (by omega)
  clear hz
  go_enter Try.func13, Try.ntmps13
  go_wp2
  go_quiet (fail)
  have B0 := below_q (w := w) (.cells #[.int .i64 a, .int .i64 b, .int .i64 n, .int .i64 c] 60) nq
  go_wp2_with fail
  refine (muldiv_in a c c a 0 _ ha ⟨by omega, by omega⟩ c1 c2 (Int.mul_ediv_cancel _ (by omega)) (Int.mul_emod_left _ _) ha.1 ha.2).mono ?_
  rintro e w1 ⟨rfl, b1⟩
  have B1 := B0.trans (b1.mono (by simp))
  clear b1 B0
  go_wp2_with fail
  refine (muldiv_in b n c (b * n / c) (b * n % c) _ hb hn c1 c2 rfl rfl he.1 he.2).mono ?_
  rintro e w2 ⟨rfl, b2⟩
  have B2 := B1.trans (b2.mono B1.size)
  clear b2 B1
  go_wp2_with fail
  refine (muldiv_in a n c (a * n / c) (a * n % c) _ ha hn c1 c2 rfl rfl hf.1 hf.2).mono ?_
  rintro e w3 ⟨rfl, b3⟩
  have B3 := B2.trans (b3.mono B2.size)
  clear b3 B2
  go_wp2_with fail
  refine (told_in (add_c a b _ ha hb) rfl hg.1 hg.2).mono ?_
  rintro e w4 ⟨rfl, b4⟩
  have B4 := B3.trans (b4.mono B3.size)
  clear b4 B3
  go_wp2_with fail
  refine (muldiv_in (a + b) n c ((a + b) * n / c) ((a + b) * n % c) _ hg hn c1 c2 rfl rfl hh.1 hh.2).mono ?_
  rintro e w5 ⟨rfl, b5⟩
  have B5 := B4.trans (b5.mono B4.size)
  clear b5 B4
  go_wp2_with fail
  refine (told_in (add_c (b * n / c) (a * n / c) _ he hf) HZ.out hi.1 hi.2).mono ?_
  rintro e w6 ⟨rfl, b6⟩
  have B6 := B5.trans (b6.mono B5.size)
  clear b6 B5
  go_wp2_with fail
  refine (head_c _).mono ?_
  rintro e w7 ⟨rfl, b7⟩
  have B7 := B6.trans (b7.mono B6.size)
  clear b7 B6
  go_wp2_with fail
  go_ret
  exact ⟨rfl, B7⟩
set_option maxRecDepth 100000 in
set_option maxHeartbeats 1600000 in
theorem parts_gt_8 (a b n c : Int) (w : World) (ha : I64 a) (hb : I64 b) (_hn : I64 n) (c1 : 1 ≤ c) (c2 : c < 9223372036854775808) (_hab : b < a) (_n0 : n < 0) (hg : I64 (a + b)) :
    Calls Try.prog 13 #[.agg #[.int .i64 a, .int .i64 b, .int .i64 n, .int .i64 c]] w fun e w' => e = .returned (.bool true) ∧ Below w.heap.size w w' := by
  go_enter Try.func13, Try.ntmps13
  go_wp2
  go_quiet (fail)
  have B0 := below_q (w := w) (.cells #[.int .i64 a, .int .i64 b, .int .i64 n, .int .i64 c] 60) nq
  go_wp2_with fail
  refine (muldiv_in a c c a 0 _ ha ⟨by omega, by omega⟩ c1 c2 (Int.mul_ediv_cancel _ (by omega)) (Int.mul_emod_left _ _) ha.1 ha.2).mono ?_
  rintro e w1 ⟨rfl, b1⟩
  have B1 := B0.trans (b1.mono (by simp))
  clear b1 B0
  go_wp2_with fail
  refine (muldiv_in b 0 c 0 0 _ hb zero_i64 c1 c2 (by simp) (by simp) (by omega) (by omega)).mono ?_
  rintro e w2 ⟨rfl, b2⟩
  have B2 := B1.trans (b2.mono B1.size)
  clear b2 B1
  go_wp2_with fail
  refine (muldiv_in a 0 c 0 0 _ ha zero_i64 c1 c2 (by simp) (by simp) (by omega) (by omega)).mono ?_
  rintro e w3 ⟨rfl, b3⟩
  have B3 := B2.trans (b3.mono B2.size)
  clear b3 B2
  go_wp2_with fail
  refine (told_in (add_c a b _ ha hb) rfl hg.1 hg.2).mono ?_
  rintro e w4 ⟨rfl, b4⟩
  have B4 := B3.trans (b4.mono B3.size)
  clear b4 B3
  go_wp2_with fail
  refine (muldiv_in (a + b) 0 c 0 0 _ hg zero_i64 c1 c2 (by simp) (by simp) (by omega) (by omega)).mono ?_
  rintro e w5 ⟨rfl, b5⟩
  have B5 := B4.trans (b5.mono B4.size)
  clear b5 B4
  go_wp2_with fail
  refine (told_in (add_c 0 0 _ zero_i64 zero_i64) (m := 0) (by omega) (by omega) (by omega)).mono ?_
  rintro e w6 ⟨rfl, b6⟩
  have B6 := B5.trans (b6.mono B5.size)
  clear b6 B5
  go_wp2_with fail
  refine (head_c _).mono ?_
  rintro e w7 ⟨rfl, b7⟩
  have B7 := B6.trans (b7.mono B6.size)
  clear b7 B6
  go_wp2_with fail
  go_ret
  exact ⟨rfl, B7⟩
set_option maxRecDepth 100000 in
set_option maxHeartbeats 1600000 in
theorem parts_gt_9 (a b n c : Int) (w : World) (ha : I64 a) (hb : I64 b) (_hn : I64 n) (c1 : 1 ≤ c) (c2 : c < 9223372036854775808) (_hab : b < a) (_n0 : n < 0) (hg : ¬ I64 (a + b)) :
    Calls Try.prog 13 #[.agg #[.int .i64 a, .int .i64 b, .int .i64 n, .int .i64 c]] w fun e w' => e = .returned (.bool true) ∧ Below w.heap.size w w' := by
  go_enter Try.func13, Try.ntmps13
  go_wp2
  go_quiet (fail)
  have B0 := below_q (w := w) (.cells #[.int .i64 a, .int .i64 b, .int .i64 n, .int .i64 c] 60) nq
  go_wp2_with fail
  refine (muldiv_in a c c a 0 _ ha ⟨by omega, by omega⟩ c1 c2 (Int.mul_ediv_cancel _ (by omega)) (Int.mul_emod_left _ _) ha.1 ha.2).mono ?_
  rintro e w1 ⟨rfl, b1⟩
  have B1 := B0.trans (b1.mono (by simp))
  clear b1 B0
  go_wp2_with fail
  refine (muldiv_in b 0 c 0 0 _ hb zero_i64 c1 c2 (by simp) (by simp) (by omega) (by omega)).mono ?_
  rintro e w2 ⟨rfl, b2⟩
  have B2 := B1.trans (b2.mono B1.size)
  clear b2 B1
  go_wp2_with fail
  refine (muldiv_in a 0 c 0 0 _ ha zero_i64 c1 c2 (by simp) (by simp) (by omega) (by omega)).mono ?_
  rintro e w3 ⟨rfl, b3⟩
  have B3 := B2.trans (b3.mono B2.size)
  clear b3 B2
  go_wp2_with fail
  refine (told_out (add_c a b _ ha hb) (by unfold I64 at hg; omega)).mono ?_
  rintro e w4 ⟨rfl, b4⟩
  have B4 := B3.trans (b4.mono B3.size)
  clear b4 B3
  go_wp2_with fail
  refine (muldiv_in 0 0 c 0 0 _ zero_i64 zero_i64 c1 c2 (by simp) (by simp) (by omega) (by omega)).mono ?_
  rintro e w5 ⟨rfl, b5⟩
  have B5 := B4.trans (b5.mono B4.size)
  clear b5 B4
  go_wp2_with fail
  refine (told_in (add_c 0 0 _ zero_i64 zero_i64) (m := 0) (by omega) (by omega) (by omega)).mono ?_
  rintro e w6 ⟨rfl, b6⟩
  have B6 := B5.trans (b6.mono B5.size)
  clear b6 B5
  go_wp2_with fail
  refine (head_c _).mono ?_
  rintro e w7 ⟨rfl, b7⟩
  have B7 := B6.trans (b7.mono B6.size)
  clear b7 B6
  go_wp2_with fail
  go_ret
  exact ⟨rfl, B7⟩

theorem parts_c (a b n c : Int) (w : World) (ha : I64 a) (hb : I64 b) (hn : I64 n) (hc : I64 c) :
    Calls Try.prog 13 #[.agg #[.int .i64 a, .int .i64 b, .int .i64 n, .int .i64 c]] w fun e w' => e = .returned (.bool true) ∧ Below w.heap.size w w' := by
  by_cases c0 : c ≤ 0
  · exact parts_0 a b n c w c0
  have c1 : 1 ≤ c := by omega
  have c2 : c < 9223372036854775808 := by have := hc.2; omega
  by_cases hab : a < b
  · by_cases n0 : 0 ≤ n
    · by_cases he : I64 (a * n / c)
      · by_cases hf : I64 (b * n / c)
        · have hxy : a * n / c ≤ b * n / c := quo_mono _ _ _ _ (by omega) n0 c1
          by_cases hg : I64 (a + b)
          · by_cases hh : I64 ((a + b) * n / c)
            · by_cases hi : I64 (a * n / c + b * n / c)
              · rcases quo_parts a b (a + b) n c (by omega) c1 with hz | hz
                · exact parts_le_6 a b n c w ha hb hn c1 c2 hab n0 he hf hxy hg hh hz
                · exact parts_le_7 a b n c w ha hb hn c1 c2 hab n0 he hf hxy hg hh hz (by rw [← hz]; exact hi)
              · exact parts_le_5 a b n c w ha hb hn c1 c2 hab n0 he hf hxy hg hh hi
            · exact parts_le_4 a b n c w ha hb hn c1 c2 hab n0 he hf hxy hg hh
          · exact parts_le_3 a b n c w ha hb hn c1 c2 hab n0 he hf hxy hg
        · exact parts_le_2 a b n c w ha hb hn c1 c2 hab n0 he hf
      · exact parts_le_1 a b n c w ha hb hn c1 c2 hab n0 he
    · by_cases hg : I64 (a + b)
      · exact parts_le_8 a b n c w ha hb hn c1 c2 hab (by omega) hg
      · exact parts_le_9 a b n c w ha hb hn c1 c2 hab (by omega) hg
  by_cases hq : a = b
  · subst hq
    by_cases n0 : 0 ≤ n
    · by_cases he : I64 (a * n / c)
      · by_cases hf : I64 (a * n / c)
        · have hxy : a * n / c ≤ a * n / c := quo_mono _ _ _ _ (by omega) n0 c1
          by_cases hg : I64 (a + a)
          · by_cases hh : I64 ((a + a) * n / c)
            · by_cases hi : I64 (a * n / c + a * n / c)
              · rcases quo_parts a a (a + a) n c (by omega) c1 with hz | hz
                · exact parts_eq_6 a n c w ha hn c1 c2 n0 he hf hxy hg hh hz
                · exact parts_eq_7 a n c w ha hn c1 c2 n0 he hf hxy hg hh hz (by rw [← hz]; exact hi)
              · exact parts_eq_5 a n c w ha hn c1 c2 n0 he hf hxy hg hh hi
            · exact parts_eq_4 a n c w ha hn c1 c2 n0 he hf hxy hg hh
          · exact parts_eq_3 a n c w ha hn c1 c2 n0 he hf hxy hg
        · exact absurd he hf
      · exact parts_eq_1 a n c w ha hn c1 c2 n0 he
    · by_cases hg : I64 (a + a)
      · exact parts_eq_8 a n c w ha hn c1 c2 (by omega) hg
      · exact parts_eq_9 a n c w ha hn c1 c2 (by omega) hg
  · replace hab : b < a := by omega
    by_cases n0 : 0 ≤ n
    · by_cases he : I64 (b * n / c)
      · by_cases hf : I64 (a * n / c)
        · have hxy : b * n / c ≤ a * n / c := quo_mono _ _ _ _ (by omega) n0 c1
          by_cases hg : I64 (a + b)
          · by_cases hh : I64 ((a + b) * n / c)
            · by_cases hi : I64 (b * n / c + a * n / c)
              · rcases quo_parts b a (a + b) n c (by omega) c1 with hz | hz
                · exact parts_gt_6 a b n c w ha hb hn c1 c2 hab n0 he hf hxy hg hh hz
                · exact parts_gt_7 a b n c w ha hb hn c1 c2 hab n0 he hf hxy hg hh hz (by rw [← hz]; exact hi)
              · exact parts_gt_5 a b n c w ha hb hn c1 c2 hab n0 he hf hxy hg hh hi
            · exact parts_gt_4 a b n c w ha hb hn c1 c2 hab n0 he hf hxy hg hh
          · exact parts_gt_3 a b n c w ha hb hn c1 c2 hab n0 he hf hxy hg
        · exact parts_gt_2 a b n c w ha hb hn c1 c2 hab n0 he hf
      · exact parts_gt_1 a b n c w ha hb hn c1 c2 hab n0 he
    · by_cases hg : I64 (a + b)
      · exact parts_gt_8 a b n c w ha hb hn c1 c2 hab (by omega) hg
      · exact parts_gt_9 a b n c w ha hb hn c1 c2 hab (by omega) hg
end Go.Proofs.Ytehofpmkplkaaaa
