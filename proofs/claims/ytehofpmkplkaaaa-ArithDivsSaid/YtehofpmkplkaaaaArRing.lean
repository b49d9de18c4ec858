/- The walk of ArithRing. -/
import Derived.Test.YtehofpmkplkaaaaArHead
namespace Go.Proofs.Ytehofpmkplkaaaa
open Go.RowKit

theorem val_i64 (n : Int) : I64 (Ar.val n) := by
  unfold Ar.val
  by_cases h : Ar.Fits n
  · rw [if_pos h]; exact h
  · rw [if_neg h]; exact ⟨by omega, by omega⟩
theorem told_eq {P : Program} {f : FuncId} {args : Array Value} {n m : Int} {w : World} (h : Calls P f args w (Told n w)) (hm : n = m) : Calls P f args w (Told m w) := by subst hm; exact h
theorem zero_i64 : I64 0 := ⟨by omega, by omega⟩
theorem sum3_told (a b c n : Int) (w : World) (ha : I64 a) (hb : I64 b) (hc : I64 c) (hn : a + b + c = n) :
    Calls Try.prog 43 #[.slice (some ⟨w.heap.size, 0, none⟩) 3 3] (w.alloc (.cells #[.int .i64 a, .int .i64 b, .int .i64 c] 2)) (Told n w) := by
  subst hn
  exact (sum3 a b c w ha hb hc).mono fun e w' ⟨he, hb⟩ => ⟨he, ((Below.refl _ _).alloc (Nat.le_refl _) _).trans (hb.mono (by simp))⟩
theorem i64_of {n : Int} (h : Ar.Fits n) : I64 n := h
set_option maxRecDepth 100000 in
set_option maxHeartbeats 1600000 in
theorem ring_yyy (a b c : Int) (w : World) (ha : I64 a) (hb : I64 b) (hc : I64 c) (he : I64 (a + b)) (hg : I64 (a * c)) (hi : I64 (b * c)) :
    Calls Try.prog 12 #[.int .i64 a, .int .i64 b, .int .i64 c] w fun e w' => e = .returned (.bool true) ∧ Below w.heap.size w w' := by
  go_enter Try.func12, Try.ntmps12
  go_wp2_with fail
  refine (told_in (add_c a b _ ha hb) rfl he.1 he.2).mono ?_
  rintro e w1 ⟨rfl, b1⟩
  have B1 := b1
  clear b1
  go_wp2_with fail
  refine (told_in (add_c b a _ hb ha) (Int.add_comm _ _) he.1 he.2).mono ?_
  rintro e w2 ⟨rfl, b2⟩
  have B2 := B1.trans (b2.mono B1.size)
  clear b2 B1
  go_wp2_with fail
  refine (told_in (mul_c a c _ ha hc) rfl hg.1 hg.2).mono ?_
  rintro e w3 ⟨rfl, b3⟩
  have B3 := B2.trans (b3.mono B2.size)
  clear b3 B2
  go_wp2_with fail
  refine (told_in (mul_c c a _ hc ha) (Int.mul_comm _ _) hg.1 hg.2).mono ?_
  rintro e w4 ⟨rfl, b4⟩
  have B4 := B3.trans (b4.mono B3.size)
  clear b4 B3
  go_wp2_with fail
  refine (told_in (sub_c (a + b) b _ he hb) (m := a) (by omega) ha.1 ha.2).mono ?_
  rintro e w5 ⟨rfl, b5⟩
  have B5 := B4.trans (b5.mono B4.size)
  clear b5 B4
  go_wp2_with fail
  refine (told_in (mul_c b c _ hb hc) rfl hi.1 hi.2).mono ?_
  rintro e w6 ⟨rfl, b6⟩
  have B6 := B5.trans (b6.mono B5.size)
  clear b6 B5
  go_wp2_with fail
  refine (told_eq (mul_c (a + b) c _ he hc) (Int.add_mul a b c)).mono ?_
  rintro e w7 ⟨rfl, b7⟩
  have B7 := B6.trans (b7.mono B6.size)
  clear b7 B6
  go_wp2_with fail
  refine (add_c (a * c) (b * c) _ hg hi).mono ?_
  rintro e w8 ⟨rfl, b8⟩
  have B8 := B7.trans (b8.mono B7.size)
  clear b8 B7
  go_wp2_with fail
  refine (sum3_told a b c (a + b + c) w8 ha hb hc rfl).mono ?_
  rintro e w9 ⟨rfl, b9⟩
  have B9 := B8.trans (b9.mono B8.size)
  clear b9 B8
  go_wp2_with fail
  refine (sum3_told c a b (a + b + c) w9 hc ha hb (by omega)).mono ?_
  rintro e w10 ⟨rfl, b10⟩
  have B10 := B9.trans (b10.mono B9.size)
  clear b10 B9
  go_wp2_with fail
  refine (head_c _).mono ?_
  rintro e w11 ⟨rfl, b11⟩
  have B11 := B10.trans (b11.mono B10.size)
  clear b11 B10
  go_wp2_with fail
  go_ret
  exact ⟨rfl, B11⟩
set_option maxRecDepth 100000 in
set_option maxHeartbeats 1600000 in
theorem ring_yn (a b c : Int) (w : World) (ha : I64 a) (hb : I64 b) (hc : I64 c) (he : I64 (a + b)) (hg : ¬ I64 (a * c)) :
    Calls Try.prog 12 #[.int .i64 a, .int .i64 b, .int .i64 c] w fun e w' => e = .returned (.bool true) ∧ Below w.heap.size w w' := by
  go_enter Try.func12, Try.ntmps12
  go_wp2_with fail
  refine (told_in (add_c a b _ ha hb) rfl he.1 he.2).mono ?_
  rintro e w1 ⟨rfl, b1⟩
  have B1 := b1
  clear b1
  go_wp2_with fail
  refine (told_in (add_c b a _ hb ha) (Int.add_comm _ _) he.1 he.2).mono ?_
  rintro e w2 ⟨rfl, b2⟩
  have B2 := B1.trans (b2.mono B1.size)
  clear b2 B1
  go_wp2_with fail
  refine (told_out (mul_c a c _ ha hc) (by unfold I64 at hg; omega)).mono ?_
  rintro e w3 ⟨rfl, b3⟩
  have B3 := B2.trans (b3.mono B2.size)
  clear b3 B2
  go_wp2_with fail
  refine (told_out (told_eq (mul_c c a _ hc ha) (Int.mul_comm _ _)) (by unfold I64 at hg; omega)).mono ?_
  rintro e w4 ⟨rfl, b4⟩
  have B4 := B3.trans (b4.mono B3.size)
  clear b4 B3
  go_wp2_with fail
  refine (told_in (sub_c (a + b) b _ he hb) (m := a) (by omega) ha.1 ha.2).mono ?_
  rintro e w5 ⟨rfl, b5⟩
  have B5 := B4.trans (b5.mono B4.size)
  clear b5 B4
  go_wp2_with fail
  refine (mul_c b c _ hb hc).mono ?_
  rintro e w6 ⟨rfl, b6⟩
  have B6 := B5.trans (b6.mono B5.size)
  clear b6 B5
  go_wp2_with fail
  refine (mul_c (a + b) c _ he hc).mono ?_
  rintro e w7 ⟨rfl, b7⟩
  have B7 := B6.trans (b7.mono B6.size)
  clear b7 B6
  go_wp2_with fail
  refine (add_c 0 (Ar.val (b * c)) _ zero_i64 (val_i64 _)).mono ?_
  rintro e w8 ⟨rfl, b8⟩
  have B8 := B7.trans (b8.mono B7.size)
  clear b8 B7
  go_wp2_with fail
  refine (sum3_told a b c (a + b + c) w8 ha hb hc rfl).mono ?_
  rintro e w9 ⟨rfl, b9⟩
  have B9 := B8.trans (b9.mono B8.size)
  clear b9 B8
  go_wp2_with fail
  refine (sum3_told c a b (a + b + c) w9 hc ha hb (by omega)).mono ?_
  rintro e w10 ⟨rfl, b10⟩
  have B10 := B9.trans (b10.mono B9.size)
  clear b10 B9
  go_wp2_with fail
  refine (head_c _).mono ?_
  rintro e w11 ⟨rfl, b11⟩
  have B11 := B10.trans (b11.mono B10.size)
  clear b11 B10
  go_wp2_with fail
  go_ret
  exact ⟨rfl, B11⟩
set_option maxRecDepth 100000 in
set_option maxHeartbeats 1600000 in
theorem ring_yyn (a b c : Int) (w : World) (ha : I64 a) (hb : I64 b) (hc : I64 c) (he : I64 (a + b)) (hg : I64 (a * c)) (hi : ¬ I64 (b * c)) :
    Calls Try.prog 12 #[.int .i64 a, .int .i64 b, .int .i64 c] w fun e w' => e = .returned (.bool true) ∧ Below w.heap.size w w' := by
  go_enter Try.func12, Try.ntmps12
  go_wp2_with fail
  refine (told_in (add_c a b _ ha hb) rfl he.1 he.2).mono ?_
  rintro e w1 ⟨rfl, b1⟩
  have B1 := b1
  clear b1
  go_wp2_with fail
  refine (told_in (add_c b a _ hb ha) (Int.add_comm _ _) he.1 he.2).mono ?_
  rintro e w2 ⟨rfl, b2⟩
  have B2 := B1.trans (b2.mono B1.size)
  clear b2 B1
  go_wp2_with fail
  refine (told_in (mul_c a c _ ha hc) rfl hg.1 hg.2).mono ?_
  rintro e w3 ⟨rfl, b3⟩
  have B3 := B2.trans (b3.mono B2.size)
  clear b3 B2
  go_wp2_with fail
  refine (told_in (mul_c c a _ hc ha) (Int.mul_comm _ _) hg.1 hg.2).mono ?_
  rintro e w4 ⟨rfl, b4⟩
  have B4 := B3.trans (b4.mono B3.size)
  clear b4 B3
  go_wp2_with fail
  refine (told_in (sub_c (a + b) b _ he hb) (m := a) (by omega) ha.1 ha.2).mono ?_
  rintro e w5 ⟨rfl, b5⟩
  have B5 := B4.trans (b5.mono B4.size)
  clear b5 B4
  go_wp2_with fail
  refine (told_out (mul_c b c _ hb hc) (by unfold I64 at hi; omega)).mono ?_
  rintro e w6 ⟨rfl, b6⟩
  have B6 := B5.trans (b6.mono B5.size)
  clear b6 B5
  go_wp2_with fail
  refine (mul_c (a + b) c _ he hc).mono ?_
  rintro e w7 ⟨rfl, b7⟩
  have B7 := B6.trans (b7.mono B6.size)
  clear b7 B6
  go_wp2_with fail
  refine (add_c (a * c) 0 _ hg zero_i64).mono ?_
  rintro e w8 ⟨rfl, b8⟩
  have B8 := B7.trans (b8.mono B7.size)
  clear b8 B7
  go_wp2_with fail
  refine (sum3_told a b c (a + b + c) w8 ha hb hc rfl).mono ?_
  rintro e w9 ⟨rfl, b9⟩
  have B9 := B8.trans (b9.mono B8.size)
  clear b9 B8
  go_wp2_with fail
  refine (sum3_told c a b (a + b + c) w9 hc ha hb (by omega)).mono ?_
  rintro e w10 ⟨rfl, b10⟩
  have B10 := B9.trans (b10.mono B9.size)
  clear b10 B9
  go_wp2_with fail
  refine (head_c _).mono ?_
  rintro e w11 ⟨rfl, b11⟩
  have B11 := B10.trans (b11.mono B10.size)
  clear b11 B10
  go_wp2_with fail
  go_ret
  exact ⟨rfl, B11⟩
set_option maxRecDepth 100000 in
set_option maxHeartbeats 1600000 in
theorem ring_n (a b c : Int) (w : World) (ha : I64 a) (hb : I64 b) (hc : I64 c) (he : ¬ I64 (a + b)) :
    Calls Try.prog 12 #[.int .i64 a, .int .i64 b, .int .i64 c] w fun e w' => e = .returned (.bool true) ∧ Below w.heap.size w w' := by
  go_enter Try.func12, Try.ntmps12
  go_wp2_with fail
  refine (told_out (add_c a b _ ha hb) (by unfold I64 at he; omega)).mono ?_
  rintro e w1 ⟨rfl, b1⟩
  have B1 := b1
  clear b1
  go_wp2_with fail
  refine (told_out (add_c b a _ hb ha) (by unfold I64 at he; omega)).mono ?_
  rintro e w2 ⟨rfl, b2⟩
  have B2 := B1.trans (b2.mono B1.size)
  clear b2 B1
  go_wp2_with fail
  refine (mul_c a c _ ha hc).mono ?_
  rintro e w3 ⟨rfl, b3⟩
  have B3 := B2.trans (b3.mono B2.size)
  clear b3 B2
  go_wp2_with fail
  refine (told_eq (mul_c c a _ hc ha) (Int.mul_comm _ _)).mono ?_
  rintro e w4 ⟨rfl, b4⟩
  have B4 := B3.trans (b4.mono B3.size)
  clear b4 B3
  go_wp2_with fail
  refine (sub_c 0 b _ zero_i64 hb).mono ?_
  rintro e w5 ⟨rfl, b5⟩
  have B5 := B4.trans (b5.mono B4.size)
  clear b5 B4
  go_wp2_with fail
  refine (mul_c b c _ hb hc).mono ?_
  rintro e w6 ⟨rfl, b6⟩
  have B6 := B5.trans (b6.mono B5.size)
  clear b6 B5
  go_wp2_with fail
  refine (mul_c 0 c _ zero_i64 hc).mono ?_
  rintro e w7 ⟨rfl, b7⟩
  have B7 := B6.trans (b7.mono B6.size)
  clear b7 B6
  go_wp2_with fail
  refine (add_c (Ar.val (a * c)) (Ar.val (b * c)) _ (val_i64 _) (val_i64 _)).mono ?_
  rintro e w8 ⟨rfl, b8⟩
  have B8 := B7.trans (b8.mono B7.size)
  clear b8 B7
  go_wp2_with fail
  refine (sum3_told a b c (a + b + c) w8 ha hb hc rfl).mono ?_
  rintro e w9 ⟨rfl, b9⟩
  have B9 := B8.trans (b9.mono B8.size)
  clear b9 B8
  go_wp2_with fail
  refine (sum3_told c a b (a + b + c) w9 hc ha hb (by omega)).mono ?_
  rintro e w10 ⟨rfl, b10⟩
  have B10 := B9.trans (b10.mono B9.size)
  clear b10 B9
  go_wp2_with fail
  refine (head_c _).mono ?_
  rintro e w11 ⟨rfl, b11⟩
  have B11 := B10.trans (b11.mono B10.size)
  clear b11 B10
  go_wp2_with fail
  go_ret
  exact ⟨rfl, B11⟩

theorem ring_c (a b c : Int) (w : World) (ha : I64 a) (hb : I64 b) (hc : I64 c) :
    Calls Try.prog 12 #[.int .i64 a, .int .i64 b, .int .i64 c] w fun e w' => e = .returned (.bool true) ∧ Below w.heap.size w w' := by
  by_cases he : I64 (a + b)
  · by_cases hg : I64 (a * c)
    · by_cases hi : I64 (b * c)
      · exact ring_yyy a b c w ha hb hc he hg hi
      · exact ring_yyn a b c w ha hb hc he hg hi
    · exact ring_yn a b c w ha hb hc he hg
  · exact ring_n a b c w ha hb hc he
end Go.Proofs.Ytehofpmkplkaaaa
