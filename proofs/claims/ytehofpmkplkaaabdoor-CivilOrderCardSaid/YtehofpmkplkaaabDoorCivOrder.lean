/- The walk of CivilOrder. -/
import Derived.Test.YtehofpmkplkaaabDoorCivHead
import Derived.RowKit3
import Derived.Lib.SliceRun
namespace Go.Proofs.YtehofpmkplkaaabDoor
open Go.RowKit

theorem Tab.alloc {w : World} (h : Tab w) (o : Obj) : Tab (w.alloc o) := fun m h1 h2 => Lib.cell?_alloc_some o (h m h1 h2)
set_option maxRecDepth 100000 in
set_option maxHeartbeats 400000 in
theorem order_nn (a b c x y z : Int) (w : World) (HT : Hid (∀ o o', Tab ((w.alloc o).alloc o')))
    (K1 : Hid (∀ w', Tab w' → Calls Tryd.prog 17 #[.int .i64 a, .int .i64 b, .int .i64 c] w' fun e w'' => e = .returned (.tuple #[.int .i64 0, .int .i64 2]) ∧ w' = w''))
    (K2 : Hid (∀ w', Tab w' → Calls Tryd.prog 17 #[.int .i64 x, .int .i64 y, .int .i64 z] w' fun e w'' => e = .returned (.tuple #[.int .i64 0, .int .i64 2]) ∧ w' = w'')) :
    Calls Tryd.prog 6 #[.agg #[.int .i64 a, .int .i64 b, .int .i64 c], .agg #[.int .i64 x, .int .i64 y, .int .i64 z]] w fun e w' => e = .returned (.bool true) ∧ Grown w w' := by
  go_enter Tryd.func6, Tryd.ntmps6
  go_wp2_with fail
  refine (K1.out _ (HT.out _ _)).mono ?_
  rintro e w' ⟨rfl, rfl⟩
  go_wp2_with fail
  refine (K2.out _ (HT.out _ _)).mono ?_
  rintro e w' ⟨rfl, rfl⟩
  go_wp2_with (go_at_call 12; refine (head_c _ (HT.out _ _)).mono ?_; rintro e w' ⟨rfl, rfl⟩)
  go_ret
  have hg := ((Grown.refl w).alloc #[.int .i64 a, .int .i64 b, .int .i64 c] 42).alloc
  first | exact ⟨rfl, hg _ _⟩ | exact ⟨ret_bool (by simp; omega), hg _ _⟩
set_option maxRecDepth 100000 in
set_option maxHeartbeats 400000 in
theorem order_ny (a b c x y z B : Int) (w : World) (HT : Hid (∀ o o', Tab ((w.alloc o).alloc o')))
    (K1 : Hid (∀ w', Tab w' → Calls Tryd.prog 17 #[.int .i64 a, .int .i64 b, .int .i64 c] w' fun e w'' => e = .returned (.tuple #[.int .i64 0, .int .i64 2]) ∧ w' = w''))
    (K2 : Hid (∀ w', Tab w' → Calls Tryd.prog 17 #[.int .i64 x, .int .i64 y, .int .i64 z] w' fun e w'' => e = .returned (.tuple #[.int .i64 B, .int .i64 0]) ∧ w' = w'')) :
    Calls Tryd.prog 6 #[.agg #[.int .i64 a, .int .i64 b, .int .i64 c], .agg #[.int .i64 x, .int .i64 y, .int .i64 z]] w fun e w' => e = .returned (.bool true) ∧ Grown w w' := by
  go_enter Tryd.func6, Tryd.ntmps6
  go_wp2_with fail
  refine (K1.out _ (HT.out _ _)).mono ?_
  rintro e w' ⟨rfl, rfl⟩
  go_wp2_with fail
  refine (K2.out _ (HT.out _ _)).mono ?_
  rintro e w' ⟨rfl, rfl⟩
  go_wp2_with (go_at_call 12; refine (head_c _ (HT.out _ _)).mono ?_; rintro e w' ⟨rfl, rfl⟩)
  go_ret
  have hg := ((Grown.refl w).alloc #[.int .i64 a, .int .i64 b, .int .i64 c] 42).alloc
  first | exact ⟨rfl, hg _ _⟩ | exact ⟨ret_bool (by simp; omega), hg _ _⟩
set_option maxRecDepth 100000 in
set_option maxHeartbeats 400000 in
theorem order_yn (a b c x y z A : Int) (w : World) (HT : Hid (∀ o o', Tab ((w.alloc o).alloc o')))
    (K1 : Hid (∀ w', Tab w' → Calls Tryd.prog 17 #[.int .i64 a, .int .i64 b, .int .i64 c] w' fun e w'' => e = .returned (.tuple #[.int .i64 A, .int .i64 0]) ∧ w' = w''))
    (K2 : Hid (∀ w', Tab w' → Calls Tryd.prog 17 #[.int .i64 x, .int .i64 y, .int .i64 z] w' fun e w'' => e = .returned (.tuple #[.int .i64 0, .int .i64 2]) ∧ w' = w'')) :
    Calls Tryd.prog 6 #[.agg #[.int .i64 a, .int .i64 b, .int .i64 c], .agg #[.int .i64 x, .int .i64 y, .int .i64 z]] w fun e w' => e = .returned (.bool true) ∧ Grown w w' := by
  go_enter Tryd.func6, Tryd.ntmps6
  go_wp2_with fail
  refine (K1.out _ (HT.out _ _)).mono ?_
  rintro e w' ⟨rfl, rfl⟩
  go_wp2_with fail
  refine (K2.out _ (HT.out _ _)).mono ?_
  rintro e w' ⟨rfl, rfl⟩
  go_wp2_with (go_at_call 12; refine (head_c _ (HT.out _ _)).mono ?_; rintro e w' ⟨rfl, rfl⟩)
  go_ret
  have hg := ((Grown.refl w).alloc #[.int .i64 a, .int .i64 b, .int .i64 c] 42).alloc
  first | exact ⟨rfl, hg _ _⟩ | exact ⟨ret_bool (by simp; omega), hg _ _⟩
set_option maxRecDepth 100000 in
set_option maxHeartbeats 400000 in
theorem order_y (a b c x y z A B : Int) (w : World) (HT : Hid (∀ o o', Tab ((w.alloc o).alloc o')))
    (K1 : Hid (∀ w', Tab w' → Calls Tryd.prog 17 #[.int .i64 a, .int .i64 b, .int .i64 c] w' fun e w'' => e = .returned (.tuple #[.int .i64 A, .int .i64 0]) ∧ w' = w''))
    (K2 : Hid (∀ w', Tab w' → Calls Tryd.prog 17 #[.int .i64 x, .int .i64 y, .int .i64 z] w' fun e w'' => e = .returned (.tuple #[.int .i64 B, .int .i64 0]) ∧ w' = w'')) (_hAB : A < B) (_h : a < x) :
    Calls Tryd.prog 6 #[.agg #[.int .i64 a, .int .i64 b, .int .i64 c], .agg #[.int .i64 x, .int .i64 y, .int .i64 z]] w fun e w' => e = .returned (.bool true) ∧ Grown w w' := by
  go_enter Tryd.func6, Tryd.ntmps6
  go_wp2_with fail
  refine (K1.out _ (HT.out _ _)).mono ?_
  rintro e w' ⟨rfl, rfl⟩
  go_wp2_with fail
  refine (K2.out _ (HT.out _ _)).mono ?_
  rintro e w' ⟨rfl, rfl⟩
  go_wp2_with (go_at_call 12; refine (head_c _ (HT.out _ _)).mono ?_; rintro e w' ⟨rfl, rfl⟩)
  go_ret
  have hg := ((Grown.refl w).alloc #[.int .i64 a, .int .i64 b, .int .i64 c] 42).alloc
  first | exact ⟨rfl, hg _ _⟩ | exact ⟨ret_bool (by simp; omega), hg _ _⟩
set_option maxRecDepth 100000 in
set_option maxHeartbeats 400000 in
theorem order_m (a b c y z A B : Int) (w : World) (HT : Hid (∀ o o', Tab ((w.alloc o).alloc o')))
    (K1 : Hid (∀ w', Tab w' → Calls Tryd.prog 17 #[.int .i64 a, .int .i64 b, .int .i64 c] w' fun e w'' => e = .returned (.tuple #[.int .i64 A, .int .i64 0]) ∧ w' = w''))
    (K2 : Hid (∀ w', Tab w' → Calls Tryd.prog 17 #[.int .i64 a, .int .i64 y, .int .i64 z] w' fun e w'' => e = .returned (.tuple #[.int .i64 B, .int .i64 0]) ∧ w' = w'')) (_hAB : A < B) (_h : b < y) :
    Calls Tryd.prog 6 #[.agg #[.int .i64 a, .int .i64 b, .int .i64 c], .agg #[.int .i64 a, .int .i64 y, .int .i64 z]] w fun e w' => e = .returned (.bool true) ∧ Grown w w' := by
  go_enter Tryd.func6, Tryd.ntmps6
  go_wp2_with fail
  refine (K1.out _ (HT.out _ _)).mono ?_
  rintro e w' ⟨rfl, rfl⟩
  go_wp2_with fail
  refine (K2.out _ (HT.out _ _)).mono ?_
  rintro e w' ⟨rfl, rfl⟩
  go_wp2_with (go_at_call 12; refine (head_c _ (HT.out _ _)).mono ?_; rintro e w' ⟨rfl, rfl⟩)
  go_ret
  have hg := ((Grown.refl w).alloc #[.int .i64 a, .int .i64 b, .int .i64 c] 42).alloc
  first | exact ⟨rfl, hg _ _⟩ | exact ⟨ret_bool (by simp; omega), hg _ _⟩
set_option maxRecDepth 100000 in
set_option maxHeartbeats 400000 in
theorem order_d (a b c z A B : Int) (w : World) (HT : Hid (∀ o o', Tab ((w.alloc o).alloc o')))
    (K1 : Hid (∀ w', Tab w' → Calls Tryd.prog 17 #[.int .i64 a, .int .i64 b, .int .i64 c] w' fun e w'' => e = .returned (.tuple #[.int .i64 A, .int .i64 0]) ∧ w' = w''))
    (K2 : Hid (∀ w', Tab w' → Calls Tryd.prog 17 #[.int .i64 a, .int .i64 b, .int .i64 z] w' fun e w'' => e = .returned (.tuple #[.int .i64 B, .int .i64 0]) ∧ w' = w'')) (_hAB : A < B) (_h : c < z) :
    Calls Tryd.prog 6 #[.agg #[.int .i64 a, .int .i64 b, .int .i64 c], .agg #[.int .i64 a, .int .i64 b, .int .i64 z]] w fun e w' => e = .returned (.bool true) ∧ Grown w w' := by
  go_enter Tryd.func6, Tryd.ntmps6
  go_wp2_with fail
  refine (K1.out _ (HT.out _ _)).mono ?_
  rintro e w' ⟨rfl, rfl⟩
  go_wp2_with fail
  refine (K2.out _ (HT.out _ _)).mono ?_
  rintro e w' ⟨rfl, rfl⟩
  go_wp2_with (go_at_call 12; refine (head_c _ (HT.out _ _)).mono ?_; rintro e w' ⟨rfl, rfl⟩)
  go_ret
  have hg := ((Grown.refl w).alloc #[.int .i64 a, .int .i64 b, .int .i64 c] 42).alloc
  first | exact ⟨rfl, hg _ _⟩ | exact ⟨ret_bool (by simp; omega), hg _ _⟩
set_option maxRecDepth 100000 in
set_option maxHeartbeats 400000 in
theorem order_e (a b c A : Int) (w : World) (HT : Hid (∀ o o', Tab ((w.alloc o).alloc o')))
    (K1 : Hid (∀ w', Tab w' → Calls Tryd.prog 17 #[.int .i64 a, .int .i64 b, .int .i64 c] w' fun e w'' => e = .returned (.tuple #[.int .i64 A, .int .i64 0]) ∧ w' = w''))
    (K2 : Hid (∀ w', Tab w' → Calls Tryd.prog 17 #[.int .i64 a, .int .i64 b, .int .i64 c] w' fun e w'' => e = .returned (.tuple #[.int .i64 A, .int .i64 0]) ∧ w' = w'')) :
    Calls Tryd.prog 6 #[.agg #[.int .i64 a, .int .i64 b, .int .i64 c], .agg #[.int .i64 a, .int .i64 b, .int .i64 c]] w fun e w' => e = .returned (.bool true) ∧ Grown w w' := by
  go_enter Tryd.func6, Tryd.ntmps6
  go_wp2_with fail
  refine (K1.out _ (HT.out _ _)).mono ?_
  rintro e w' ⟨rfl, rfl⟩
  go_wp2_with fail
  refine (K2.out _ (HT.out _ _)).mono ?_
  rintro e w' ⟨rfl, rfl⟩
  go_wp2_with (go_at_call 12; refine (head_c _ (HT.out _ _)).mono ?_; rintro e w' ⟨rfl, rfl⟩)
  go_ret
  have hg := ((Grown.refl w).alloc #[.int .i64 a, .int .i64 b, .int .i64 c] 42).alloc
  first | exact ⟨rfl, hg _ _⟩ | exact ⟨ret_bool (by simp; omega), hg _ _⟩
set_option maxRecDepth 100000 in
set_option maxHeartbeats 400000 in
theorem order_y2 (a b c x y z A B : Int) (w : World) (HT : Hid (∀ o o', Tab ((w.alloc o).alloc o')))
    (K1 : Hid (∀ w', Tab w' → Calls Tryd.prog 17 #[.int .i64 a, .int .i64 b, .int .i64 c] w' fun e w'' => e = .returned (.tuple #[.int .i64 A, .int .i64 0]) ∧ w' = w''))
    (K2 : Hid (∀ w', Tab w' → Calls Tryd.prog 17 #[.int .i64 x, .int .i64 y, .int .i64 z] w' fun e w'' => e = .returned (.tuple #[.int .i64 B, .int .i64 0]) ∧ w' = w'')) (_hAB : B < A) (_h : x < a) :
    Calls Tryd.prog 6 #[.agg #[.int .i64 a, .int .i64 b, .int .i64 c], .agg #[.int .i64 x, .int .i64 y, .int .i64 z]] w fun e w' => e = .returned (.bool true) ∧ Grown w w' := by
  go_enter Tryd.func6, Tryd.ntmps6
  go_wp2_with fail
  refine (K1.out _ (HT.out _ _)).mono ?_
  rintro e w' ⟨rfl, rfl⟩
  go_wp2_with fail
  refine (K2.out _ (HT.out _ _)).mono ?_
  rintro e w' ⟨rfl, rfl⟩
  go_wp2_with (go_at_call 12; refine (head_c _ (HT.out _ _)).mono ?_; rintro e w' ⟨rfl, rfl⟩)
  go_ret
  have hg := ((Grown.refl w).alloc #[.int .i64 a, .int .i64 b, .int .i64 c] 42).alloc
  first | exact ⟨rfl, hg _ _⟩ | exact ⟨ret_bool (by simp; omega), hg _ _⟩
set_option maxRecDepth 100000 in
set_option maxHeartbeats 400000 in
theorem order_m2 (a b c y z A B : Int) (w : World) (HT : Hid (∀ o o', Tab ((w.alloc o).alloc o')))
    (K1 : Hid (∀ w', Tab w' → Calls Tryd.prog 17 #[.int .i64 a, .int .i64 b, .int .i64 c] w' fun e w'' => e = .returned (.tuple #[.int .i64 A, .int .i64 0]) ∧ w' = w''))
    (K2 : Hid (∀ w', Tab w' → Calls Tryd.prog 17 #[.int .i64 a, .int .i64 y, .int .i64 z] w' fun e w'' => e = .returned (.tuple #[.int .i64 B, .int .i64 0]) ∧ w' = w'')) (_hAB : B < A) (_h : y < b) :
    Calls Tryd.prog 6 #[.agg #[.int .i64 a, .int .i64 b, .int .i64 c], .agg #[.int .i64 a, .int .i64 y, .int .i64 z]] w fun e w' => e = .returned (.bool true) ∧ Grown w w' := by
  go_enter Tryd.func6, Tryd.ntmps6
  go_wp2_with fail
  refine (K1.out _ (HT.out _ _)).mono ?_
  rintro e w' ⟨rfl, rfl⟩
  go_wp2_with fail
  refine (K2.out _ (HT.out _ _)).mono ?_
  rintro e w' ⟨rfl, rfl⟩
  go_wp2_with (go_at_call 12; refine (head_c _ (HT.out _ _)).mono ?_; rintro e w' ⟨rfl, rfl⟩)
  go_ret
  have hg := ((Grown.refl w).alloc #[.int .i64 a, .int .i64 b, .int .i64 c] 42).alloc
  first | exact ⟨rfl, hg _ _⟩ | exact ⟨ret_bool (by simp; omega), hg _ _⟩
set_option maxRecDepth 100000 in
set_option maxHeartbeats 400000 in
theorem order_d2 (a b c z A B : Int) (w : World) (HT : Hid (∀ o o', Tab ((w.alloc o).alloc o')))
    (K1 : Hid (∀ w', Tab w' → Calls Tryd.prog 17 #[.int .i64 a, .int .i64 b, .int .i64 c] w' fun e w'' => e = .returned (.tuple #[.int .i64 A, .int .i64 0]) ∧ w' = w''))
    (K2 : Hid (∀ w', Tab w' → Calls Tryd.prog 17 #[.int .i64 a, .int .i64 b, .int .i64 z] w' fun e w'' => e = .returned (.tuple #[.int .i64 B, .int .i64 0]) ∧ w' = w'')) (_hAB : B < A) (_h : z < c) :
    Calls Tryd.prog 6 #[.agg #[.int .i64 a, .int .i64 b, .int .i64 c], .agg #[.int .i64 a, .int .i64 b, .int .i64 z]] w fun e w' => e = .returned (.bool true) ∧ Grown w w' := by
  go_enter Tryd.func6, Tryd.ntmps6
  go_wp2_with fail
  refine (K1.out _ (HT.out _ _)).mono ?_
  rintro e w' ⟨rfl, rfl⟩
  go_wp2_with fail
  refine (K2.out _ (HT.out _ _)).mono ?_
  rintro e w' ⟨rfl, rfl⟩
  go_wp2_with (go_at_call 12; refine (head_c _ (HT.out _ _)).mono ?_; rintro e w' ⟨rfl, rfl⟩)
  go_ret
  have hg := ((Grown.refl w).alloc #[.int .i64 a, .int .i64 b, .int .i64 c] 42).alloc
  first | exact ⟨rfl, hg _ _⟩ | exact ⟨ret_bool (by simp; omega), hg _ _⟩

/-- Earlier dates, earlier days. -/
theorem day_lt {a b c x y z : Int} (hp : Valid a b c) (hq : Valid x y z) (h : a < x ∨ a = x ∧ (b < y ∨ b = y ∧ c < z)) : Civ.U a b + c < Civ.U x y + z := by
  obtain ⟨a1, a2, a3, a4, a5, a6⟩ := hp
  obtain ⟨b1, b2, b3, b4, b5, b6⟩ := hq
  by_cases h' : a < x ∨ a = x ∧ b < y
  · have := Civ.U_mono a b x y a3 a4 b3 b4 h'
    omega
  · obtain ⟨rfl, rfl⟩ : a = x ∧ b = y := by omega
    omega
theorem order_c (a b c x y z : Int) (w : World) (hw : Tab w) (b1 : -9223372036854775808 ≤ c ∧ c ≤ 9223372036854775807) (b2 : -9223372036854775808 ≤ z ∧ z ≤ 9223372036854775807) :
    Calls Tryd.prog 6 #[.agg #[.int .i64 a, .int .i64 b, .int .i64 c], .agg #[.int .i64 x, .int .i64 y, .int .i64 z]] w fun e w' => e = .returned (.bool true) ∧ Grown w w' := by
  have HT := Lib.hid (fun o o' => (hw.alloc o).alloc o')
  by_cases hp : Valid a b c
  · by_cases hq : Valid x y z
    · have K1 := Lib.hid (fun w' hw' => day_yes a b c w' hw' hp)
      have K2 := Lib.hid (fun w' hw' => day_yes x y z w' hw' hq)
      by_cases h1 : a < x
      · exact order_y _ _ _ _ _ _ _ _ w HT K1 K2 (day_lt hp hq (by omega)) h1
      by_cases h2 : x < a
      · exact order_y2 _ _ _ _ _ _ _ _ w HT K1 K2 (day_lt hq hp (by omega)) h2
      obtain rfl : a = x := by omega
      by_cases h3 : b < y
      · exact order_m _ _ _ _ _ _ _ w HT K1 K2 (day_lt hp hq (by omega)) h3
      by_cases h4 : y < b
      · exact order_m2 _ _ _ _ _ _ _ w HT K1 K2 (day_lt hq hp (by omega)) h4
      obtain rfl : b = y := by omega
      by_cases h5 : c < z
      · exact order_d _ _ _ _ _ _ w HT K1 K2 (day_lt hp hq (by omega)) h5
      by_cases h6 : z < c
      · exact order_d2 _ _ _ _ _ _ w HT K1 K2 (day_lt hq hp (by omega)) h6
      obtain rfl : c = z := by omega
      exact order_e _ _ _ _ w HT K1 K2
    · exact order_yn _ _ _ _ _ _ _ w HT (Lib.hid (fun w' hw' => day_yes a b c w' hw' hp)) (Lib.hid (fun w' hw' => day_no x y z w' hw' hq b2))
  · by_cases hq : Valid x y z
    · exact order_ny _ _ _ _ _ _ _ w HT (Lib.hid (fun w' hw' => day_no a b c w' hw' hp b1)) (Lib.hid (fun w' hw' => day_yes x y z w' hw' hq))
    · exact order_nn _ _ _ _ _ _ w HT (Lib.hid (fun w' hw' => day_no a b c w' hw' hp b1)) (Lib.hid (fun w' hw' => day_no x y z w' hw' hq b2))
end Go.Proofs.YtehofpmkplkaaabDoor
