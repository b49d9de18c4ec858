/- Package prorate: Due, On, Change. -/
import Derived.Test.YtlmhifdilmnlnaaDoorAmDivs
import Derived.Test.YtlmhifdilmnlnaaDoorPrHas
namespace Go.Proofs.YtlmhifdilmnlnaaDoor.Pr
open Go.RowKit
/-- What has a part. -/
structure Dv (amt d m : Int) : Prop where
  a0 : 0 ≤ amt
  a1 : amt < 4611686018427387904
  m0 : 1 ≤ m
  m1 : m ≤ 3652059
  d0 : 0 ≤ d
  d1 : d ≤ m
def du (amt d m : Int) : Int := amt * d / m
theorem du_lo {amt d m : Int} (h : Dv amt d m) : 0 ≤ du amt d m := Int.ediv_nonneg (Int.mul_nonneg h.a0 h.d0) (by have := h.m0; omega)
theorem du_mono {amt d e m : Int} (h : Dv amt d m) (k : d ≤ e) : du amt d m ≤ du amt e m :=
  Int.ediv_le_ediv (by have := h.m0; omega) (Int.mul_le_mul_of_nonneg_left k h.a0)
theorem du_all {amt m : Int} (h : 1 ≤ m) : du amt m m = amt := Int.mul_ediv_cancel _ (by omega)
theorem du_0 (amt m : Int) : du amt 0 m = 0 := by unfold du; simp
theorem du_hi {amt d m : Int} (h : Dv amt d m) : du amt d m ≤ amt := by
  have := du_mono h h.d1
  rwa [du_all h.m0] at this
theorem Dv.not {amt d m : Int} (h : ¬ Dv amt d m) : amt < 0 ∨ (0 ≤ amt ∧ 4611686018427387904 ≤ amt) ∨ (0 ≤ amt ∧ amt < 4611686018427387904 ∧ (m < 1 ∨ 3652059 < m)) ∨ (0 ≤ amt ∧ amt < 4611686018427387904 ∧ 1 ≤ m ∧ m ≤ 3652059 ∧ (d < 0 ∨ m < d)) := by
  by_cases h1 : 0 ≤ amt
  · by_cases h2 : amt < 4611686018427387904
    · by_cases h3 : 1 ≤ m
      · by_cases h4 : m ≤ 3652059
        · by_cases h5 : 0 ≤ d ∧ d ≤ m
          · exact absurd ⟨h1, h2, h3, h4, h5.1, h5.2⟩ h
          · omega
        · omega
      · omega
    · omega
  · omega
theorem mk_fn : ∀ (fn : Fn) (first cap : Array Value) (w : World), (Instr.makeFunc fn first cap).run Tryd.prog w = .ok (.func fn first cap) w := fun _ _ _ _ => rfl
set_option maxHeartbeats 800000 in
theorem due_ok (amt d m : Int) (w : World) (h : Dv amt d m) :
    Calls Tryd.prog 14 #[.int .i64 amt, .int .i64 d, .int .i64 m] w fun e w' => e = .returned (.tuple #[.int .i64 (du amt d m), .int .i64 0]) ∧ Below w.heap.size w w' := by
  obtain ⟨a0, a1, m0, m1, d0, d1⟩ := id h
  have K1 := Lib.hid (fun w => has_yes m0 m1 ▸ all_new 1 3652059 m w)
  have K2 := Lib.hid (fun w => has_yes d0 d1 ▸ all_new 0 m d w)
  have l := du_lo h
  have u := du_hi h
  have KM := Lib.hid (fun w => muldiv_in amt d m (du amt d m) (amt * d % m) w ⟨by omega, by omega⟩ ⟨by omega, by omega⟩ m0 (by omega) rfl rfl (by omega) (by omega))
  clear h l u
  generalize du amt d m = q at *
  have hmf := mk_fn
  go_enter Tryd.func14, Tryd.ntmps14
  go_wp2_with fail
  refine (K1.out _).mono ?_
  rintro e w1 ⟨rfl, b1⟩
  go_wp2_with fail
  refine (K2.out _).mono ?_
  rintro e w2 ⟨rfl, b2⟩
  have B2 := Lib.hid (then_below b1 b2)
  clear b1 b2
  go_wp2_with fail
  refine (KM.out _).mono ?_
  rintro e w3 ⟨rfl, b3⟩
  have B3 := Lib.hid (then_below B2.out b3)
  clear b3
  go_wp2_with fail
  go_ret2
  exact ⟨rfl, B3.out⟩
set_option maxHeartbeats 800000 in
theorem due_no (amt d m : Int) (w : World) (h : ¬ Dv amt d m) :
    Calls Tryd.prog 14 #[.int .i64 amt, .int .i64 d, .int .i64 m] w fun e w' => e = .returned (.tuple #[.int .i64 0, .int .i64 2]) ∧ Below w.heap.size w w' := by
  have hmf := mk_fn
  rcases Dv.not h with h1 | ⟨h0, h1⟩ | ⟨h0, h1, h2⟩ | ⟨h0, h1, h2, h3, h4⟩ <;> clear h
  · have hd : decide (amt < 0) = true := decide_eq_true h1
    clear h1
    go_enter Tryd.func14, Tryd.ntmps14
    go_wp2_with fail
    go_ret2
    exact ⟨rfl, Below.refl _ _⟩
  · have hd : decide (4611686018427387904 ≤ amt) = true := decide_eq_true h1
    clear h1
    go_enter Tryd.func14, Tryd.ntmps14
    go_wp2_with fail
    go_ret2
    exact ⟨rfl, Below.refl _ _⟩
  · have K1 := Lib.hid (fun w => has_no h2 ▸ all_new 1 3652059 m w)
    clear h2
    go_enter Tryd.func14, Tryd.ntmps14
    go_wp2_with fail
    refine (K1.out _).mono ?_
    rintro e w1 ⟨rfl, b1⟩
    go_wp2_with fail
    go_ret2
    exact ⟨rfl, b1⟩
  · have K1 := Lib.hid (fun w => has_yes h2 h3 ▸ all_new 1 3652059 m w)
    have K2 := Lib.hid (fun w => has_no h4 ▸ all_new 0 m d w)
    clear h4
    go_enter Tryd.func14, Tryd.ntmps14
    go_wp2_with fail
    refine (K1.out _).mono ?_
    rintro e w1 ⟨rfl, b1⟩
    go_wp2_with fail
    refine (K2.out _).mono ?_
    rintro e w2 ⟨rfl, b2⟩
    have B2 := Lib.hid (then_below b1 b2)
    clear b1 b2
    go_wp2_with fail
    go_ret2
    exact ⟨rfl, B2.out⟩
/-- Which days have a part between them. -/
structure Ov (amt a b m : Int) : Prop where
  le : a ≤ b
  n : Dv amt b m
  f : Dv amt a m
theorem Ov.not {amt a b m : Int} (h : ¬ Ov amt a b m) : b < a ∨ (a ≤ b ∧ ¬ Dv amt b m) ∨ (a ≤ b ∧ Dv amt b m ∧ ¬ Dv amt a m) := by
  by_cases h1 : a ≤ b
  · by_cases h2 : Dv amt b m
    · by_cases h3 : Dv amt a m
      · exact absurd ⟨h1, h2, h3⟩ h
      · exact Or.inr (Or.inr ⟨h1, h2, h3⟩)
    · exact Or.inr (Or.inl ⟨h1, h2⟩)
  · omega
set_option maxHeartbeats 800000 in
theorem on_ok (amt a b m : Int) (w : World) (h : Ov amt a b m) :
    Calls Tryd.prog 16 #[.int .i64 amt, .int .i64 a, .int .i64 b, .int .i64 m] w fun e w' => e = .returned (.tuple #[.int .i64 (du amt b m - du amt a m), .int .i64 0]) ∧ Below w.heap.size w w' := by
  obtain ⟨h1, h2, h3⟩ := h
  have K1 := Lib.hid (fun w => due_ok amt b m w h2)
  have K2 := Lib.hid (fun w => due_ok amt a m w h3)
  have l1 := du_lo h2
  have l2 := du_lo h3
  have l3 := du_hi h2
  have l4 := du_hi h3
  have l5 := h2.a1
  clear h2 h3
  generalize du amt b m = p at *
  generalize du amt a m = q at *
  go_enter Tryd.func16, Tryd.ntmps16
  go_wp2_with fail
  refine (K1.out _).mono ?_
  rintro e w1 ⟨rfl, b1⟩
  go_wp2_with fail
  refine (K2.out _).mono ?_
  rintro e w2 ⟨rfl, b2⟩
  have B2 := Lib.hid (then_below b1 b2)
  clear b1 b2
  go_wp2_with fail
  go_ret2
  exact ⟨rfl, B2.out⟩
set_option maxHeartbeats 800000 in
theorem on_no (amt a b m : Int) (w : World) (h : ¬ Ov amt a b m) :
    Calls Tryd.prog 16 #[.int .i64 amt, .int .i64 a, .int .i64 b, .int .i64 m] w fun e w' => e = .returned (.tuple #[.int .i64 0, .int .i64 2]) ∧ Below w.heap.size w w' := by
  rcases Ov.not h with h1 | ⟨h1, h2⟩ | ⟨h1, h2, h3⟩ <;> clear h
  · go_enter Tryd.func16, Tryd.ntmps16
    go_wp2_with fail
    go_ret2
    exact ⟨rfl, Below.refl _ _⟩
  · have K1 := Lib.hid (fun w => due_no amt b m w h2)
    clear h2
    go_enter Tryd.func16, Tryd.ntmps16
    go_wp2_with fail
    refine (K1.out _).mono ?_
    rintro e w1 ⟨rfl, b1⟩
    go_wp2_with fail
    go_ret2
    exact ⟨rfl, b1⟩
  · have K1 := Lib.hid (fun w => due_ok amt b m w h2)
    have K2 := Lib.hid (fun w => due_no amt a m w h3)
    clear h2 h3
    generalize du amt b m = p at *
    go_enter Tryd.func16, Tryd.ntmps16
    go_wp2_with fail
    refine (K1.out _).mono ?_
    rintro e w1 ⟨rfl, b1⟩
    go_wp2_with fail
    refine (K2.out _).mono ?_
    rintro e w2 ⟨rfl, b2⟩
    have B2 := Lib.hid (then_below b1 b2)
    clear b1 b2
    go_wp2_with fail
    go_ret2
    exact ⟨rfl, B2.out⟩
set_option maxHeartbeats 800000 in
theorem change_ok (was now d m : Int) (w : World) (h : Ov was d m m) (k : Ov now d m m) :
    Calls Tryd.prog 19 #[.int .i64 was, .int .i64 now, .int .i64 d, .int .i64 m] w fun e w' => e = .returned (.tuple #[.int .i64 (du was m m - du was d m), .int .i64 (du now m m - du now d m), .int .i64 0]) ∧ Below w.heap.size w w' := by
  have K1 := Lib.hid (fun w => on_ok was d m m w h)
  have K2 := Lib.hid (fun w => on_ok now d m m w k)
  clear h k
  generalize du was m m - du was d m = p at *
  generalize du now m m - du now d m = q at *
  go_enter Tryd.func19, Tryd.ntmps19
  go_wp2_with fail
  refine (K1.out _).mono ?_
  rintro e w1 ⟨rfl, b1⟩
  go_wp2_with fail
  refine (K2.out _).mono ?_
  rintro e w2 ⟨rfl, b2⟩
  have B2 := Lib.hid (then_below b1 b2)
  clear b1 b2
  go_wp2_with fail
  go_ret3
  exact ⟨rfl, B2.out⟩
set_option maxHeartbeats 800000 in
theorem change_no (was now d m : Int) (w : World) (h : ¬ Ov was d m m ∨ (Ov was d m m ∧ ¬ Ov now d m m)) :
    Calls Tryd.prog 19 #[.int .i64 was, .int .i64 now, .int .i64 d, .int .i64 m] w fun e w' => e = .returned (.tuple #[.int .i64 0, .int .i64 0, .int .i64 2]) ∧ Below w.heap.size w w' := by
  rcases h with h | ⟨h, k⟩
  · have K1 := Lib.hid (fun w => on_no was d m m w h)
    clear h
    go_enter Tryd.func19, Tryd.ntmps19
    go_wp2_with fail
    refine (K1.out _).mono ?_
    rintro e w1 ⟨rfl, b1⟩
    go_wp2_with fail
    go_ret3
    exact ⟨rfl, b1⟩
  · have K1 := Lib.hid (fun w => on_ok was d m m w h)
    have K2 := Lib.hid (fun w => on_no now d m m w k)
    clear h k
    generalize du was m m - du was d m = p at *
    go_enter Tryd.func19, Tryd.ntmps19
    go_wp2_with fail
    refine (K1.out _).mono ?_
    rintro e w1 ⟨rfl, b1⟩
    go_wp2_with fail
    refine (K2.out _).mono ?_
    rintro e w2 ⟨rfl, b2⟩
    have B2 := Lib.hid (then_below b1 b2)
    clear b1 b2
    go_wp2_with fail
    go_ret3
    exact ⟨rfl, B2.out⟩
end Go.Proofs.YtlmhifdilmnlnaaDoor.Pr
