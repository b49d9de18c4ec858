/- The document's invoices: which may be, and what is open. -/
import Derived.Test.YtaidijbjpogpeaaDoorInLose
namespace Go.Proofs.YtaidijbjpogpeaaDoor.Inv
open Go.RowKit
theorem ret_ib {j : IntKind} {a b : Int} {c d : Bool} (h : a = b) (h' : c = d) : Ending.returned (.tuple #[.int j a, .bool c]) = .returned (.tuple #[.int j b, .bool d]) := by rw [h, h']
theorem rday_c (d : Int) (w : World) :
    Calls Tryd.prog 29 #[.int .i64 d] w fun e w' => e = .returned (.bool (decide (1 ≤ d ∧ d ≤ 3652059))) ∧ w = w' := by
  by_cases h1 : 1 ≤ d
  · by_cases h2 : d ≤ 3652059
    · go_enter Tryd.func29, Tryd.ntmps29
      go_wp2
      go_ret
      exact ⟨ret_bool (by rw [decide_eq_true (by omega)]), rfl⟩
    · go_enter Tryd.func29, Tryd.ntmps29
      go_wp2
      go_ret
      exact ⟨ret_bool (by rw [decide_eq_false (by omega)]), rfl⟩
  · go_enter Tryd.func29, Tryd.ntmps29
    go_wp2
    go_ret
    exact ⟨ret_bool (by simp; omega), rfl⟩
theorem rday_k (d : Int) (b : Bool) (w : World) (h : decide (1 ≤ d ∧ d ≤ 3652059) = b) :
    Calls Tryd.prog 29 #[.int .i64 d] w fun e w' => e = .returned (.bool b) ∧ w = w' := by
  subst h; exact rday_c d w
theorem rday_t (d : Int) (w : World) (h1 : 1 ≤ d) (h2 : d ≤ 3652059) :
    Calls Tryd.prog 29 #[.int .i64 d] w fun e w' => e = .returned (.bool true) ∧ w = w' := rday_k d true w (by simp; omega)
theorem rpart_c (n a : Int) (w : World) :
    Calls Tryd.prog 30 #[.int .i64 n, .int .i64 a] w fun e w' => e = .returned (.bool (decide (0 ≤ n ∧ n ≤ a))) ∧ w = w' := by
  by_cases h1 : 0 ≤ n
  · by_cases h2 : n ≤ a
    · go_enter Tryd.func30, Tryd.ntmps30
      go_wp2
      go_ret
      exact ⟨ret_bool (by rw [decide_eq_true (by omega)]), rfl⟩
    · go_enter Tryd.func30, Tryd.ntmps30
      go_wp2
      go_ret
      exact ⟨ret_bool (by rw [decide_eq_false (by omega)]), rfl⟩
  · go_enter Tryd.func30, Tryd.ntmps30
    go_wp2
    go_ret
    exact ⟨ret_bool (by simp; omega), rfl⟩
theorem rpart_k (n a : Int) (b : Bool) (w : World) (h : decide (0 ≤ n ∧ n ≤ a) = b) :
    Calls Tryd.prog 30 #[.int .i64 n, .int .i64 a] w fun e w' => e = .returned (.bool b) ∧ w = w' := by
  subst h; exact rpart_c n a w
theorem rpart_t (n a : Int) (w : World) (h1 : 0 ≤ n) (h2 : n ≤ a) :
    Calls Tryd.prog 30 #[.int .i64 n, .int .i64 a] w fun e w' => e = .returned (.bool true) ∧ w = w' := rpart_k n a true w (by simp; omega)
set_option maxRecDepth 100000 in
set_option maxHeartbeats 800000 in
theorem ropen_yes (x : Iv) (w : World) (hk : x.Ok) :
    Calls Tryd.prog 15 #[x.val] w fun e w' => e = .returned (.tuple #[.int .i64 x.left, .bool true]) ∧ Below w.heap.size w w' := by
  obtain ⟨i, cu, co, d, du, fr, nx, a, c, p, l⟩ := x
  have HL := Lib.hid hk.left
  obtain ⟨k1, k2, k3, k4, k5, k6, k7, k8, k9, k10, k11, k12, k13, k14⟩ := hk
  unfold Iv.val Iv.cells
  simp only at k1 k2 k3 k4 k5 k6 k7 k8 k9 k10 k11 k12 HL
  rw [k14] at k13
  simp only at k13
  have e1 : (i == 0) = false := by simp; omega
  have e2 : (cu == 0) = false := by simp; omega
  have e3 : ¬ du < d := by omega
  have e4 : ¬ nx ≤ fr := by omega
  have e5 : ¬ 3652060 < nx := by omega
  have e6 : ¬ a < 0 := by omega
  have e7 : ¬ 4611686018427387904 ≤ a := by omega
  have e8 : ¬ a - c < p := by omega
  have e9 : ¬ a - c - p < l := by omega
  have g1 : 0 ≤ a - c := by omega
  have g2 : a - c ≤ 9223372036854775807 := by omega
  have g3 : 0 ≤ a - c - p := by omega
  have g4 : 0 ≤ a - c - p - l := by omega
  clear k1 k2 k5 k7 k8 k14
  obtain ⟨k3, k3'⟩ := k3
  obtain ⟨k4, k4'⟩ := k4
  obtain ⟨k6, k6'⟩ := k6
  obtain ⟨k9, k9'⟩ := k9
  go_enter Tryd.func15, Tryd.ntmps15
  go_wp2_with (first | (go_at_call 29; refine (rday_t _ _ (by omega) (by omega)).mono ?_; rintro e w' ⟨rfl, rfl⟩) | (go_at_call 30; refine (rpart_t _ _ _ (by omega) (by omega)).mono ?_; rintro e w' ⟨rfl, rfl⟩))
  go_ret2
  exact ⟨ret_ib HL.out.symm rfl, (Below.refl _ _).alloc (Nat.le_refl _) _⟩
set_option maxRecDepth 100000 in
set_option maxHeartbeats 1600000 in
theorem ropen_no (x : Iv) (w : World) (hx : x.Fits) (hk : x.okB = false) :
    Calls Tryd.prog 15 #[x.val] w fun e w' => e = .returned (.tuple #[.int .i64 0, .bool false]) ∧ Below w.heap.size w w' := by
  have HN : ¬ x.Ok := fun h => by rw [(okB_iff x).2 h] at hk; cases hk
  obtain ⟨i, cu, co, d, du, fr, nx, a, c, p, l⟩ := x
  have HX := Lib.hid (show 0 ≤ i ∧ 0 ≤ cu from ⟨hx.id.1, hx.cust.1⟩)
  have HM := Lib.hid HN
  clear hk hx HN
  unfold Iv.val Iv.cells
  go_enter Tryd.func15, Tryd.ntmps15
  go_wp2_with (first | (go_at_call 29; refine (rday_c _ _).mono ?_; rintro e w' ⟨rfl, rfl⟩) | (go_at_call 30; refine (rpart_c _ _ _).mono ?_; rintro e w' ⟨rfl, rfl⟩))
  all_goals (first | (go_ret2; exact ⟨rfl, (Below.refl _ _).alloc (Nat.le_refl _) _⟩) | skip)
  rename_i h1 h2 h3 h4 h5 h6 h7 h8' h8 h9 h10 h11 h13 h14 h15
  exfalso
  have hl : 0 ≤ l := by have := h13.2.1; simpa using this
  have hi := HX.out
  have hlf : (Iv.mk i cu co d du fr nx a c p l).left = a - c - p - l := by
    simp only [Iv.left, off]
    rw [if_pos h8, if_pos (by omega), if_pos (by omega)]
  exact HM.out ⟨by show 0 < i; omega, by show 0 < cu; omega, h3, h4, h5, h6, h7, h8'.2, ⟨h8, h9⟩, h10.1, h11.1, hl, by rw [hlf]; omega, hlf⟩
/-- What the document's Open tells. -/
theorem ropen_c (x : Iv) (w : World) (hx : x.Fits) :
    Calls Tryd.prog 15 #[x.val] w fun e w' => e = .returned (.tuple #[.int .i64 x.opn, .bool x.okB]) ∧ Below w.heap.size w w' := by
  cases h : x.okB with
  | true => rw [show x.opn = x.left by unfold Iv.opn; rw [if_pos h]]; exact ropen_yes x w ((okB_iff x).1 h)
  | false => rw [show x.opn = 0 by unfold Iv.opn; rw [h]; rfl]; exact ropen_no x w hx h
theorem rcheck_yes (x : Iv) (w : World) (hk : x.Ok) :
    Calls Tryd.prog 18 #[x.val] w fun e w' => e = .returned (.int .i64 0) ∧ Below w.heap.size w w' := by
  have ko := Lib.hid (fun w => ropen_yes x w hk)
  clear hk
  obtain ⟨a0, a1, a2, a3, a4, a5, a6, a7, a8, a9, a10, alt⟩ := IvAt.box x w
  have B0 := Lib.hid ((Below.refl _ w).alloc (Nat.le_refl _) (.cells x.cells 24))
  go_enter Tryd.func18, Tryd.ntmps18
  unfold Iv.val
  go_wp2_with fail
  refine (ko.out _).mono ?_
  rintro e w1 ⟨rfl, b1⟩
  have D1 := then_below B0.out b1
  clear b1
  go_wp2_with fail
  go_ret
  exact ⟨rfl, D1⟩
theorem rcheck_no (x : Iv) (w : World) (hx : x.Fits) (hk : x.okB = false) :
    Calls Tryd.prog 18 #[x.val] w fun e w' => e = .returned (.int .i64 2) ∧ Below w.heap.size w w' := by
  have ko := Lib.hid (fun w => ropen_no x w hx hk)
  clear hk hx
  obtain ⟨a0, a1, a2, a3, a4, a5, a6, a7, a8, a9, a10, alt⟩ := IvAt.box x w
  have B0 := Lib.hid ((Below.refl _ w).alloc (Nat.le_refl _) (.cells x.cells 24))
  go_enter Tryd.func18, Tryd.ntmps18
  unfold Iv.val
  go_wp2_with fail
  refine (ko.out _).mono ?_
  rintro e w1 ⟨rfl, b1⟩
  have D1 := then_below B0.out b1
  clear b1
  go_wp2_with fail
  go_ret
  exact ⟨rfl, D1⟩
end Go.Proofs.YtaidijbjpogpeaaDoor.Inv
