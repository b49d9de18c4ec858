/- Package invoices: Late refused; the document's Late. -/
import Derived.Test.YtaidijbjpogpeaaDoorInLate
namespace Go.Proofs.YtaidijbjpogpeaaDoor.Inv
open Go.RowKit
set_option maxRecDepth 100000 in
theorem late_no1 (x : Iv) (day : Int) (w : World) (hx : x.Fits) (hk : x.okB = false) :
    Calls Tryd.prog 20 #[x.val, .int .i64 day] w fun e w' => e = .returned (.tuple #[.int .i64 0, .int .i64 0, .int .i64 2]) ∧ Below w.heap.size w w' := by
  have kc := Lib.hid (fun w => check_no x w hx hk)
  have HB := Lib.hid (IvAt.box x w)
  have B0 := Lib.hid ((Below.refl _ w).alloc (Nat.le_refl _) (.cells x.cells 24))
  clear hx hk
  obtain ⟨a0, a1, a2, a3, a4, a5, a6, a7, a8, a9, a10, alt⟩ := HB.out
  go_enter Tryd.func20, Tryd.ntmps20
  unfold Iv.val
  go_wp2_with fail
  refine (kc.out _).mono ?_
  rintro e w1 ⟨rfl, b1⟩
  have D1 := Lib.hid (then_below B0.out b1)
  clear b1 a0 a1 a2 a3 a4 a5 a6 a7 a8 a9 a10 alt
  go_wp2_with fail
  go_ret3
  exact ⟨rfl, D1.out⟩
set_option maxRecDepth 100000 in
theorem late_no2 (x : Iv) (day : Int) (w : World) (hx : x.Fits) (hk : x.Ok) (hd : decide (1 ≤ day ∧ day ≤ 3652059) = false) :
    Calls Tryd.prog 20 #[x.val, .int .i64 day] w fun e w' => e = .returned (.tuple #[.int .i64 0, .int .i64 0, .int .i64 2]) ∧ Below w.heap.size w w' := by
  have kc := Lib.hid (fun w => check_yes x w hx ((okB_iff x).2 hk))
  have kd := Lib.hid (fun w => isDay_k day false w hd)
  have HB := Lib.hid (IvAt.box x w)
  have B0 := Lib.hid ((Below.refl _ w).alloc (Nat.le_refl _) (.cells x.cells 24))
  clear hx hk hd
  obtain ⟨a0, a1, a2, a3, a4, a5, a6, a7, a8, a9, a10, alt⟩ := HB.out
  go_enter Tryd.func20, Tryd.ntmps20
  unfold Iv.val
  go_wp2_with fail
  refine (kc.out _).mono ?_
  rintro e w1 ⟨rfl, b1⟩
  have D1 := Lib.hid (then_below B0.out b1)
  clear b1 a0 a1 a2 a3 a4 a5 a6 a7 a8 a9 a10 alt
  go_wp2_with fail
  refine (kd.out _).mono ?_
  rintro e w1 ⟨rfl, rfl⟩
  go_wp2_with fail
  go_ret3
  exact ⟨rfl, D1.out⟩
set_option maxRecDepth 100000 in
theorem rlate_no1 (x : Iv) (day : Int) (w : World) (hx : x.Fits) (hk : x.okB = false) :
    Calls Tryd.prog 21 #[x.val, .int .i64 day] w fun e w' => e = .returned (.tuple #[.int .i64 0, .int .i64 0, .int .i64 2]) ∧ Below w.heap.size w w' := by
  have kc := Lib.hid (fun w => rcheck_no x w hx hk)
  have HB := Lib.hid (IvAt.box x w)
  have B0 := Lib.hid ((Below.refl _ w).alloc (Nat.le_refl _) (.cells x.cells 24))
  clear hx hk
  obtain ⟨a0, a1, a2, a3, a4, a5, a6, a7, a8, a9, a10, alt⟩ := HB.out
  go_enter Tryd.func21, Tryd.ntmps21
  unfold Iv.val
  go_wp2_with fail
  refine (kc.out _).mono ?_
  rintro e w1 ⟨rfl, b1⟩
  have D1 := Lib.hid (then_below B0.out b1)
  clear b1 a0 a1 a2 a3 a4 a5 a6 a7 a8 a9 a10 alt
  go_wp2_with fail
  go_ret3
  exact ⟨rfl, D1.out⟩
set_option maxRecDepth 100000 in
theorem rlate_no2 (x : Iv) (day : Int) (w : World) (hk : x.Ok) (hd : decide (1 ≤ day ∧ day ≤ 3652059) = false) :
    Calls Tryd.prog 21 #[x.val, .int .i64 day] w fun e w' => e = .returned (.tuple #[.int .i64 0, .int .i64 0, .int .i64 2]) ∧ Below w.heap.size w w' := by
  have kc := Lib.hid (fun w => rcheck_yes x w hk)
  have kd := Lib.hid (fun w => rday_k day false w hd)
  have HB := Lib.hid (IvAt.box x w)
  have B0 := Lib.hid ((Below.refl _ w).alloc (Nat.le_refl _) (.cells x.cells 24))
  clear hk hd
  obtain ⟨a0, a1, a2, a3, a4, a5, a6, a7, a8, a9, a10, alt⟩ := HB.out
  go_enter Tryd.func21, Tryd.ntmps21
  unfold Iv.val
  go_wp2_with fail
  refine (kc.out _).mono ?_
  rintro e w1 ⟨rfl, b1⟩
  have D1 := Lib.hid (then_below B0.out b1)
  clear b1 a0 a1 a2 a3 a4 a5 a6 a7 a8 a9 a10 alt
  go_wp2_with fail
  refine (kd.out _).mono ?_
  rintro e w1 ⟨rfl, rfl⟩
  go_wp2_with fail
  go_ret3
  exact ⟨rfl, D1.out⟩
set_option maxRecDepth 100000 in
set_option maxHeartbeats 1600000 in
theorem rlate_yes (x : Iv) (day : Int) (w : World) (hk : x.Ok) (h1 : 1 ≤ day) (h2 : day ≤ 3652059) :
    Calls Tryd.prog 21 #[x.val, .int .i64 day] w fun e w' => e = .returned (.tuple #[.int .i64 (x.late day), .int .i64 (ageOf (x.late day)), .int .i64 0]) ∧ Below w.heap.size w w' := by
  have kc := Lib.hid (fun w => rcheck_yes x w hk)
  have kd := Lib.hid (fun w => rday_k day true w (by simp; omega))
  have q1 : -9223372036854775808 ≤ day - x.due := by have := hk.due; omega
  have q2 : day - x.due ≤ 9223372036854775807 := by have := hk.due; omega
  have HB := Lib.hid (IvAt.box x w)
  have B0 := Lib.hid ((Below.refl _ w).alloc (Nat.le_refl _) (.cells x.cells 24))
  have HG : ∀ m r, m = x.late day → r = ageOf (x.late day) → Ending.returned (.tuple #[.int .i64 m, .int .i64 r, .int .i64 0]) = .returned (.tuple #[.int .i64 (x.late day), .int .i64 (ageOf (x.late day)), .int .i64 0]) := fun m r h h' => by rw [h, h']
  have HF := Lib.hid HG
  clear hk h1 h2 HG
  obtain ⟨a0, a1, a2, a3, a4, a5, a6, a7, a8, a9, a10, alt⟩ := HB.out
  go_enter Tryd.func21, Tryd.ntmps21
  unfold Iv.val
  go_wp2_with fail
  refine (kc.out _).mono ?_
  rintro e w1 ⟨rfl, b1⟩
  have X1 := Lib.hid (HB.out.later b1)
  have D1 := Lib.hid (then_below B0.out b1)
  clear b1 a0 a1 a2 a3 a4 a5 a6 a7 a8 a9 a10 alt
  obtain ⟨c0, c1, c2, c3, c4, c5, c6, c7, c8, c9, c10, clt⟩ := X1.out
  go_wp2_with fail
  refine (kd.out _).mono ?_
  rintro e w1 ⟨rfl, rfl⟩
  go_wp2_with fail
  all_goals
    go_ret3
    exact ⟨HF.out _ _ (by unfold Iv.late; split <;> omega) (by unfold Iv.late ageOf; (repeat' split) <;> omega), D1.out⟩
/-- What Late answers. -/
def Iv.lateR (x : Iv) (day : Int) : Int × Int × Int := if x.okB = true ∧ 1 ≤ day ∧ day ≤ 3652059 then (x.late day, ageOf (x.late day), 0) else (0, 0, 2)
theorem late_c (x : Iv) (day : Int) (w : World) (hx : x.Fits) (ht : Tab w) : Calls Tryd.prog 20 #[x.val, .int .i64 day] w fun e w' => e = .returned (.tuple #[.int .i64 (x.lateR day).1, .int .i64 (x.lateR day).2.1, .int .i64 (x.lateR day).2.2]) ∧ Below w.heap.size w w' := by
  unfold Iv.lateR
  by_cases h : x.okB = true ∧ 1 ≤ day ∧ day ≤ 3652059
  · rw [if_pos h]; exact late_yes x day w hx ((okB_iff x).1 h.1) h.2.1 h.2.2 ht
  · rw [if_neg h]
    cases hk : x.okB with
    | false => exact late_no1 x day w hx hk
    | true => exact late_no2 x day w hx ((okB_iff x).1 hk) (decide_eq_false fun g => h ⟨hk, g⟩)
theorem rlate_c (x : Iv) (day : Int) (w : World) (hx : x.Fits) : Calls Tryd.prog 21 #[x.val, .int .i64 day] w fun e w' => e = .returned (.tuple #[.int .i64 (x.lateR day).1, .int .i64 (x.lateR day).2.1, .int .i64 (x.lateR day).2.2]) ∧ Below w.heap.size w w' := by
  unfold Iv.lateR
  by_cases h : x.okB = true ∧ 1 ≤ day ∧ day ≤ 3652059
  · rw [if_pos h]; exact rlate_yes x day w ((okB_iff x).1 h.1) h.2.1 h.2.2
  · rw [if_neg h]
    cases hk : x.okB with
    | false => exact rlate_no1 x day w hx hk
    | true => exact rlate_no2 x day w ((okB_iff x).1 hk) (decide_eq_false fun g => h ⟨hk, g⟩)
end Go.Proofs.YtaidijbjpogpeaaDoor.Inv
