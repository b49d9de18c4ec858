/- The contracts of package civil's functions that search. -/
import Derived.Test.YtlmhifdilmnlnaaDoorCwWalks
import Derived.Deep.LoopGhost
namespace Go.Proofs.YtlmhifdilmnlnaaDoor.Cw
open Go.RowKit

/-- The year of that day. -/
def IsYear (day y : Int) : Prop := 1 ≤ y ∧ y ≤ 9999 ∧ Civ.U y 1 < day ∧ day ≤ Civ.U y 13
def YearRes (day : Int) (w : World) (e : Ending) (w' : World) : Prop := ∃ y : Int, IsYear day y ∧ e = .returned (.int .i64 y) ∧ w = w'
set_option maxHeartbeats 400000 in
theorem yearOf_c (day : Int) (w : World) (hw : Tab w) (h1 : 1 ≤ day) (h2 : day ≤ 3652059) :
    Calls Tryd.prog 77 #[.int .i64 day] w (YearRes day w) := by
  have b1 := Civ.U_first
  have b2 := Civ.U_last
  have a1 : Civ.U 1 1 < day := by omega
  have a2 : day ≤ Civ.U 9999 13 := by omega
  clear b1 b2
  go_enter Tryd.func77, Tryd.ntmps77
  go_wp2; go_step3; go_wp2; go_step3; go_wp2
  go_loop [3, 4, 5] (fun lo hi y => ∃ a b c : Int, lo = .int .i64 a ∧ hi = .int .i64 b ∧ y = .int .i64 c ∧ 1 ≤ a ∧ a ≤ b ∧ b ≤ 9999 ∧ Civ.U a 1 < day ∧ day ≤ Civ.U b 13) (fun lo hi _ => (intOf hi - intOf lo + 1).toNat)
  case atStart => exact ⟨1, 9999, 0, rfl, rfl, rfl, by omega, by omega, by omega, a1, a2⟩
  case round =>
    obtain ⟨a, b, c, rfl, rfl, rfl, r1, r2, r3, r4, r5⟩ := hrel
    clear a1 a2
    obtain ⟨y, hy⟩ : ∃ y, y = (a + b) / 2 := ⟨_, rfl⟩
    have y1 : a ≤ y := by omega
    have y2 : y ≤ b := by omega
    by_cases hA : day ≤ Civ.U y 1
    · have e1 : y ≠ a := by rintro rfl; omega
      have e2 := Civ.U_next (y - 1)
      rw [show y - 1 + 1 = y by omega] at e2
      have f1 : a ≤ y - 1 := by omega
      have f2 : day ≤ Civ.U (y - 1) 13 := by omega
      clear e1 e2
      subst hy
      go_wp2_with (go_at_call 71; refine (until_c _ _ _ hw (by omega) (by omega) (by omega) (by omega)).mono ?_; rintro e w' ⟨rfl, rfl⟩)
      go_round
      case rel => exact ⟨_, _, _, rfl, rfl, rfl, r1, f1, by omega, r4, f2⟩
      case measure => simp [intOf]; omega
    by_cases hB : Civ.U y 13 < day
    · have e1 : y ≠ b := by rintro rfl; omega
      have e2 := Civ.U_next y
      have f1 : y + 1 ≤ b := by omega
      have f2 : Civ.U (y + 1) 1 < day := by omega
      clear e1 e2
      subst hy
      go_wp2_with (go_at_call 71; refine (until_c _ _ _ hw (by omega) (by omega) (by omega) (by omega)).mono ?_; rintro e w' ⟨rfl, rfl⟩)
      go_round
      case rel => exact ⟨_, _, _, rfl, rfl, rfl, by omega, f1, r3, f2, r5⟩
      case measure => simp [intOf]; omega
    · have hd : IsYear day y := ⟨by omega, by omega, by omega, by omega⟩
      subst hy
      go_wp2_with (go_at_call 71; refine (until_c _ _ _ hw (by omega) (by omega) (by omega) (by omega)).mono ?_; rintro e w' ⟨rfl, rfl⟩)
      rw [Exit.noGoto_ret]
      go_ret
      exact ⟨_, hd, rfl, rfl⟩

def DateRes (day : Int) (w : World) (e : Ending) (w' : World) : Prop :=
  ∃ y m : Int, Civ.IsDate day y m ∧ e = .returned (.tuple #[.int .i64 y, .int .i64 m, .int .i64 (day - Civ.U y m), .int .i64 0]) ∧ w = w'
set_option maxHeartbeats 400000 in
theorem date_yes (day : Int) (w : World) (hw : Tab w) (h1 : 1 ≤ day) (h2 : day ≤ 3652059) :
    Calls Tryd.prog 73 #[.int .i64 day] w (DateRes day w) := by
  go_enter Tryd.func73, Tryd.ntmps73
  go_wp2_with (go_at_call 77; refine (yearOf_c _ _ hw h1 h2).mono ?_; rintro e w' ⟨y, ⟨y1, y2, y3, y4⟩, rfl, rfl⟩)
  go_loop [3] (fun s => ∃ m : Int, s = .int .i64 m ∧ 1 ≤ m ∧ m ≤ 12 ∧ day ≤ Civ.U y (m + 1)) (fun s => (intOf s).toNat)
  case atStart => exact ⟨12, rfl, by omega, by omega, y4⟩
  case round =>
    obtain ⟨m, rfl, m1, m2, m3⟩ := hrel
    by_cases hA : day ≤ Civ.U y m
    · have f1 : 1 ≤ m - 1 := by
        have : m ≠ 1 := by rintro rfl; omega
        omega
      have f2 : day ≤ Civ.U y (m - 1 + 1) := by rw [show m - 1 + 1 = m by omega]; exact hA
      go_wp2_with (go_at_call 71; refine (until_c _ _ _ hw (by omega) (by omega) (by omega) (by omega)).mono ?_; rintro e w' ⟨rfl, rfl⟩)
      go_round
      case rel => exact ⟨_, rfl, f1, by omega, f2⟩
      case measure => simp [intOf]; omega
    · have hd : Civ.IsDate day y m := ⟨y1, y2, m1, m2, by omega, m3⟩
      have hu1 := Civ.U_lo y m y1 m1 (by omega)
      have hu2 := Civ.U_hi y m y2 m1 (by omega)
      go_wp2_with (go_at_call 71; refine (until_c _ _ _ hw (by omega) (by omega) (by omega) (by omega)).mono ?_; rintro e w' ⟨rfl, rfl⟩)
      (try simp only [Exit.inBlock, Exit.then])
      refine bodyPost_ret (results_tmp4 rfl _ _ _) rfl ?_
      exact ⟨_, _, hd, rfl, rfl⟩
theorem date_no (day : Int) (w : World) (h : day < 1 ∨ 3652059 < day) :
    Calls Tryd.prog 73 #[.int .i64 day] w fun e w' => e = .returned (.tuple #[.int .i64 0, .int .i64 0, .int .i64 0, .int .i64 2]) ∧ w = w' := by
  rcases h with h | h
  · go_enter Tryd.func73, Tryd.ntmps73
    go_wp2
    (try simp only [Exit.inBlock, Exit.then])
    refine bodyPost_ret (results_tmp4 rfl _ _ _) rfl ?_
    exact ⟨rfl, rfl⟩
  · go_enter Tryd.func73, Tryd.ntmps73
    go_wp2
    (try simp only [Exit.inBlock, Exit.then])
    refine bodyPost_ret (results_tmp4 rfl _ _ _) rfl ?_
    exact ⟨rfl, rfl⟩

theorem date_is (day y m : Int) (w : World) (hw : Tab w) (h : Civ.IsDate day y m) :
    Calls Tryd.prog 73 #[.int .i64 day] w fun e w' => e = .returned (.tuple #[.int .i64 y, .int .i64 m, .int .i64 (day - Civ.U y m), .int .i64 0]) ∧ w = w' :=
  (date_yes day w hw (Civ.day_hi h).1 (Civ.day_hi h).2).mono fun e w' ⟨z, n, hz, he, hw'⟩ => by
    obtain ⟨rfl, rfl⟩ := Civ.date_one hz h
    exact ⟨he, hw'⟩
theorem of_is (day y m : Int) (w : World) (hw : Tab w) (h : Civ.IsDate day y m) :
    Calls Tryd.prog 56 #[.int .i64 day] w fun e w' => e = .returned (.tuple #[.int .i64 ((y - 1) * 12 + m), .int .i64 0]) ∧ w = w' := by
  obtain ⟨h1, h2, h3, h4, _, _⟩ := id h
  go_enter Tryd.func56, Tryd.ntmps56
  go_wp2_with (first | (go_at_call 73; refine (date_is _ _ _ _ hw h).mono ?_; rintro e w' ⟨rfl, rfl⟩) | (go_at_call 74; refine (month_yes _ _ _ h1 h2 h3 h4).mono ?_; rintro e w' ⟨rfl, rfl⟩))
  go_ret2
  exact ⟨rfl, rfl⟩
theorem of_no (day : Int) (w : World) (h : day < 1 ∨ 3652059 < day) :
    Calls Tryd.prog 56 #[.int .i64 day] w fun e w' => e = .returned (.tuple #[.int .i64 0, .int .i64 2]) ∧ w = w' := by
  go_enter Tryd.func56, Tryd.ntmps56
  go_wp2_with (go_at_call 73; refine (date_no _ _ h).mono ?_; rintro e w' ⟨rfl, rfl⟩)
  go_ret2
  exact ⟨rfl, rfl⟩
end Go.Proofs.YtlmhifdilmnlnaaDoor.Cw
