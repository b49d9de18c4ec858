/- The walks of CivilDates, CivilMonths. -/
import Derived.Test.YtehofpmkplkaaabDoorCivRef3
import Derived.Test.YtehofpmkplkaaabDoorCivHead
namespace Go.Proofs.YtehofpmkplkaaabDoor
open Go.RowKit

set_option maxRecDepth 100000 in
set_option maxHeartbeats 400000 in
theorem dates_c (day : Int) (w : World) (hw : Tab w) :
    Calls Tryd.prog 3 #[.int .i64 day] w fun e w' => e = .returned (.bool true) ∧ w = w' := by
  by_cases hn : day < 1 ∨ 3652059 < day
  · have HN := Lib.hid hn
    clear hn
    go_enter Tryd.func3, Tryd.ntmps3
    go_wp2_with (first | (go_at_call 8; refine (date_no _ _ HN.out).mono ?_; rintro e w' ⟨rfl, rfl⟩) | (go_at_call 9; refine (rdate_no _ _ HN.out).mono ?_; rintro e w' ⟨rfl, rfl⟩) | (go_at_call 10; refine (of_no _ _ HN.out).mono ?_; rintro e w' ⟨rfl, rfl⟩) | (go_at_call 11; refine (rof_no _ _ HN.out).mono ?_; rintro e w' ⟨rfl, rfl⟩) | (go_at_call 12; refine (head_c _ hw).mono ?_; rintro e w' ⟨rfl, rfl⟩))
    go_ret
    exact ⟨rfl, rfl⟩
  obtain ⟨y, m, hd⟩ := Civ.date_ex day (by omega) (by omega)
  have HD := Lib.hid hd
  clear hd hn
  go_enter Tryd.func3, Tryd.ntmps3
  go_wp2_with (first | (go_at_call 8; refine (date_is _ _ _ _ hw HD.out).mono ?_; rintro e w' ⟨rfl, rfl⟩) | (go_at_call 9; refine (rdate_is _ _ _ _ HD.out).mono ?_; rintro e w' ⟨rfl, rfl⟩) | (go_at_call 10; refine (of_is _ _ _ _ hw HD.out).mono ?_; rintro e w' ⟨rfl, rfl⟩) | (go_at_call 11; refine (rof_is _ _ _ _ HD.out).mono ?_; rintro e w' ⟨rfl, rfl⟩) | (go_at_call 12; refine (head_c _ hw).mono ?_; rintro e w' ⟨rfl, rfl⟩))
  go_ret
  exact ⟨rfl, rfl⟩

set_option maxRecDepth 100000 in
set_option maxHeartbeats 400000 in
theorem months_c (y m month : Int) (w : World) (hw : Tab w) :
    Calls Tryd.prog 4 #[.int .i64 y, .int .i64 m, .int .i64 month] w fun e w' => e = .returned (.bool true) ∧ w = w' := by
  by_cases hv : y < 1 ∨ 9999 < y ∨ m < 1 ∨ 12 < m
  · have HV := Lib.hid hv
    clear hv
    by_cases hn : month < 1 ∨ 119988 < month
    · have HN := Lib.hid hn
      clear hn
      go_enter Tryd.func4, Tryd.ntmps4
      go_wp2_with (first | (go_at_call 13; refine (month_no _ _ _ HV.out).mono ?_; rintro e w' ⟨rfl, rfl⟩) | (go_at_call 14; refine (rmonth_no _ _ _ HV.out).mono ?_; rintro e w' ⟨rfl, rfl⟩) | (go_at_call 15; refine (days_no _ _ HN.out).mono ?_; rintro e w' ⟨rfl, rfl⟩) | (go_at_call 16; refine (rdays_no _ _ HN.out).mono ?_; rintro e w' ⟨rfl, rfl⟩) | (go_at_call 12; refine (head_c _ hw).mono ?_; rintro e w' ⟨rfl, rfl⟩))
      go_ret
      exact ⟨rfl, rfl⟩
    · have n1 : 1 ≤ month := by omega
      have n2 : month ≤ 119988 := by omega
      clear hn
      go_enter Tryd.func4, Tryd.ntmps4
      go_wp2_with (first | (go_at_call 13; refine (month_no _ _ _ HV.out).mono ?_; rintro e w' ⟨rfl, rfl⟩) | (go_at_call 14; refine (rmonth_no _ _ _ HV.out).mono ?_; rintro e w' ⟨rfl, rfl⟩) | (go_at_call 15; refine (days_yes _ _ hw n1 n2).mono ?_; rintro e w' ⟨rfl, rfl⟩) | (go_at_call 16; refine (rdays_yes _ _ n1 n2).mono ?_; rintro e w' ⟨rfl, rfl⟩) | (go_at_call 12; refine (head_c _ hw).mono ?_; rintro e w' ⟨rfl, rfl⟩))
      go_ret
      exact ⟨rfl, rfl⟩
  · have a1 : 1 ≤ y := by omega
    have a2 : y ≤ 9999 := by omega
    have a3 : 1 ≤ m := by omega
    have a4 : m ≤ 12 := by omega
    clear hv
    by_cases hn : month < 1 ∨ 119988 < month
    · have HN := Lib.hid hn
      clear hn
      go_enter Tryd.func4, Tryd.ntmps4
      go_wp2_with (first | (go_at_call 13; refine (month_yes _ _ _ a1 a2 a3 a4).mono ?_; rintro e w' ⟨rfl, rfl⟩) | (go_at_call 14; refine (rmonth_yes _ _ _ a1 a2 a3 a4).mono ?_; rintro e w' ⟨rfl, rfl⟩) | (go_at_call 15; refine (days_no _ _ HN.out).mono ?_; rintro e w' ⟨rfl, rfl⟩) | (go_at_call 16; refine (rdays_no _ _ HN.out).mono ?_; rintro e w' ⟨rfl, rfl⟩) | (go_at_call 12; refine (head_c _ hw).mono ?_; rintro e w' ⟨rfl, rfl⟩))
      go_ret
      exact ⟨rfl, rfl⟩
    · have n1 : 1 ≤ month := by omega
      have n2 : month ≤ 119988 := by omega
      clear hn
      go_enter Tryd.func4, Tryd.ntmps4
      go_wp2_with (first | (go_at_call 13; refine (month_yes _ _ _ a1 a2 a3 a4).mono ?_; rintro e w' ⟨rfl, rfl⟩) | (go_at_call 14; refine (rmonth_yes _ _ _ a1 a2 a3 a4).mono ?_; rintro e w' ⟨rfl, rfl⟩) | (go_at_call 15; refine (days_yes _ _ hw n1 n2).mono ?_; rintro e w' ⟨rfl, rfl⟩) | (go_at_call 16; refine (rdays_yes _ _ n1 n2).mono ?_; rintro e w' ⟨rfl, rfl⟩) | (go_at_call 12; refine (head_c _ hw).mono ?_; rintro e w' ⟨rfl, rfl⟩))
      go_ret
      exact ⟨rfl, rfl⟩
end Go.Proofs.YtehofpmkplkaaabDoor
