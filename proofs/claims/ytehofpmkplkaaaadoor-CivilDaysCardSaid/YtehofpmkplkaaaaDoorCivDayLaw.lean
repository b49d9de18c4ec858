/- The walk of CivilDays. -/
import Derived.Test.YtehofpmkplkaaaaDoorCivRef2
import Derived.Test.YtehofpmkplkaaaaDoorCivHead
namespace Go.Proofs.YtehofpmkplkaaaaDoor
open Go.RowKit

set_option maxRecDepth 100000 in
set_option maxHeartbeats 400000 in
theorem daylaw_c (y m d : Int) (w : World) (hw : Tab w) (b1 : -9223372036854775808 ≤ d) (b2 : d ≤ 9223372036854775807) :
    Calls Tryd.prog 3 #[.int .i64 y, .int .i64 m, .int .i64 d] w fun e w' => e = .returned (.bool true) ∧ w = w' := by
  by_cases hv : Valid y m d
  · have HV := Lib.hid hv
    clear hv b1 b2
    go_enter Tryd.func3, Tryd.ntmps3
    go_wp2_with (first | (go_at_call 4; refine (day_yes _ _ _ _ hw HV.out).mono ?_; rintro e w' ⟨rfl, rfl⟩) | (go_at_call 5; refine (rday_yes _ _ _ _ HV.out).mono ?_; rintro e w' ⟨rfl, rfl⟩) | (go_at_call 6; refine (leap_c _ _).mono ?_; rintro e w' ⟨rfl, rfl⟩) | (go_at_call 7; refine (rleap_c _ _).mono ?_; rintro e w' ⟨rfl, rfl⟩) | (go_at_call 8; refine (head_c _ hw).mono ?_; rintro e w' ⟨rfl, rfl⟩))
    go_ret
    exact ⟨rfl, rfl⟩
  · have HV := Lib.hid hv
    have HB := Lib.hid (And.intro b1 b2)
    clear hv b1 b2
    go_enter Tryd.func3, Tryd.ntmps3
    go_wp2_with (first | (go_at_call 4; refine (day_no _ _ _ _ hw HV.out HB.out).mono ?_; rintro e w' ⟨rfl, rfl⟩) | (go_at_call 5; refine (rday_no _ _ _ _ HV.out).mono ?_; rintro e w' ⟨rfl, rfl⟩) | (go_at_call 6; refine (leap_c _ _).mono ?_; rintro e w' ⟨rfl, rfl⟩) | (go_at_call 7; refine (rleap_c _ _).mono ?_; rintro e w' ⟨rfl, rfl⟩) | (go_at_call 8; refine (head_c _ hw).mono ?_; rintro e w' ⟨rfl, rfl⟩))
    go_ret
    exact ⟨rfl, rfl⟩
end Go.Proofs.YtehofpmkplkaaaaDoor
