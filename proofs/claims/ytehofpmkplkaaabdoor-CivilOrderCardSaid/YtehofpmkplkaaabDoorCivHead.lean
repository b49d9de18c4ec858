/- The known answers: head. -/
import Derived.Test.YtehofpmkplkaaabDoorCivWalks2
namespace Go.Proofs.YtehofpmkplkaaabDoor
open Go.RowKit

theorem head_c (w : World) (hw : Tab w) :
    Calls Tryd.prog 12 #[] w fun e w' => e = .returned (.bool true) ∧ w = w' := by
  have k1 : Calls Tryd.prog 17 #[.int .i64 1970, .int .i64 1, .int .i64 1] w fun e w' => e = .returned (.tuple #[.int .i64 719163, .int .i64 0]) ∧ w = w' := by
    have := day_yes 1970 1 1 w hw (by unfold Valid; decide)
    rwa [show Civ.U 1970 1 + 1 = 719163 from by decide] at this
  have k2 : Calls Tryd.prog 17 #[.int .i64 9999, .int .i64 12, .int .i64 31] w fun e w' => e = .returned (.tuple #[.int .i64 3652059, .int .i64 0]) ∧ w = w' := by
    have := day_yes 9999 12 31 w hw (by unfold Valid; decide)
    rwa [show Civ.U 9999 12 + 31 = 3652059 from by decide] at this
  have k3 := day_no 2023 2 29 w hw (by unfold Valid; decide) (by omega)
  have k4 : Calls Tryd.prog 8 #[.int .i64 719163] w fun e w' => e = .returned (.tuple #[.int .i64 1970, .int .i64 1, .int .i64 1, .int .i64 0]) ∧ w = w' := by
    have := date_is 719163 1970 1 w hw (by unfold Civ.IsDate; decide)
    rwa [show 719163 - Civ.U 1970 1 = 1 from by decide] at this
  have k5 : Calls Tryd.prog 15 #[.int .i64 23629] w fun e w' => e = .returned (.tuple #[.int .i64 719163, .int .i64 719193, .int .i64 0]) ∧ w = w' := by
    have := days_yes 23629 w hw (by omega) (by omega)
    rwa [show Civ.U ((23629 - 1) / 12 + 1) ((23629 - 1) % 12 + 1) + 1 = 719163 from by decide, show Civ.U ((23629 - 1) / 12 + 1) ((23629 - 1) % 12 + 1 + 1) = 719193 from by decide] at this
  have k6 := leap_no 1900 w (by decide)
  have k7 := leap_yes 2000 w (by omega) (by omega) (by decide)
  have K1 := Lib.hid k1
  have K2 := Lib.hid k2
  have K3 := Lib.hid k3
  have K4 := Lib.hid k4
  have K5 := Lib.hid k5
  have K6 := Lib.hid k6
  have K7 := Lib.hid k7
  clear k1 k2 k3 k4 k5 k6 k7 hw
  go_enter Tryd.func12, Tryd.ntmps12
  go_wp2_with fail
  refine K1.out.mono ?_
  rintro e w' ⟨rfl, rfl⟩
  go_wp2_with fail
  refine K2.out.mono ?_
  rintro e w' ⟨rfl, rfl⟩
  go_wp2_with fail
  refine K3.out.mono ?_
  rintro e w' ⟨rfl, rfl⟩
  go_wp2_with fail
  refine K4.out.mono ?_
  rintro e w' ⟨rfl, rfl⟩
  go_wp2_with fail
  refine K5.out.mono ?_
  rintro e w' ⟨rfl, rfl⟩
  go_wp2_with fail
  refine K6.out.mono ?_
  rintro e w' ⟨rfl, rfl⟩
  go_wp2_with fail
  refine K7.out.mono ?_
  rintro e w' ⟨rfl, rfl⟩
  go_wp2_with fail
  go_ret
  exact ⟨rfl, rfl⟩
end Go.Proofs.YtehofpmkplkaaabDoor
