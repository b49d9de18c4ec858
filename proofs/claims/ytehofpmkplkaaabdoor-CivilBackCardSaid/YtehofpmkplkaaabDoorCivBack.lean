/- The walk of CivilBack. -/
import Derived.Test.YtehofpmkplkaaabDoorCivHead
namespace Go.Proofs.YtehofpmkplkaaabDoor
open Go.RowKit

set_option maxRecDepth 100000 in
theorem back_no (day : Int) (w : World) (hw : Tab w) (hn : day < 1 ∨ 3652059 < day) :
    Calls Tryd.prog 5 #[.int .i64 day] w fun e w' => e = .returned (.bool true) ∧ w = w' := by
  rcases hn with hn | hn
  · go_enter Tryd.func5, Tryd.ntmps5
    go_wp2_with (first | (go_at_call 8; refine (date_no _ _ (Or.inl hn)).mono ?_; rintro e w' ⟨rfl, rfl⟩) | (go_at_call 12; refine (head_c _ hw).mono ?_; rintro e w' ⟨rfl, rfl⟩))
    go_ret
    exact ⟨rfl, rfl⟩
  · go_enter Tryd.func5, Tryd.ntmps5
    go_wp2_with (first | (go_at_call 8; refine (date_no _ _ (Or.inr hn)).mono ?_; rintro e w' ⟨rfl, rfl⟩) | (go_at_call 12; refine (head_c _ hw).mono ?_; rintro e w' ⟨rfl, rfl⟩))
    go_ret
    exact ⟨rfl, rfl⟩
set_option maxRecDepth 100000 in
set_option maxHeartbeats 400000 in
theorem back_A_same (day y m d : Int) (w : World) (hw : Tab w) (_y1 : 1 ≤ y) (_y2 : y ≤ 9999) (_m1 : 1 ≤ m) (_m2 : m ≤ 12) (_d1 : 1 ≤ d) (_d2 : d ≤ 31) (_h1 : 1 ≤ day) (_h2 : day ≤ 3652059)
    (K0 : Hid (Calls Tryd.prog 8 #[.int .i64 (day)] w fun e w' => e = .returned (.tuple #[.int .i64 (y), .int .i64 (m), .int .i64 (d), .int .i64 (0)]) ∧ w = w'))
    (K1 : Hid (Calls Tryd.prog 17 #[.int .i64 (y), .int .i64 (m), .int .i64 (d)] w fun e w' => e = .returned (.tuple #[.int .i64 (day), .int .i64 (0)]) ∧ w = w'))
    (K2 : Hid (Calls Tryd.prog 8 #[.int .i64 (day + 146097)] w fun e w' => e = .returned (.tuple #[.int .i64 (y + 400), .int .i64 (m), .int .i64 (d), .int .i64 (0)]) ∧ w = w'))
    (K3 : Hid (Calls Tryd.prog 8 #[.int .i64 (day + 1)] w fun e w' => e = .returned (.tuple #[.int .i64 (y), .int .i64 (m), .int .i64 (d + 1), .int .i64 (0)]) ∧ w = w')) (_hA : y + 400 ≤ 9999)  :
    Calls Tryd.prog 5 #[.int .i64 day] w fun e w' => e = .returned (.bool true) ∧ w = w' := by
  go_enter Tryd.func5, Tryd.ntmps5
  go_wp2_with fail
  refine K0.out.mono ?_
  rintro e w' ⟨rfl, rfl⟩
  go_wp2_with fail
  refine K1.out.mono ?_
  rintro e w' ⟨rfl, rfl⟩
  go_wp2_with fail
  refine K2.out.mono ?_
  rintro e w' ⟨rfl, rfl⟩
  go_wp2_with fail
  refine K3.out.mono ?_
  rintro e w' ⟨rfl, rfl⟩
  go_wp2_with (go_at_call 12; refine (head_c _ hw).mono ?_; rintro e w' ⟨rfl, rfl⟩)
  go_ret
  exact ⟨rfl, rfl⟩
set_option maxRecDepth 100000 in
set_option maxHeartbeats 400000 in
theorem back_A_month (day y m d : Int) (w : World) (hw : Tab w) (_y1 : 1 ≤ y) (_y2 : y ≤ 9999) (_m1 : 1 ≤ m) (_m2 : m ≤ 12) (_d1 : 1 ≤ d) (_d2 : d ≤ 31) (_h1 : 1 ≤ day) (_h2 : day ≤ 3652059)
    (K0 : Hid (Calls Tryd.prog 8 #[.int .i64 (day)] w fun e w' => e = .returned (.tuple #[.int .i64 (y), .int .i64 (m), .int .i64 (d), .int .i64 (0)]) ∧ w = w'))
    (K1 : Hid (Calls Tryd.prog 17 #[.int .i64 (y), .int .i64 (m), .int .i64 (d)] w fun e w' => e = .returned (.tuple #[.int .i64 (day), .int .i64 (0)]) ∧ w = w'))
    (K2 : Hid (Calls Tryd.prog 8 #[.int .i64 (day + 146097)] w fun e w' => e = .returned (.tuple #[.int .i64 (y + 400), .int .i64 (m), .int .i64 (d), .int .i64 (0)]) ∧ w = w'))
    (K3 : Hid (Calls Tryd.prog 8 #[.int .i64 (day + 1)] w fun e w' => e = .returned (.tuple #[.int .i64 (y), .int .i64 (m + 1), .int .i64 (1), .int .i64 (0)]) ∧ w = w')) (_hA : y + 400 ≤ 9999) (_hM : m < 12) :
    Calls Tryd.prog 5 #[.int .i64 day] w fun e w' => e = .returned (.bool true) ∧ w = w' := by
  go_enter Tryd.func5, Tryd.ntmps5
  go_wp2_with fail
  refine K0.out.mono ?_
  rintro e w' ⟨rfl, rfl⟩
  go_wp2_with fail
  refine K1.out.mono ?_
  rintro e w' ⟨rfl, rfl⟩
  go_wp2_with fail
  refine K2.out.mono ?_
  rintro e w' ⟨rfl, rfl⟩
  go_wp2_with fail
  refine K3.out.mono ?_
  rintro e w' ⟨rfl, rfl⟩
  go_wp2_with (go_at_call 12; refine (head_c _ hw).mono ?_; rintro e w' ⟨rfl, rfl⟩)
  go_ret
  exact ⟨rfl, rfl⟩
set_option maxRecDepth 100000 in
set_option maxHeartbeats 400000 in
theorem back_A_year (day y m d : Int) (w : World) (hw : Tab w) (_y1 : 1 ≤ y) (_y2 : y ≤ 9999) (_m1 : 1 ≤ m) (_m2 : m ≤ 12) (_d1 : 1 ≤ d) (_d2 : d ≤ 31) (_h1 : 1 ≤ day) (_h2 : day ≤ 3652059)
    (K0 : Hid (Calls Tryd.prog 8 #[.int .i64 (day)] w fun e w' => e = .returned (.tuple #[.int .i64 (y), .int .i64 (m), .int .i64 (d), .int .i64 (0)]) ∧ w = w'))
    (K1 : Hid (Calls Tryd.prog 17 #[.int .i64 (y), .int .i64 (m), .int .i64 (d)] w fun e w' => e = .returned (.tuple #[.int .i64 (day), .int .i64 (0)]) ∧ w = w'))
    (K2 : Hid (Calls Tryd.prog 8 #[.int .i64 (day + 146097)] w fun e w' => e = .returned (.tuple #[.int .i64 (y + 400), .int .i64 (m), .int .i64 (d), .int .i64 (0)]) ∧ w = w'))
    (K3 : Hid (Calls Tryd.prog 8 #[.int .i64 (day + 1)] w fun e w' => e = .returned (.tuple #[.int .i64 (y + 1), .int .i64 (1), .int .i64 (1), .int .i64 (0)]) ∧ w = w')) (_hA : y + 400 ≤ 9999) (hM : m = 12) :
    Calls Tryd.prog 5 #[.int .i64 day] w fun e w' => e = .returned (.bool true) ∧ w = w' := by
  subst hM
  go_enter Tryd.func5, Tryd.ntmps5
  go_wp2_with fail
  refine K0.out.mono ?_
  rintro e w' ⟨rfl, rfl⟩
  go_wp2_with fail
  refine K1.out.mono ?_
  rintro e w' ⟨rfl, rfl⟩
  go_wp2_with fail
  refine K2.out.mono ?_
  rintro e w' ⟨rfl, rfl⟩
  go_wp2_with fail
  refine K3.out.mono ?_
  rintro e w' ⟨rfl, rfl⟩
  go_wp2_with (go_at_call 12; refine (head_c _ hw).mono ?_; rintro e w' ⟨rfl, rfl⟩)
  go_ret
  exact ⟨rfl, rfl⟩
set_option maxRecDepth 100000 in
set_option maxHeartbeats 400000 in
theorem back_B_last (day y m d : Int) (w : World) (hw : Tab w) (_y1 : 1 ≤ y) (_y2 : y ≤ 9999) (_m1 : 1 ≤ m) (_m2 : m ≤ 12) (_d1 : 1 ≤ d) (_d2 : d ≤ 31) (_h1 : 1 ≤ day) (_h2 : day ≤ 3652059)
    (K0 : Hid (Calls Tryd.prog 8 #[.int .i64 (day)] w fun e w' => e = .returned (.tuple #[.int .i64 (y), .int .i64 (m), .int .i64 (d), .int .i64 (0)]) ∧ w = w'))
    (K1 : Hid (Calls Tryd.prog 17 #[.int .i64 (y), .int .i64 (m), .int .i64 (d)] w fun e w' => e = .returned (.tuple #[.int .i64 (day), .int .i64 (0)]) ∧ w = w'))
    (K2 : Hid (Calls Tryd.prog 8 #[.int .i64 (day + 146097)] w fun e w' => e = .returned (.tuple #[.int .i64 (0), .int .i64 (0), .int .i64 (0), .int .i64 (2)]) ∧ w = w'))
    (K3 : Hid (Calls Tryd.prog 8 #[.int .i64 (day + 1)] w fun e w' => e = .returned (.tuple #[.int .i64 (0), .int .i64 (0), .int .i64 (0), .int .i64 (2)]) ∧ w = w')) (_hA : 9999 < y + 400) (hL : day = 3652059) :
    Calls Tryd.prog 5 #[.int .i64 day] w fun e w' => e = .returned (.bool true) ∧ w = w' := by
  subst hL
  go_enter Tryd.func5, Tryd.ntmps5
  go_wp2_with fail
  refine K0.out.mono ?_
  rintro e w' ⟨rfl, rfl⟩
  go_wp2_with fail
  refine K1.out.mono ?_
  rintro e w' ⟨rfl, rfl⟩
  go_wp2_with fail
  refine K2.out.mono ?_
  rintro e w' ⟨rfl, rfl⟩
  go_wp2_with fail
  refine K3.out.mono ?_
  rintro e w' ⟨rfl, rfl⟩
  go_wp2_with (go_at_call 12; refine (head_c _ hw).mono ?_; rintro e w' ⟨rfl, rfl⟩)
  go_ret
  exact ⟨rfl, rfl⟩
set_option maxRecDepth 100000 in
set_option maxHeartbeats 400000 in
theorem back_B_same (day y m d : Int) (w : World) (hw : Tab w) (_y1 : 1 ≤ y) (_y2 : y ≤ 9999) (_m1 : 1 ≤ m) (_m2 : m ≤ 12) (_d1 : 1 ≤ d) (_d2 : d ≤ 31) (_h1 : 1 ≤ day) (_h2 : day ≤ 3652059)
    (K0 : Hid (Calls Tryd.prog 8 #[.int .i64 (day)] w fun e w' => e = .returned (.tuple #[.int .i64 (y), .int .i64 (m), .int .i64 (d), .int .i64 (0)]) ∧ w = w'))
    (K1 : Hid (Calls Tryd.prog 17 #[.int .i64 (y), .int .i64 (m), .int .i64 (d)] w fun e w' => e = .returned (.tuple #[.int .i64 (day), .int .i64 (0)]) ∧ w = w'))
    (K2 : Hid (Calls Tryd.prog 8 #[.int .i64 (day + 146097)] w fun e w' => e = .returned (.tuple #[.int .i64 (0), .int .i64 (0), .int .i64 (0), .int .i64 (2)]) ∧ w = w'))
    (K3 : Hid (Calls Tryd.prog 8 #[.int .i64 (day + 1)] w fun e w' => e = .returned (.tuple #[.int .i64 (y), .int .i64 (m), .int .i64 (d + 1), .int .i64 (0)]) ∧ w = w')) (_hA : 9999 < y + 400)  :
    Calls Tryd.prog 5 #[.int .i64 day] w fun e w' => e = .returned (.bool true) ∧ w = w' := by
  go_enter Tryd.func5, Tryd.ntmps5
  go_wp2_with fail
  refine K0.out.mono ?_
  rintro e w' ⟨rfl, rfl⟩
  go_wp2_with fail
  refine K1.out.mono ?_
  rintro e w' ⟨rfl, rfl⟩
  go_wp2_with fail
  refine K2.out.mono ?_
  rintro e w' ⟨rfl, rfl⟩
  go_wp2_with fail
  refine K3.out.mono ?_
  rintro e w' ⟨rfl, rfl⟩
  go_wp2_with (go_at_call 12; refine (head_c _ hw).mono ?_; rintro e w' ⟨rfl, rfl⟩)
  go_ret
  exact ⟨rfl, rfl⟩
set_option maxRecDepth 100000 in
set_option maxHeartbeats 400000 in
theorem back_B_month (day y m d : Int) (w : World) (hw : Tab w) (_y1 : 1 ≤ y) (_y2 : y ≤ 9999) (_m1 : 1 ≤ m) (_m2 : m ≤ 12) (_d1 : 1 ≤ d) (_d2 : d ≤ 31) (_h1 : 1 ≤ day) (_h2 : day ≤ 3652059)
    (K0 : Hid (Calls Tryd.prog 8 #[.int .i64 (day)] w fun e w' => e = .returned (.tuple #[.int .i64 (y), .int .i64 (m), .int .i64 (d), .int .i64 (0)]) ∧ w = w'))
    (K1 : Hid (Calls Tryd.prog 17 #[.int .i64 (y), .int .i64 (m), .int .i64 (d)] w fun e w' => e = .returned (.tuple #[.int .i64 (day), .int .i64 (0)]) ∧ w = w'))
    (K2 : Hid (Calls Tryd.prog 8 #[.int .i64 (day + 146097)] w fun e w' => e = .returned (.tuple #[.int .i64 (0), .int .i64 (0), .int .i64 (0), .int .i64 (2)]) ∧ w = w'))
    (K3 : Hid (Calls Tryd.prog 8 #[.int .i64 (day + 1)] w fun e w' => e = .returned (.tuple #[.int .i64 (y), .int .i64 (m + 1), .int .i64 (1), .int .i64 (0)]) ∧ w = w')) (_hA : 9999 < y + 400) (_hM : m < 12) :
    Calls Tryd.prog 5 #[.int .i64 day] w fun e w' => e = .returned (.bool true) ∧ w = w' := by
  go_enter Tryd.func5, Tryd.ntmps5
  go_wp2_with fail
  refine K0.out.mono ?_
  rintro e w' ⟨rfl, rfl⟩
  go_wp2_with fail
  refine K1.out.mono ?_
  rintro e w' ⟨rfl, rfl⟩
  go_wp2_with fail
  refine K2.out.mono ?_
  rintro e w' ⟨rfl, rfl⟩
  go_wp2_with fail
  refine K3.out.mono ?_
  rintro e w' ⟨rfl, rfl⟩
  go_wp2_with (go_at_call 12; refine (head_c _ hw).mono ?_; rintro e w' ⟨rfl, rfl⟩)
  go_ret
  exact ⟨rfl, rfl⟩
set_option maxRecDepth 100000 in
set_option maxHeartbeats 400000 in
theorem back_B_year (day y m d : Int) (w : World) (hw : Tab w) (_y1 : 1 ≤ y) (_y2 : y ≤ 9999) (_m1 : 1 ≤ m) (_m2 : m ≤ 12) (_d1 : 1 ≤ d) (_d2 : d ≤ 31) (_h1 : 1 ≤ day) (_h2 : day ≤ 3652059)
    (K0 : Hid (Calls Tryd.prog 8 #[.int .i64 (day)] w fun e w' => e = .returned (.tuple #[.int .i64 (y), .int .i64 (m), .int .i64 (d), .int .i64 (0)]) ∧ w = w'))
    (K1 : Hid (Calls Tryd.prog 17 #[.int .i64 (y), .int .i64 (m), .int .i64 (d)] w fun e w' => e = .returned (.tuple #[.int .i64 (day), .int .i64 (0)]) ∧ w = w'))
    (K2 : Hid (Calls Tryd.prog 8 #[.int .i64 (day + 146097)] w fun e w' => e = .returned (.tuple #[.int .i64 (0), .int .i64 (0), .int .i64 (0), .int .i64 (2)]) ∧ w = w'))
    (K3 : Hid (Calls Tryd.prog 8 #[.int .i64 (day + 1)] w fun e w' => e = .returned (.tuple #[.int .i64 (y + 1), .int .i64 (1), .int .i64 (1), .int .i64 (0)]) ∧ w = w')) (_hA : 9999 < y + 400) (hM : m = 12) :
    Calls Tryd.prog 5 #[.int .i64 day] w fun e w' => e = .returned (.bool true) ∧ w = w' := by
  subst hM
  go_enter Tryd.func5, Tryd.ntmps5
  go_wp2_with fail
  refine K0.out.mono ?_
  rintro e w' ⟨rfl, rfl⟩
  go_wp2_with fail
  refine K1.out.mono ?_
  rintro e w' ⟨rfl, rfl⟩
  go_wp2_with fail
  refine K2.out.mono ?_
  rintro e w' ⟨rfl, rfl⟩
  go_wp2_with fail
  refine K3.out.mono ?_
  rintro e w' ⟨rfl, rfl⟩
  go_wp2_with (go_at_call 12; refine (head_c _ hw).mono ?_; rintro e w' ⟨rfl, rfl⟩)
  go_ret
  exact ⟨rfl, rfl⟩

theorem back_c (day : Int) (w : World) (hw : Tab w) :
    Calls Tryd.prog 5 #[.int .i64 day] w fun e w' => e = .returned (.bool true) ∧ w = w' := by
  by_cases hn : day < 1 ∨ 3652059 < day
  · exact back_no day w hw hn
  have h1 : 1 ≤ day := by omega
  have h2 : day ≤ 3652059 := by omega
  obtain ⟨y, m, hd⟩ := Civ.date_ex day h1 h2
  have hlo := Civ.date_lo hd
  obtain ⟨a1, a2, a3, a4, a5, a6⟩ := id hd
  have k0 := date_is day y m w hw hd
  have k1 := day_yes y m (day - Civ.U y m) w hw ⟨a1, a2, a3, a4, hlo.1, by omega⟩
  rw [show Civ.U y m + (day - Civ.U y m) = day by omega] at k1
  have k3 : (day = 3652059) ∨ (day + 1 ≤ 3652059) := by omega
  by_cases hA : y + 400 ≤ 9999
  · have k2 := date_is (day + 146097) (y + 400) m w hw (Civ.date_400 hd hA)
    rw [Civ.U_400, show day + 146097 - (Civ.U y m + 146097) = day - Civ.U y m by omega] at k2
    have hlt := (Civ.fits_400 hd).2 hA
    rcases Civ.date_next hd (by omega) with hx | ⟨hm, hx, he⟩ | ⟨hm, hx, he⟩
    · have k3 := date_is _ _ _ w hw hx
      rw [show day + 1 - Civ.U y m = day - Civ.U y m + 1 by omega] at k3
      exact back_A_same day y m _ w hw a1 a2 a3 a4 hlo.1 hlo.2 h1 h2 (Lib.hid k0) (Lib.hid k1) (Lib.hid k2) (Lib.hid k3) hA
    · have k3 := date_is _ _ _ w hw hx
      rw [show day + 1 - Civ.U y (m + 1) = 1 by omega] at k3
      exact back_A_month day y m _ w hw a1 a2 a3 a4 hlo.1 hlo.2 h1 h2 (Lib.hid k0) (Lib.hid k1) (Lib.hid k2) (Lib.hid k3) hA hm
    · have k3 := date_is _ _ _ w hw hx
      rw [show day + 1 - Civ.U (y + 1) 1 = 1 by omega] at k3
      exact back_A_year day y m _ w hw a1 a2 a3 a4 hlo.1 hlo.2 h1 h2 (Lib.hid k0) (Lib.hid k1) (Lib.hid k2) (Lib.hid k3) hA hm
  · have hno : 3652059 < day + 146097 := by
      have := Civ.fits_400 hd
      omega
    have k2 := date_no (day + 146097) w (Or.inr hno)
    by_cases hL : day = 3652059
    · have k3 := date_no (day + 1) w (Or.inr (by omega))
      exact back_B_last day y m _ w hw a1 a2 a3 a4 hlo.1 hlo.2 h1 h2 (Lib.hid k0) (Lib.hid k1) (Lib.hid k2) (Lib.hid k3) (by omega) hL
    · rcases Civ.date_next hd (by omega) with hx | ⟨hm, hx, he⟩ | ⟨hm, hx, he⟩
      · have k3 := date_is _ _ _ w hw hx
        rw [show day + 1 - Civ.U y m = day - Civ.U y m + 1 by omega] at k3
        exact back_B_same day y m _ w hw a1 a2 a3 a4 hlo.1 hlo.2 h1 h2 (Lib.hid k0) (Lib.hid k1) (Lib.hid k2) (Lib.hid k3) (by omega)
      · have k3 := date_is _ _ _ w hw hx
        rw [show day + 1 - Civ.U y (m + 1) = 1 by omega] at k3
        exact back_B_month day y m _ w hw a1 a2 a3 a4 hlo.1 hlo.2 h1 h2 (Lib.hid k0) (Lib.hid k1) (Lib.hid k2) (Lib.hid k3) (by omega) hm
      · have k3 := date_is _ _ _ w hw hx
        rw [show day + 1 - Civ.U (y + 1) 1 = 1 by omega] at k3
        exact back_B_year day y m _ w hw a1 a2 a3 a4 hlo.1 hlo.2 h1 h2 (Lib.hid k0) (Lib.hid k1) (Lib.hid k2) (Lib.hid k3) (by omega) hm
end Go.Proofs.YtehofpmkplkaaabDoor
