/- The walk of CivilGaps. -/
import Derived.Test.YtehofpmkplkaaabDoorCivHead
namespace Go.Proofs.YtehofpmkplkaaabDoor
open Go.RowKit

set_option maxRecDepth 100000 in
set_option maxHeartbeats 400000 in
theorem gaps_pos_in_in (month at' f l : Int) (w : World) (hw : Tab w) (_m1 : 1 ≤ month) (_m2 : month ≤ 119988) (_f1 : 1 ≤ f) (_l1 : l ≤ 3652059) (_n1 : f + 27 ≤ l) (_n2 : l ≤ f + 30) (_hk : 0 ≤ at') (_g1 : 0 ≤ at' % (l - f + 1)) (_g2 : at' % (l - f + 1) < l - f + 1)
    (K0 : Hid (Calls Tryd.prog 15 #[.int .i64 (month)] w fun e w' => e = .returned (.tuple #[.int .i64 (f), .int .i64 (l), .int .i64 (0)]) ∧ w = w'))
    (K1 : Hid (Calls Tryd.prog 10 #[.int .i64 (f + (at' % (l - f + 1)))] w fun e w' => e = .returned (.tuple #[.int .i64 (month), .int .i64 (0)]) ∧ w = w'))
    (K2 : Hid (Calls Tryd.prog 10 #[.int .i64 (l + 1)] w fun e w' => e = .returned (.tuple #[.int .i64 (month + 1), .int .i64 (0)]) ∧ w = w'))
    (K3 : Hid (Calls Tryd.prog 10 #[.int .i64 (f - 1)] w fun e w' => e = .returned (.tuple #[.int .i64 (month - 1), .int .i64 (0)]) ∧ w = w')) (_hU : month < 119988) (_hW : 1 < month) :
    Calls Tryd.prog 7 #[.int .i64 month, .int .i64 at'] w fun e w' => e = .returned (.bool true) ∧ w = w' := by
  go_enter Tryd.func7, Tryd.ntmps7
  go_wp2_with fail
  refine K0.out.mono ?_
  rintro e w' ⟨rfl, rfl⟩
  go_wp2_with fail
  refine K1.out.mono ?_
  rintro e w' ⟨rfl, rfl⟩
  go_wp2_with fail
  refine K2.out.mono ?_
  rintro e w' ⟨rfl, rfl⟩
  go_wp2_with fail
  refine K3.out.mono ?_
  rintro e w' ⟨rfl, rfl⟩
  go_wp2_with (go_at_call 12; refine (head_c _ hw).mono ?_; rintro e w' ⟨rfl, rfl⟩)
  go_ret
  exact ⟨rfl, rfl⟩
set_option maxRecDepth 100000 in
set_option maxHeartbeats 400000 in
theorem gaps_pos_in_end (month at' f l : Int) (w : World) (hw : Tab w) (_m1 : 1 ≤ month) (_m2 : month ≤ 119988) (_f1 : 1 ≤ f) (_l1 : l ≤ 3652059) (_n1 : f + 27 ≤ l) (_n2 : l ≤ f + 30) (_hk : 0 ≤ at') (_g1 : 0 ≤ at' % (l - f + 1)) (_g2 : at' % (l - f + 1) < l - f + 1)
    (K0 : Hid (Calls Tryd.prog 15 #[.int .i64 (month)] w fun e w' => e = .returned (.tuple #[.int .i64 (f), .int .i64 (l), .int .i64 (0)]) ∧ w = w'))
    (K1 : Hid (Calls Tryd.prog 10 #[.int .i64 (f + (at' % (l - f + 1)))] w fun e w' => e = .returned (.tuple #[.int .i64 (month), .int .i64 (0)]) ∧ w = w'))
    (K2 : Hid (Calls Tryd.prog 10 #[.int .i64 (l + 1)] w fun e w' => e = .returned (.tuple #[.int .i64 (month + 1), .int .i64 (0)]) ∧ w = w'))
    (K3 : Hid (Calls Tryd.prog 10 #[.int .i64 (f - 1)] w fun e w' => e = .returned (.tuple #[.int .i64 (0), .int .i64 (2)]) ∧ w = w')) (_hU : month < 119988) (hW : month = 1) :
    Calls Tryd.prog 7 #[.int .i64 month, .int .i64 at'] w fun e w' => e = .returned (.bool true) ∧ w = w' := by
  subst hW
  go_enter Tryd.func7, Tryd.ntmps7
  go_wp2_with fail
  refine K0.out.mono ?_
  rintro e w' ⟨rfl, rfl⟩
  go_wp2_with fail
  refine K1.out.mono ?_
  rintro e w' ⟨rfl, rfl⟩
  go_wp2_with fail
  refine K2.out.mono ?_
  rintro e w' ⟨rfl, rfl⟩
  go_wp2_with fail
  refine K3.out.mono ?_
  rintro e w' ⟨rfl, rfl⟩
  go_wp2_with (go_at_call 12; refine (head_c _ hw).mono ?_; rintro e w' ⟨rfl, rfl⟩)
  go_ret
  exact ⟨rfl, rfl⟩
set_option maxRecDepth 100000 in
set_option maxHeartbeats 400000 in
theorem gaps_pos_end_in (month at' f l : Int) (w : World) (hw : Tab w) (_m1 : 1 ≤ month) (_m2 : month ≤ 119988) (_f1 : 1 ≤ f) (_l1 : l ≤ 3652059) (_n1 : f + 27 ≤ l) (_n2 : l ≤ f + 30) (_hk : 0 ≤ at') (_g1 : 0 ≤ at' % (l - f + 1)) (_g2 : at' % (l - f + 1) < l - f + 1)
    (K0 : Hid (Calls Tryd.prog 15 #[.int .i64 (month)] w fun e w' => e = .returned (.tuple #[.int .i64 (f), .int .i64 (l), .int .i64 (0)]) ∧ w = w'))
    (K1 : Hid (Calls Tryd.prog 10 #[.int .i64 (f + (at' % (l - f + 1)))] w fun e w' => e = .returned (.tuple #[.int .i64 (month), .int .i64 (0)]) ∧ w = w'))
    (K2 : Hid (Calls Tryd.prog 10 #[.int .i64 (l + 1)] w fun e w' => e = .returned (.tuple #[.int .i64 (0), .int .i64 (2)]) ∧ w = w'))
    (K3 : Hid (Calls Tryd.prog 10 #[.int .i64 (f - 1)] w fun e w' => e = .returned (.tuple #[.int .i64 (month - 1), .int .i64 (0)]) ∧ w = w')) (hU : month = 119988) (_hW : 1 < month) :
    Calls Tryd.prog 7 #[.int .i64 month, .int .i64 at'] w fun e w' => e = .returned (.bool true) ∧ w = w' := by
  subst hU
  go_enter Tryd.func7, Tryd.ntmps7
  go_wp2_with fail
  refine K0.out.mono ?_
  rintro e w' ⟨rfl, rfl⟩
  go_wp2_with fail
  refine K1.out.mono ?_
  rintro e w' ⟨rfl, rfl⟩
  go_wp2_with fail
  refine K2.out.mono ?_
  rintro e w' ⟨rfl, rfl⟩
  go_wp2_with fail
  refine K3.out.mono ?_
  rintro e w' ⟨rfl, rfl⟩
  go_wp2_with (go_at_call 12; refine (head_c _ hw).mono ?_; rintro e w' ⟨rfl, rfl⟩)
  go_ret
  exact ⟨rfl, rfl⟩
set_option maxRecDepth 100000 in
set_option maxHeartbeats 400000 in
theorem gaps_neg_in_in (month at' f l : Int) (w : World) (hw : Tab w) (_m1 : 1 ≤ month) (_m2 : month ≤ 119988) (_f1 : 1 ≤ f) (_l1 : l ≤ 3652059) (_n1 : f + 27 ≤ l) (_n2 : l ≤ f + 30) (_hk : at' < 0) (_g0 : at'.tmod (l - f + 1) < 0) (_g1 : 0 ≤ at'.tmod (l - f + 1) + (l - f + 1)) (_g2 : at'.tmod (l - f + 1) + (l - f + 1) < l - f + 1)
    (K0 : Hid (Calls Tryd.prog 15 #[.int .i64 (month)] w fun e w' => e = .returned (.tuple #[.int .i64 (f), .int .i64 (l), .int .i64 (0)]) ∧ w = w'))
    (K1 : Hid (Calls Tryd.prog 10 #[.int .i64 (f + (at'.tmod (l - f + 1) + (l - f + 1)))] w fun e w' => e = .returned (.tuple #[.int .i64 (month), .int .i64 (0)]) ∧ w = w'))
    (K2 : Hid (Calls Tryd.prog 10 #[.int .i64 (l + 1)] w fun e w' => e = .returned (.tuple #[.int .i64 (month + 1), .int .i64 (0)]) ∧ w = w'))
    (K3 : Hid (Calls Tryd.prog 10 #[.int .i64 (f - 1)] w fun e w' => e = .returned (.tuple #[.int .i64 (month - 1), .int .i64 (0)]) ∧ w = w')) (_hU : month < 119988) (_hW : 1 < month) :
    Calls Tryd.prog 7 #[.int .i64 month, .int .i64 at'] w fun e w' => e = .returned (.bool true) ∧ w = w' := by
  go_enter Tryd.func7, Tryd.ntmps7
  go_wp2_with fail
  refine K0.out.mono ?_
  rintro e w' ⟨rfl, rfl⟩
  go_wp2_with fail
  refine K1.out.mono ?_
  rintro e w' ⟨rfl, rfl⟩
  go_wp2_with fail
  refine K2.out.mono ?_
  rintro e w' ⟨rfl, rfl⟩
  go_wp2_with fail
  refine K3.out.mono ?_
  rintro e w' ⟨rfl, rfl⟩
  go_wp2_with (go_at_call 12; refine (head_c _ hw).mono ?_; rintro e w' ⟨rfl, rfl⟩)
  go_ret
  exact ⟨rfl, rfl⟩
set_option maxRecDepth 100000 in
set_option maxHeartbeats 400000 in
theorem gaps_neg_in_end (month at' f l : Int) (w : World) (hw : Tab w) (_m1 : 1 ≤ month) (_m2 : month ≤ 119988) (_f1 : 1 ≤ f) (_l1 : l ≤ 3652059) (_n1 : f + 27 ≤ l) (_n2 : l ≤ f + 30) (_hk : at' < 0) (_g0 : at'.tmod (l - f + 1) < 0) (_g1 : 0 ≤ at'.tmod (l - f + 1) + (l - f + 1)) (_g2 : at'.tmod (l - f + 1) + (l - f + 1) < l - f + 1)
    (K0 : Hid (Calls Tryd.prog 15 #[.int .i64 (month)] w fun e w' => e = .returned (.tuple #[.int .i64 (f), .int .i64 (l), .int .i64 (0)]) ∧ w = w'))
    (K1 : Hid (Calls Tryd.prog 10 #[.int .i64 (f + (at'.tmod (l - f + 1) + (l - f + 1)))] w fun e w' => e = .returned (.tuple #[.int .i64 (month), .int .i64 (0)]) ∧ w = w'))
    (K2 : Hid (Calls Tryd.prog 10 #[.int .i64 (l + 1)] w fun e w' => e = .returned (.tuple #[.int .i64 (month + 1), .int .i64 (0)]) ∧ w = w'))
    (K3 : Hid (Calls Tryd.prog 10 #[.int .i64 (f - 1)] w fun e w' => e = .returned (.tuple #[.int .i64 (0), .int .i64 (2)]) ∧ w = w')) (_hU : month < 119988) (hW : month = 1) :
    Calls Tryd.prog 7 #[.int .i64 month, .int .i64 at'] w fun e w' => e = .returned (.bool true) ∧ w = w' := by
  subst hW
  go_enter Tryd.func7, Tryd.ntmps7
  go_wp2_with fail
  refine K0.out.mono ?_
  rintro e w' ⟨rfl, rfl⟩
  go_wp2_with fail
  refine K1.out.mono ?_
  rintro e w' ⟨rfl, rfl⟩
  go_wp2_with fail
  refine K2.out.mono ?_
  rintro e w' ⟨rfl, rfl⟩
  go_wp2_with fail
  refine K3.out.mono ?_
  rintro e w' ⟨rfl, rfl⟩
  go_wp2_with (go_at_call 12; refine (head_c _ hw).mono ?_; rintro e w' ⟨rfl, rfl⟩)
  go_ret
  exact ⟨rfl, rfl⟩
set_option maxRecDepth 100000 in
set_option maxHeartbeats 400000 in
theorem gaps_neg_end_in (month at' f l : Int) (w : World) (hw : Tab w) (_m1 : 1 ≤ month) (_m2 : month ≤ 119988) (_f1 : 1 ≤ f) (_l1 : l ≤ 3652059) (_n1 : f + 27 ≤ l) (_n2 : l ≤ f + 30) (_hk : at' < 0) (_g0 : at'.tmod (l - f + 1) < 0) (_g1 : 0 ≤ at'.tmod (l - f + 1) + (l - f + 1)) (_g2 : at'.tmod (l - f + 1) + (l - f + 1) < l - f + 1)
    (K0 : Hid (Calls Tryd.prog 15 #[.int .i64 (month)] w fun e w' => e = .returned (.tuple #[.int .i64 (f), .int .i64 (l), .int .i64 (0)]) ∧ w = w'))
    (K1 : Hid (Calls Tryd.prog 10 #[.int .i64 (f + (at'.tmod (l - f + 1) + (l - f + 1)))] w fun e w' => e = .returned (.tuple #[.int .i64 (month), .int .i64 (0)]) ∧ w = w'))
    (K2 : Hid (Calls Tryd.prog 10 #[.int .i64 (l + 1)] w fun e w' => e = .returned (.tuple #[.int .i64 (0), .int .i64 (2)]) ∧ w = w'))
    (K3 : Hid (Calls Tryd.prog 10 #[.int .i64 (f - 1)] w fun e w' => e = .returned (.tuple #[.int .i64 (month - 1), .int .i64 (0)]) ∧ w = w')) (hU : month = 119988) (_hW : 1 < month) :
    Calls Tryd.prog 7 #[.int .i64 month, .int .i64 at'] w fun e w' => e = .returned (.bool true) ∧ w = w' := by
  subst hU
  go_enter Tryd.func7, Tryd.ntmps7
  go_wp2_with fail
  refine K0.out.mono ?_
  rintro e w' ⟨rfl, rfl⟩
  go_wp2_with fail
  refine K1.out.mono ?_
  rintro e w' ⟨rfl, rfl⟩
  go_wp2_with fail
  refine K2.out.mono ?_
  rintro e w' ⟨rfl, rfl⟩
  go_wp2_with fail
  refine K3.out.mono ?_
  rintro e w' ⟨rfl, rfl⟩
  go_wp2_with (go_at_call 12; refine (head_c _ hw).mono ?_; rintro e w' ⟨rfl, rfl⟩)
  go_ret
  exact ⟨rfl, rfl⟩
set_option maxRecDepth 100000 in
set_option maxHeartbeats 400000 in
theorem gaps_zero_in_in (month at' f l : Int) (w : World) (hw : Tab w) (_m1 : 1 ≤ month) (_m2 : month ≤ 119988) (_f1 : 1 ≤ f) (_l1 : l ≤ 3652059) (_n1 : f + 27 ≤ l) (_n2 : l ≤ f + 30) (_hk : at' < 0) (_g0 : 0 ≤ at'.tmod (l - f + 1)) (_g1 : at'.tmod (l - f + 1) ≤ 0)
    (K0 : Hid (Calls Tryd.prog 15 #[.int .i64 (month)] w fun e w' => e = .returned (.tuple #[.int .i64 (f), .int .i64 (l), .int .i64 (0)]) ∧ w = w'))
    (K1 : Hid (Calls Tryd.prog 10 #[.int .i64 (f + (at'.tmod (l - f + 1)))] w fun e w' => e = .returned (.tuple #[.int .i64 (month), .int .i64 (0)]) ∧ w = w'))
    (K2 : Hid (Calls Tryd.prog 10 #[.int .i64 (l + 1)] w fun e w' => e = .returned (.tuple #[.int .i64 (month + 1), .int .i64 (0)]) ∧ w = w'))
    (K3 : Hid (Calls Tryd.prog 10 #[.int .i64 (f - 1)] w fun e w' => e = .returned (.tuple #[.int .i64 (month - 1), .int .i64 (0)]) ∧ w = w')) (_hU : month < 119988) (_hW : 1 < month) :
    Calls Tryd.prog 7 #[.int .i64 month, .int .i64 at'] w fun e w' => e = .returned (.bool true) ∧ w = w' := by
  go_enter Tryd.func7, Tryd.ntmps7
  go_wp2_with fail
  refine K0.out.mono ?_
  rintro e w' ⟨rfl, rfl⟩
  go_wp2_with fail
  refine K1.out.mono ?_
  rintro e w' ⟨rfl, rfl⟩
  go_wp2_with fail
  refine K2.out.mono ?_
  rintro e w' ⟨rfl, rfl⟩
  go_wp2_with fail
  refine K3.out.mono ?_
  rintro e w' ⟨rfl, rfl⟩
  go_wp2_with (go_at_call 12; refine (head_c _ hw).mono ?_; rintro e w' ⟨rfl, rfl⟩)
  go_ret
  exact ⟨rfl, rfl⟩
set_option maxRecDepth 100000 in
set_option maxHeartbeats 400000 in
theorem gaps_zero_in_end (month at' f l : Int) (w : World) (hw : Tab w) (_m1 : 1 ≤ month) (_m2 : month ≤ 119988) (_f1 : 1 ≤ f) (_l1 : l ≤ 3652059) (_n1 : f + 27 ≤ l) (_n2 : l ≤ f + 30) (_hk : at' < 0) (_g0 : 0 ≤ at'.tmod (l - f + 1)) (_g1 : at'.tmod (l - f + 1) ≤ 0)
    (K0 : Hid (Calls Tryd.prog 15 #[.int .i64 (month)] w fun e w' => e = .returned (.tuple #[.int .i64 (f), .int .i64 (l), .int .i64 (0)]) ∧ w = w'))
    (K1 : Hid (Calls Tryd.prog 10 #[.int .i64 (f + (at'.tmod (l - f + 1)))] w fun e w' => e = .returned (.tuple #[.int .i64 (month), .int .i64 (0)]) ∧ w = w'))
    (K2 : Hid (Calls Tryd.prog 10 #[.int .i64 (l + 1)] w fun e w' => e = .returned (.tuple #[.int .i64 (month + 1), .int .i64 (0)]) ∧ w = w'))
    (K3 : Hid (Calls Tryd.prog 10 #[.int .i64 (f - 1)] w fun e w' => e = .returned (.tuple #[.int .i64 (0), .int .i64 (2)]) ∧ w = w')) (_hU : month < 119988) (hW : month = 1) :
    Calls Tryd.prog 7 #[.int .i64 month, .int .i64 at'] w fun e w' => e = .returned (.bool true) ∧ w = w' := by
  subst hW
  go_enter Tryd.func7, Tryd.ntmps7
  go_wp2_with fail
  refine K0.out.mono ?_
  rintro e w' ⟨rfl, rfl⟩
  go_wp2_with fail
  refine K1.out.mono ?_
  rintro e w' ⟨rfl, rfl⟩
  go_wp2_with fail
  refine K2.out.mono ?_
  rintro e w' ⟨rfl, rfl⟩
  go_wp2_with fail
  refine K3.out.mono ?_
  rintro e w' ⟨rfl, rfl⟩
  go_wp2_with (go_at_call 12; refine (head_c _ hw).mono ?_; rintro e w' ⟨rfl, rfl⟩)
  go_ret
  exact ⟨rfl, rfl⟩
set_option maxRecDepth 100000 in
set_option maxHeartbeats 400000 in
theorem gaps_zero_end_in (month at' f l : Int) (w : World) (hw : Tab w) (_m1 : 1 ≤ month) (_m2 : month ≤ 119988) (_f1 : 1 ≤ f) (_l1 : l ≤ 3652059) (_n1 : f + 27 ≤ l) (_n2 : l ≤ f + 30) (_hk : at' < 0) (_g0 : 0 ≤ at'.tmod (l - f + 1)) (_g1 : at'.tmod (l - f + 1) ≤ 0)
    (K0 : Hid (Calls Tryd.prog 15 #[.int .i64 (month)] w fun e w' => e = .returned (.tuple #[.int .i64 (f), .int .i64 (l), .int .i64 (0)]) ∧ w = w'))
    (K1 : Hid (Calls Tryd.prog 10 #[.int .i64 (f + (at'.tmod (l - f + 1)))] w fun e w' => e = .returned (.tuple #[.int .i64 (month), .int .i64 (0)]) ∧ w = w'))
    (K2 : Hid (Calls Tryd.prog 10 #[.int .i64 (l + 1)] w fun e w' => e = .returned (.tuple #[.int .i64 (0), .int .i64 (2)]) ∧ w = w'))
    (K3 : Hid (Calls Tryd.prog 10 #[.int .i64 (f - 1)] w fun e w' => e = .returned (.tuple #[.int .i64 (month - 1), .int .i64 (0)]) ∧ w = w')) (hU : month = 119988) (_hW : 1 < month) :
    Calls Tryd.prog 7 #[.int .i64 month, .int .i64 at'] w fun e w' => e = .returned (.bool true) ∧ w = w' := by
  subst hU
  go_enter Tryd.func7, Tryd.ntmps7
  go_wp2_with fail
  refine K0.out.mono ?_
  rintro e w' ⟨rfl, rfl⟩
  go_wp2_with fail
  refine K1.out.mono ?_
  rintro e w' ⟨rfl, rfl⟩
  go_wp2_with fail
  refine K2.out.mono ?_
  rintro e w' ⟨rfl, rfl⟩
  go_wp2_with fail
  refine K3.out.mono ?_
  rintro e w' ⟨rfl, rfl⟩
  go_wp2_with (go_at_call 12; refine (head_c _ hw).mono ?_; rintro e w' ⟨rfl, rfl⟩)
  go_ret
  exact ⟨rfl, rfl⟩
end Go.Proofs.YtehofpmkplkaaabDoor
