/- The walk of CivilGaps, joined. -/
import Derived.Test.YtehofpmkplkaaabDoorCivGaps
namespace Go.Proofs.YtehofpmkplkaaabDoor
open Go.RowKit

theorem gaps_no (month at' : Int) (w : World) (hw : Tab w) (h : month < 1 ∨ 119988 < month) :
    Calls Tryd.prog 7 #[.int .i64 month, .int .i64 at'] w fun e w' => e = .returned (.bool true) ∧ w = w' := by
  rcases h with h | h
  · go_enter Tryd.func7, Tryd.ntmps7
    go_wp2_with (first | (go_at_call 15; refine (days_no _ _ (Or.inl h)).mono ?_; rintro e w' ⟨rfl, rfl⟩) | (go_at_call 12; refine (head_c _ hw).mono ?_; rintro e w' ⟨rfl, rfl⟩))
    go_ret
    exact ⟨rfl, rfl⟩
  · go_enter Tryd.func7, Tryd.ntmps7
    go_wp2_with (first | (go_at_call 15; refine (days_no _ _ (Or.inr h)).mono ?_; rintro e w' ⟨rfl, rfl⟩) | (go_at_call 12; refine (head_c _ hw).mono ?_; rintro e w' ⟨rfl, rfl⟩))
    go_ret
    exact ⟨rfl, rfl⟩

/-- The year, and the month of it, of a month. -/
def Yk (k : Int) : Int := (k - 1) / 12 + 1
def Mk (k : Int) : Int := (k - 1) % 12 + 1
theorem U_follow (k : Int) : Civ.U (Yk k) (Mk k + 1) = Civ.U (Yk (k + 1)) (Mk (k + 1)) := by
  unfold Yk Mk
  by_cases h : (k - 1) % 12 + 1 < 12
  · rw [show (k + 1 - 1) / 12 + 1 = (k - 1) / 12 + 1 by omega, show (k + 1 - 1) % 12 + 1 = (k - 1) % 12 + 1 + 1 by omega]
  · have hn := Civ.U_next ((k - 1) / 12 + 1)
    rw [show (k - 1) % 12 + 1 + 1 = 13 by omega, show (k + 1 - 1) / 12 + 1 = (k - 1) / 12 + 1 + 1 by omega, show (k + 1 - 1) % 12 + 1 = 1 by omega]
    exact hn
theorem of_month (k day : Int) (w : World) (hw : Tab w) (h1 : 1 ≤ k) (h2 : k ≤ 119988) (h3 : Civ.U (Yk k) (Mk k) < day) (h4 : day ≤ Civ.U (Yk k) (Mk k + 1)) :
    Calls Tryd.prog 10 #[.int .i64 day] w fun e w' => e = .returned (.tuple #[.int .i64 k, .int .i64 0]) ∧ w = w' := by
  have := of_is day (Yk k) (Mk k) w hw ⟨by unfold Yk; omega, by unfold Yk; omega, by unfold Mk; omega, by unfold Mk; omega, h3, h4⟩
  rwa [show (Yk k - 1) * 12 + Mk k = k by unfold Yk Mk; omega] at this

theorem gaps_c (month at' : Int) (w : World) (hw : Tab w) :
    Calls Tryd.prog 7 #[.int .i64 month, .int .i64 at'] w fun e w' => e = .returned (.bool true) ∧ w = w' := by
  by_cases hn : month < 1 ∨ 119988 < month
  · exact gaps_no month at' w hw hn
  have m1 : 1 ≤ month := by omega
  have m2 : month ≤ 119988 := by omega
  have hs := Civ.U_step (Yk month) (Mk month) (by unfold Mk; omega) (by unfold Mk; omega)
  have hlo := Civ.U_lo (Yk month) (Mk month) (by unfold Yk; omega) (by unfold Mk; omega) (by unfold Mk; omega)
  have hhi := Civ.U_hi (Yk month) (Mk month + 1) (by unfold Yk; omega) (by unfold Mk; omega) (by unfold Mk; omega)
  have k0 := days_yes month w hw m1 m2
  change Calls _ _ _ _ (fun e w' => e = .returned (.tuple #[.int .i64 (Civ.U (Yk month) (Mk month) + 1), .int .i64 (Civ.U (Yk month) (Mk month + 1)), .int .i64 0]) ∧ w = w') at k0
  have k1 : ∀ day, Civ.U (Yk month) (Mk month) < day → day ≤ Civ.U (Yk month) (Mk month + 1) → _ := fun day a b => of_month month day w hw m1 m2 a b
  have k2 : month < 119988 → _ := fun hm => of_month (month + 1) (Civ.U (Yk month) (Mk month + 1) + 1) w hw (by omega) (by omega) (by rw [← U_follow]; omega)
    (by rw [U_follow]; have := Civ.U_step (Yk (month + 1)) (Mk (month + 1)) (by unfold Mk; omega) (by unfold Mk; omega); omega)
  have k2' : month = 119988 → _ := fun hm => of_no (Civ.U (Yk month) (Mk month + 1) + 1) w (Or.inr (by subst hm; decide))
  have k3 : 1 < month → _ := fun hm => of_month (month - 1) (Civ.U (Yk month) (Mk month) + 1 - 1) w hw (by omega) (by omega)
    (by have e := U_follow (month - 1); rw [show month - 1 + 1 = month by omega] at e; have := Civ.U_step (Yk (month - 1)) (Mk (month - 1)) (by unfold Mk; omega) (by unfold Mk; omega); omega)
    (by have e := U_follow (month - 1); rw [show month - 1 + 1 = month by omega] at e; omega)
  have k3' : month = 1 → _ := fun hm => of_no (Civ.U (Yk month) (Mk month) + 1 - 1) w (Or.inl (by subst hm; decide))
  clear hn
  generalize Civ.U (Yk month) (Mk month) = f at *
  generalize Civ.U (Yk month) (Mk month + 1) = l at *
  have K0 := Lib.hid k0
  by_cases hk : 0 ≤ at'
  · have g1 := Int.emod_nonneg at' (show l - (f + 1) + 1 ≠ 0 by omega)
    have g2 := Int.emod_lt_of_pos at' (show 0 < l - (f + 1) + 1 by omega)
    have K1 := Lib.hid (k1 (f + 1 + at' % (l - (f + 1) + 1)) (by omega) (by omega))
    by_cases hU : month = 119988
    · exact gaps_pos_end_in month at' (f + 1) l w hw m1 m2 (by omega) hhi (by omega) (by omega) hk g1 g2 K0 K1 (Lib.hid (k2' hU)) (Lib.hid (k3 (by omega))) hU (by omega)
    · by_cases hW : month = 1
      · exact gaps_pos_in_end month at' (f + 1) l w hw m1 m2 (by omega) hhi (by omega) (by omega) hk g1 g2 K0 K1 (Lib.hid (k2 (by omega))) (Lib.hid (k3' hW)) (by omega) hW
      · exact gaps_pos_in_in month at' (f + 1) l w hw m1 m2 (by omega) hhi (by omega) (by omega) hk g1 g2 K0 K1 (Lib.hid (k2 (by omega))) (Lib.hid (k3 (by omega))) (by omega) (by omega)
  · have ht : at'.tmod (l - (f + 1) + 1) = -((-at') % (l - (f + 1) + 1)) := by
      have := Int.neg_tmod (a := -at') (b := l - (f + 1) + 1)
      rw [Int.neg_neg] at this
      rw [this, Int.tmod_eq_emod_of_nonneg (by omega)]
    have g1 := Int.emod_nonneg (-at') (show l - (f + 1) + 1 ≠ 0 by omega)
    have g2 := Int.emod_lt_of_pos (-at') (show 0 < l - (f + 1) + 1 by omega)
    by_cases h0 : at'.tmod (l - (f + 1) + 1) < 0
    · have K1 := Lib.hid (k1 (f + 1 + (at'.tmod (l - (f + 1) + 1) + (l - (f + 1) + 1))) (by omega) (by omega))
      by_cases hU : month = 119988
      · exact gaps_neg_end_in month at' (f + 1) l w hw m1 m2 (by omega) hhi (by omega) (by omega) (by omega) h0 (by omega) (by omega) K0 K1 (Lib.hid (k2' hU)) (Lib.hid (k3 (by omega))) hU (by omega)
      · by_cases hW : month = 1
        · exact gaps_neg_in_end month at' (f + 1) l w hw m1 m2 (by omega) hhi (by omega) (by omega) (by omega) h0 (by omega) (by omega) K0 K1 (Lib.hid (k2 (by omega))) (Lib.hid (k3' hW)) (by omega) hW
        · exact gaps_neg_in_in month at' (f + 1) l w hw m1 m2 (by omega) hhi (by omega) (by omega) (by omega) h0 (by omega) (by omega) K0 K1 (Lib.hid (k2 (by omega))) (Lib.hid (k3 (by omega))) (by omega) (by omega)
    · have K1 := Lib.hid (k1 (f + 1 + at'.tmod (l - (f + 1) + 1)) (by omega) (by omega))
      by_cases hU : month = 119988
      · exact gaps_zero_end_in month at' (f + 1) l w hw m1 m2 (by omega) hhi (by omega) (by omega) (by omega) (by omega) (by omega) K0 K1 (Lib.hid (k2' hU)) (Lib.hid (k3 (by omega))) hU (by omega)
      · by_cases hW : month = 1
        · exact gaps_zero_in_end month at' (f + 1) l w hw m1 m2 (by omega) hhi (by omega) (by omega) (by omega) (by omega) (by omega) K0 K1 (Lib.hid (k2 (by omega))) (Lib.hid (k3' hW)) (by omega) hW
        · exact gaps_zero_in_in month at' (f + 1) l w hw m1 m2 (by omega) hhi (by omega) (by omega) (by omega) (by omega) (by omega) K0 K1 (Lib.hid (k2 (by omega))) (Lib.hid (k3 (by omega))) (by omega) (by omega)
end Go.Proofs.YtehofpmkplkaaabDoor
