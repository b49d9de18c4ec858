/- The contracts of the document's dates and months. -/
import Derived.Test.YtlmhifdilmnlnaaDoorCwRef2
namespace Go.Proofs.YtlmhifdilmnlnaaDoor.Cw
open Go.RowKit

theorem ret_three {i j k : IntKind} {a b c d x y : Int} (h : a = b) (h' : c = d) (h'' : x = y) : Ending.returned (.tuple #[.int i a, .int j c, .int k x]) = .returned (.tuple #[.int i b, .int j d, .int k y]) := by rw [h, h', h'']
theorem first_400 (day : Int) (h1 : 1 ≤ day) (h2 : day ≤ 3652059) :
    1 ≤ 1 + (day - 1) / 146097 * 400 ∧ 1 + (day - 1) / 146097 * 400 ≤ 9999 ∧ Civ.U (1 + (day - 1) / 146097 * 400) 1 < day ∧ day - Civ.U (1 + (day - 1) / 146097 * 400) 1 = (day - 1) % 146097 + 1 := by
  have h := Civ.U_400s ((day - 1) / 146097)
  rw [show 400 * ((day - 1) / 146097) + 1 = 1 + (day - 1) / 146097 * 400 by omega] at h
  omega
set_option maxHeartbeats 400000 in
theorem rdate_yes (day : Int) (w : World) (h1 : 1 ≤ day) (h2 : day ≤ 3652059) :
    Calls Tryd.prog 48 #[.int .i64 day] w (DateRes day w) := by
  obtain ⟨f1, f2, f3, f4⟩ := first_400 day h1 h2
  have H4 := Lib.hid f4
  have e1 := Civ.U_last
  have e2 := Civ.U_next 9999
  have HL : ∀ y, 9999 < y → day ≤ Civ.U y 1 := by
    intro y hy
    have := Civ.U_year (9999 + 1) y (by omega)
    omega
  have HL := Lib.hid HL
  clear f4 e1 e2
  go_enter Tryd.func48, Tryd.ntmps48
  go_wp2
  go_loop [0, 6] (fun s t => ∃ y : Int, 1 ≤ y ∧ y ≤ 9999 ∧ Civ.U y 1 < day ∧ t = .int .i64 y ∧ s = .int .i64 (day - Civ.U y 1)) (fun s _ => (intOf s).toNat)
  case atStart => exact ⟨_, f1, f2, f3, rfl, by rw [H4.out]⟩
  case round =>
    obtain ⟨y, y1, y2, y3, rfl, rfl⟩ := hrel
    clear f1 f2 f3 H4
    have b1 := Civ.U_lo y 1 (by omega) (by omega) (by omega)
    have b3 := Civ.lp_01 y
    by_cases hk : 365 + Civ.lp y < day - Civ.U y 1
    · have he := Civ.year_eq y
      have y4 : Civ.U (y + 1) 1 < day := by omega
      have y5 : y + 1 ≤ 9999 := by
        have := HL.out (y + 1)
        omega
      have HE := Lib.hid he
      clear he
      go_wp2_with (go_at_call 62; refine (year_c _ _ (by omega) (by omega)).mono ?_; rintro e w' ⟨rfl, rfl⟩)
      go_round
      case rel => exact ⟨_, by omega, y5, y4, rfl, by rw [HE.out, show day - Civ.U y 1 - (365 + Civ.lp y) = day - (Civ.U y 1 + 365 + Civ.lp y) by omega]⟩
      case measure => simp [intOf]; omega
    · have y4 : day ≤ Civ.U y (12 + 1) := by
        have he := Civ.year_eq y
        have hn := Civ.U_next y
        simp at *
        omega
      go_wp2_with (go_at_call 62; refine (year_c _ _ (by omega) (by omega)).mono ?_; rintro e w' ⟨rfl, rfl⟩)
      clear hk
      go_loop [0, 7] (fun s t => ∃ m : Int, 1 ≤ m ∧ m ≤ 12 ∧ Civ.U y m < day ∧ t = .int .i64 m ∧ s = .int .i64 (day - Civ.U y m)) (fun s _ => (intOf s).toNat)
      case atStart => exact ⟨1, by omega, by omega, y3, rfl, rfl⟩
      case round =>
        obtain ⟨m, m1, m2, m3, rfl, rfl⟩ := hrel
        have c1 := Civ.U_lo y m (by omega) (by omega) (by omega)
        have c3 := Civ.len_bd y m (by omega) (by omega)
        by_cases hj : Civ.len y m < day - Civ.U y m
        · have he := Civ.U_add y m
          have m5 : m + 1 ≤ 12 := by
            have : m ≠ 12 := by rintro rfl; omega
            omega
          have m4 : Civ.U y (m + 1) < day := by omega
          have HE := Lib.hid he
          clear he
          go_wp2_with (go_at_call 43; refine (long_c _ _ _ (by omega) (by omega) (by omega) (by omega)).mono ?_; rintro e w' ⟨rfl, rfl⟩)
          go_round
          case rel => exact ⟨_, by omega, m5, m4, rfl, by rw [← HE.out, show day - Civ.U y m - Civ.len y m = day - (Civ.U y m + Civ.len y m) by omega]⟩
          case measure => simp [intOf]; omega
        · have hd : Civ.IsDate day y m := ⟨y1, y2, m1, m2, m3, by have he := Civ.U_add y m; omega⟩
          go_wp2_with (go_at_call 43; refine (long_c _ _ _ (by omega) (by omega) (by omega) (by omega)).mono ?_; rintro e w' ⟨rfl, rfl⟩)
          (try simp only [Exit.inBlock, Exit.then])
          refine bodyPost_ret (results_tmp4 rfl _ _ _) rfl ?_
          exact ⟨_, _, hd, rfl, rfl⟩
theorem rdate_is (day y m : Int) (w : World) (h : Civ.IsDate day y m) :
    Calls Tryd.prog 48 #[.int .i64 day] w fun e w' => e = .returned (.tuple #[.int .i64 y, .int .i64 m, .int .i64 (day - Civ.U y m), .int .i64 0]) ∧ w = w' :=
  (rdate_yes day w (Civ.day_hi h).1 (Civ.day_hi h).2).mono fun e w' ⟨z, n, hz, he, hw'⟩ => by
    obtain ⟨rfl, rfl⟩ := Civ.date_one hz h
    exact ⟨he, hw'⟩
theorem rdate_no (day : Int) (w : World) (h : day < 1 ∨ 3652059 < day) :
    Calls Tryd.prog 48 #[.int .i64 day] w fun e w' => e = .returned (.tuple #[.int .i64 0, .int .i64 0, .int .i64 0, .int .i64 2]) ∧ w = w' := by
  rcases h with h | h
  · go_enter Tryd.func48, Tryd.ntmps48
    go_wp2
    (try simp only [Exit.inBlock, Exit.then])
    refine bodyPost_ret (results_tmp4 rfl _ _ _) rfl ?_
    exact ⟨rfl, rfl⟩
  · go_enter Tryd.func48, Tryd.ntmps48
    go_wp2
    (try simp only [Exit.inBlock, Exit.then])
    refine bodyPost_ret (results_tmp4 rfl _ _ _) rfl ?_
    exact ⟨rfl, rfl⟩

theorem rmonth_yes (y m : Int) (w : World) (h1 : 1 ≤ y) (h2 : y ≤ 9999) (h3 : 1 ≤ m) (h4 : m ≤ 12) :
    Calls Tryd.prog 49 #[.int .i64 y, .int .i64 m] w fun e w' => e = .returned (.tuple #[.int .i64 ((y - 1) * 12 + m), .int .i64 0]) ∧ w = w' := by
  go_enter Tryd.func49, Tryd.ntmps49
  go_wp2
  go_ret2
  exact ⟨ret_two (by omega) rfl, rfl⟩
theorem rmonth_no (y m : Int) (w : World) (h : y < 1 ∨ 9999 < y ∨ m < 1 ∨ 12 < m) :
    Calls Tryd.prog 49 #[.int .i64 y, .int .i64 m] w fun e w' => e = .returned (.tuple #[.int .i64 0, .int .i64 2]) ∧ w = w' := by
  by_cases a1 : y < 1
  · clear h; go_enter Tryd.func49, Tryd.ntmps49
    go_wp2
    go_ret2
    exact ⟨rfl, rfl⟩
  by_cases a2 : 9999 < y
  · clear h; go_enter Tryd.func49, Tryd.ntmps49
    go_wp2
    go_ret2
    exact ⟨rfl, rfl⟩
  by_cases a3 : m < 1
  · clear h; go_enter Tryd.func49, Tryd.ntmps49
    go_wp2
    go_ret2
    exact ⟨rfl, rfl⟩
  have a4 : 12 < m := by omega
  clear h
  go_enter Tryd.func49, Tryd.ntmps49
  go_wp2
  go_ret2
  exact ⟨rfl, rfl⟩
theorem rof_is (day y m : Int) (w : World) (h : Civ.IsDate day y m) :
    Calls Tryd.prog 26 #[.int .i64 day] w fun e w' => e = .returned (.tuple #[.int .i64 ((y - 1) * 12 + m), .int .i64 0]) ∧ w = w' := by
  obtain ⟨h1, h2, h3, h4, _, _⟩ := id h
  go_enter Tryd.func26, Tryd.ntmps26
  go_wp2_with (first | (go_at_call 48; refine (rdate_is _ _ _ _ h).mono ?_; rintro e w' ⟨rfl, rfl⟩) | (go_at_call 49; refine (rmonth_yes _ _ _ h1 h2 h3 h4).mono ?_; rintro e w' ⟨rfl, rfl⟩))
  go_ret2
  exact ⟨rfl, rfl⟩
theorem rof_no (day : Int) (w : World) (h : day < 1 ∨ 3652059 < day) :
    Calls Tryd.prog 26 #[.int .i64 day] w fun e w' => e = .returned (.tuple #[.int .i64 0, .int .i64 2]) ∧ w = w' := by
  go_enter Tryd.func26, Tryd.ntmps26
  go_wp2_with (go_at_call 48; refine (rdate_no _ _ h).mono ?_; rintro e w' ⟨rfl, rfl⟩)
  go_ret2
  exact ⟨rfl, rfl⟩
theorem rdays_yes (k : Int) (w : World) (h1 : 1 ≤ k) (h2 : k ≤ 119988) :
    Calls Tryd.prog 25 #[.int .i64 k] w fun e w' =>
      e = .returned (.tuple #[.int .i64 (Civ.U ((k - 1) / 12 + 1) ((k - 1) % 12 + 1) + 1), .int .i64 (Civ.U ((k - 1) / 12 + 1) ((k - 1) % 12 + 1 + 1)), .int .i64 0]) ∧ w = w' := by
  have q1 : (k + 11) / 12 = (k - 1) / 12 + 1 := by omega
  have q2 : (k + 11) % 12 + 1 = (k - 1) % 12 + 1 := by omega
  have hu1 := Civ.U_lo ((k + 11) / 12) ((k + 11) % 12 + 1) (by omega) (by omega) (by omega)
  have hu2 := Civ.U_hi ((k + 11) / 12) ((k + 11) % 12 + 1) (by omega) (by omega) (by omega)
  have hlb := Civ.len_bd ((k + 11) / 12) ((k + 11) % 12 + 1) (by omega) (by omega)
  have HA := Lib.hid (Civ.U_add ((k + 11) / 12) ((k + 11) % 12 + 1))
  have hv : Valid ((k + 11) / 12) ((k + 11) % 12 + 1) 1 := ⟨by omega, by omega, by omega, by omega, by omega, by have := (Civ.U_step ((k + 11) / 12) ((k + 11) % 12 + 1) (by omega) (by omega)).1; omega⟩
  have HQ := Lib.hid (And.intro q1 q2)
  clear q1 q2
  go_enter Tryd.func25, Tryd.ntmps25
  go_wp2_with (first | (go_at_call 41; refine (rday_yes _ _ _ _ hv).mono ?_; rintro e w' ⟨rfl, rfl⟩) | (go_at_call 43; refine (long_c _ _ _ (by omega) (by omega) (by omega) (by omega)).mono ?_; rintro e w' ⟨rfl, rfl⟩))
  go_ret3
  exact ⟨ret_three (by rw [HQ.out.1, HQ.out.2]) (by rw [← HQ.out.1, ← HQ.out.2, ← HA.out]; omega) rfl, rfl⟩
theorem rdays_no (k : Int) (w : World) (h : k < 1 ∨ 119988 < k) :
    Calls Tryd.prog 25 #[.int .i64 k] w fun e w' => e = .returned (.tuple #[.int .i64 0, .int .i64 0, .int .i64 2]) ∧ w = w' := by
  rcases h with h | h
  · go_enter Tryd.func25, Tryd.ntmps25
    go_wp2
    go_ret3
    exact ⟨rfl, rfl⟩
  · go_enter Tryd.func25, Tryd.ntmps25
    go_wp2
    go_ret3
    exact ⟨rfl, rfl⟩
end Go.Proofs.YtlmhifdilmnlnaaDoor.Cw
