/- The contracts of the document's answers: leap years, lengths, days. -/
import Derived.Test.YtlmhifdilmnlnaaDoorCwWalks2
namespace Go.Proofs.YtlmhifdilmnlnaaDoor.Cw
open Go.RowKit

theorem rleap_in (y : Int) (w : World) (h1 : 1 ≤ y) (h2 : y ≤ 9999) :
    Calls Tryd.prog 64 #[.int .i64 y] w fun e w' => e = .returned (.bool (Civ.leap y)) ∧ w = w' := by
  have HL := Lib.hid (show Civ.leap y = decide (y % 4 = 0 ∧ (y % 100 ≠ 0 ∨ y % 400 = 0)) from rfl)
  by_cases h400 : (y % 400 == 0) = true
  · go_enter Tryd.func64, Tryd.ntmps64
    go_wp2
    go_ret
    exact ⟨ret_bool (by rw [HL.out, decide_eq_true (by simp at h400; omega)]), rfl⟩
  · by_cases h4 : (y % 4 == 0) = true
    · by_cases h100 : (y % 100 != 0) = true
      · go_enter Tryd.func64, Tryd.ntmps64
        go_wp2
        go_ret
        exact ⟨ret_bool (by rw [HL.out, decide_eq_true (by simp at h4 h100; omega)]), rfl⟩
      · go_enter Tryd.func64, Tryd.ntmps64
        go_wp2
        go_ret
        exact ⟨ret_bool (by rw [HL.out, decide_eq_false (by simp at h4 h100 h400; omega)]), rfl⟩
    · go_enter Tryd.func64, Tryd.ntmps64
      go_wp2
      go_ret
      exact ⟨ret_bool (by rw [HL.out, decide_eq_false (by simp at h4 h400; omega)]), rfl⟩
theorem rleap_out (y : Int) (w : World) (h : y < 1 ∨ 9999 < y) :
    Calls Tryd.prog 64 #[.int .i64 y] w fun e w' => e = .returned (.bool false) ∧ w = w' := by
  rcases h with h | h
  · go_enter Tryd.func64, Tryd.ntmps64
    go_wp2
    go_ret
    exact ⟨rfl, rfl⟩
  · go_enter Tryd.func64, Tryd.ntmps64
    go_wp2
    go_ret
    exact ⟨rfl, rfl⟩
theorem rleap_c (y : Int) (w : World) :
    Calls Tryd.prog 64 #[.int .i64 y] w fun e w' => e = .returned (.bool (leapB y)) ∧ w = w' := by
  by_cases h : 1 ≤ y ∧ y ≤ 9999
  · exact (rleap_in y w h.1 h.2).mono fun _ _ ⟨a, b⟩ => ⟨by rw [a]; simp [leapB, h], b⟩
  · exact (rleap_out y w (by omega)).mono fun _ _ ⟨a, b⟩ => ⟨by rw [a]; simp [leapB, h], b⟩
theorem rleap_is (y : Int) (w : World) (h1 : 1 ≤ y) (h2 : y ≤ 9999) (b : Bool) (h : Civ.leap y = b) :
    Calls Tryd.prog 64 #[.int .i64 y] w fun e w' => e = .returned (.bool b) ∧ w = w' := by
  subst h; exact rleap_in y w h1 h2

theorem long_c (y m : Int) (w : World) (h1 : 1 ≤ y) (h2 : y ≤ 9999) (h3 : 1 ≤ m) (h4 : m ≤ 12) :
    Calls Tryd.prog 43 #[.int .i64 y, .int .i64 m] w fun e w' => e = .returned (.int .i64 (Civ.len y m)) ∧ w = w' := by
  have HL := Lib.hid (Civ.len_eq y m h3 h4)
  by_cases hm : m = 2
  · subst hm
    cases hl : Civ.leap y
    · have H := Lib.hid hl
      clear hl
      go_enter Tryd.func43, Tryd.ntmps43
      go_wp2_with (go_at_call 64; refine (rleap_is _ _ h1 h2 false H.out).mono ?_; rintro e w' ⟨rfl, rfl⟩)
      go_ret
      exact ⟨ret_int (by rw [HL.out]; simp [Civ.lp, H.out]), rfl⟩
    · have H := Lib.hid hl
      clear hl
      go_enter Tryd.func43, Tryd.ntmps43
      go_wp2_with (go_at_call 64; refine (rleap_is _ _ h1 h2 true H.out).mono ?_; rintro e w' ⟨rfl, rfl⟩)
      go_ret
      exact ⟨ret_int (by rw [HL.out]; simp [Civ.lp, H.out]), rfl⟩
  · have hm' : m = 1 ∨ m = 3 ∨ m = 4 ∨ m = 5 ∨ m = 6 ∨ m = 7 ∨ m = 8 ∨ m = 9 ∨ m = 10 ∨ m = 11 ∨ m = 12 := by omega
    clear hm
    rcases hm' with rfl | rfl | rfl | rfl | rfl | rfl | rfl | rfl | rfl | rfl | rfl
    all_goals
      go_enter Tryd.func43, Tryd.ntmps43
      go_wp2
      go_ret
      exact ⟨ret_int HL.out.symm, rfl⟩
theorem year_c (y : Int) (w : World) (h1 : 1 ≤ y) (h2 : y ≤ 9999) :
    Calls Tryd.prog 62 #[.int .i64 y] w fun e w' => e = .returned (.int .i64 (365 + Civ.lp y)) ∧ w = w' := by
  cases hl : Civ.leap y
  · have HU := Lib.hid (show 365 + Civ.lp y = 365 by simp [Civ.lp, hl])
    have H := Lib.hid hl
    clear hl
    go_enter Tryd.func62, Tryd.ntmps62
    go_wp2_with (go_at_call 64; refine (rleap_is _ _ h1 h2 false H.out).mono ?_; rintro e w' ⟨rfl, rfl⟩)
    go_ret
    exact ⟨ret_int HU.out.symm, rfl⟩
  · have HU := Lib.hid (show 365 + Civ.lp y = 366 by simp [Civ.lp, hl])
    have H := Lib.hid hl
    clear hl
    go_enter Tryd.func62, Tryd.ntmps62
    go_wp2_with (go_at_call 64; refine (rleap_is _ _ h1 h2 true H.out).mono ?_; rintro e w' ⟨rfl, rfl⟩)
    go_ret
    exact ⟨ret_int HU.out.symm, rfl⟩
end Go.Proofs.YtlmhifdilmnlnaaDoor.Cw
