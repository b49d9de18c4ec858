/- The contracts of package civil's functions over this translation. -/
import Derived.Test.YtlmhifdilmnlnaaDoorRows
import Derived.Test.YtlmhifdilmnlnaaDoorCivMath
import Derived.WalkKit
import Derived.WalkSpells
import Derived.WalkLawsBesides
import Derived.Lib.Hide
import Derived.BigQuiet
import Derived.Deep.QuietTactic
namespace Go.Proofs.YtlmhifdilmnlnaaDoor.Cw
open Go.RowKit

theorem ret_bool {a b : Bool} (h : a = b) : Ending.returned (.bool a) = .returned (.bool b) := by rw [h]
theorem ret_int {k : IntKind} {a b : Int} (h : a = b) : Ending.returned (.int k a) = .returned (.int k b) := by rw [h]

theorem ret_two {j k : IntKind} {a b c d : Int} (h : a = b) (h' : c = d) : Ending.returned (.tuple #[.int j a, .int k c]) = .returned (.tuple #[.int j b, .int k d]) := by rw [h, h']
theorem results_tmp4 {fn : Func} {t u v x : Tmp} (h : fn.results = #[.tmp t, .tmp u, .tmp v, .tmp x]) (tmps : Array Value) (P : Program) (w : World) :
    (results fn tmps).run P w = .ok (.tuple #[tmps.getD t undef, tmps.getD u undef, tmps.getD v undef, tmps.getD x undef]) w := by
  simp [results, h]

/-- The table's cells. -/
def Tab (w : World) : Prop := ∀ m : Int, 1 ≤ m → m ≤ 13 → w.cell? ⟨0, m.toNat - 1, none⟩ = some (.int .i64 (Civ.cum m))

theorem isYear_c (y : Int) (w : World) :
    Calls Tryd.prog 78 #[.int .i64 y] w fun e w' => e = .returned (.bool (decide (1 ≤ y ∧ y ≤ 9999))) ∧ w = w' := by
  by_cases h1 : 1 ≤ y
  · by_cases h2 : y ≤ 9999
    · go_enter Tryd.func78, Tryd.ntmps78
      go_wp2
      go_ret
      exact ⟨ret_bool (by rw [decide_eq_true (by omega)]), rfl⟩
    · go_enter Tryd.func78, Tryd.ntmps78
      go_wp2
      go_ret
      exact ⟨ret_bool (by rw [decide_eq_false (by omega)]), rfl⟩
  · go_enter Tryd.func78, Tryd.ntmps78
    go_wp2
    go_ret
    exact ⟨ret_bool (by simp; omega), rfl⟩
theorem isYear_yes (y : Int) (w : World) (h1 : 1 ≤ y) (h2 : y ≤ 9999) :
    Calls Tryd.prog 78 #[.int .i64 y] w fun e w' => e = .returned (.bool true) ∧ w = w' :=
  (isYear_c y w).mono fun _ _ ⟨a, b⟩ => ⟨by rw [a, decide_eq_true ⟨h1, h2⟩], b⟩
theorem isYear_no (y : Int) (w : World) (h : y < 1 ∨ 9999 < y) :
    Calls Tryd.prog 78 #[.int .i64 y] w fun e w' => e = .returned (.bool false) ∧ w = w' :=
  (isYear_c y w).mono fun _ _ ⟨a, b⟩ => ⟨by rw [a, decide_eq_false (by omega)], b⟩

/-- A leap year, of the years that there are. -/
def leapB (y : Int) : Bool := decide (1 ≤ y ∧ y ≤ 9999) && Civ.leap y
theorem leap_c (y : Int) (w : World) :
    Calls Tryd.prog 76 #[.int .i64 y] w fun e w' => e = .returned (.bool (leapB y)) ∧ w = w' := by
  by_cases h : 1 ≤ y ∧ y ≤ 9999
  · obtain ⟨h1, h2⟩ := h
    have hl : leapB y = decide (y % 4 = 0 ∧ (y % 100 ≠ 0 ∨ y % 400 = 0)) := by simp [leapB, h1, h2, Civ.leap]
    have HL := Lib.hid hl
    clear hl
    by_cases h4 : (y % 4 == 0) = true
    · by_cases h100 : (y % 100 != 0) = true
      · go_enter Tryd.func76, Tryd.ntmps76
        go_wp2_with (go_at_call 78; refine (isYear_yes _ _ h1 h2).mono ?_; rintro e w' ⟨rfl, rfl⟩)
        go_ret
        exact ⟨ret_bool (by rw [HL.out, decide_eq_true (by simp at h4 h100; omega)]), rfl⟩
      · by_cases h400 : (y % 400 == 0) = true
        · go_enter Tryd.func76, Tryd.ntmps76
          go_wp2_with (go_at_call 78; refine (isYear_yes _ _ h1 h2).mono ?_; rintro e w' ⟨rfl, rfl⟩)
          go_ret
          exact ⟨ret_bool (by rw [HL.out, decide_eq_true (by simp at h4 h400; omega)]), rfl⟩
        · go_enter Tryd.func76, Tryd.ntmps76
          go_wp2_with (go_at_call 78; refine (isYear_yes _ _ h1 h2).mono ?_; rintro e w' ⟨rfl, rfl⟩)
          go_ret
          exact ⟨ret_bool (by rw [HL.out, decide_eq_false (by simp at h4 h100 h400; omega)]), rfl⟩
    · go_enter Tryd.func76, Tryd.ntmps76
      go_wp2_with (go_at_call 78; refine (isYear_yes _ _ h1 h2).mono ?_; rintro e w' ⟨rfl, rfl⟩)
      go_ret
      exact ⟨ret_bool (by rw [HL.out, decide_eq_false (by simp at h4; omega)]), rfl⟩
  · have hl : leapB y = false := by simp [leapB, h]
    have HL := Lib.hid hl
    clear hl
    have h' : y < 1 ∨ 9999 < y := by omega
    go_enter Tryd.func76, Tryd.ntmps76
    go_wp2_with (go_at_call 78; refine (isYear_no _ _ h').mono ?_; rintro e w' ⟨rfl, rfl⟩)
    go_ret
    exact ⟨ret_bool HL.out.symm, rfl⟩
theorem leap_yes (y : Int) (w : World) (h1 : 1 ≤ y) (h2 : y ≤ 9999) (h : Civ.leap y = true) :
    Calls Tryd.prog 76 #[.int .i64 y] w fun e w' => e = .returned (.bool true) ∧ w = w' :=
  (leap_c y w).mono fun _ _ ⟨a, b⟩ => ⟨by rw [a]; simp [leapB, h1, h2, h], b⟩
theorem leap_no (y : Int) (w : World) (h : Civ.leap y = false) :
    Calls Tryd.prog 76 #[.int .i64 y] w fun e w' => e = .returned (.bool false) ∧ w = w' :=
  (leap_c y w).mono fun _ _ ⟨a, b⟩ => ⟨by rw [a]; simp [leapB, h], b⟩

theorem until_c (y m : Int) (w : World) (hw : Tab w) (h1 : 1 ≤ y) (h2 : y ≤ 9999) (h3 : 1 ≤ m) (h4 : m ≤ 13) :
    Calls Tryd.prog 71 #[.int .i64 y, .int .i64 m] w fun e w' => e = .returned (.int .i64 (Civ.U y m)) ∧ w = w' := by
  have hc := hw m h3 h4
  have hb := Civ.cum_bd m
  by_cases hm : 2 < m
  · cases hl : Civ.leap y
    · have HU := Lib.hid (show Civ.U y m = (y - 1) * 365 + (y - 1) / 4 - (y - 1) / 100 + (y - 1) / 400 + Civ.cum m by simp [Civ.U, Civ.late, Civ.lp, hl])
      have HL := Lib.hid hl
      clear hl hw
      go_enter Tryd.func71, Tryd.ntmps71
      go_wp2_with (go_at_call 76; refine (leap_no _ _ HL.out).mono ?_; rintro e w' ⟨rfl, rfl⟩)
      go_ret
      exact ⟨ret_int HU.out.symm, rfl⟩
    · have HU := Lib.hid (show Civ.U y m = (y - 1) * 365 + (y - 1) / 4 - (y - 1) / 100 + (y - 1) / 400 + Civ.cum m + 1 by simp [Civ.U, Civ.late, Civ.lp, hl, hm])
      have HL := Lib.hid hl
      clear hl hw
      go_enter Tryd.func71, Tryd.ntmps71
      go_wp2_with (go_at_call 76; refine (leap_yes _ _ h1 h2 HL.out).mono ?_; rintro e w' ⟨rfl, rfl⟩)
      go_ret
      exact ⟨ret_int HU.out.symm, rfl⟩
  · have HU := Lib.hid (show Civ.U y m = (y - 1) * 365 + (y - 1) / 4 - (y - 1) / 100 + (y - 1) / 400 + Civ.cum m by simp [Civ.U, Civ.late, hm])
    clear hw
    go_enter Tryd.func71, Tryd.ntmps71
    go_wp2
    go_ret
    exact ⟨ret_int HU.out.symm, rfl⟩

theorem month_yes (y m : Int) (w : World) (h1 : 1 ≤ y) (h2 : y ≤ 9999) (h3 : 1 ≤ m) (h4 : m ≤ 12) :
    Calls Tryd.prog 74 #[.int .i64 y, .int .i64 m] w fun e w' => e = .returned (.tuple #[.int .i64 ((y - 1) * 12 + m), .int .i64 0]) ∧ w = w' := by
  go_enter Tryd.func74, Tryd.ntmps74
  go_wp2_with (go_at_call 78; refine (isYear_yes _ _ h1 h2).mono ?_; rintro e w' ⟨rfl, rfl⟩)
  go_ret2
  exact ⟨rfl, rfl⟩
theorem month_no (y m : Int) (w : World) (h : y < 1 ∨ 9999 < y ∨ m < 1 ∨ 12 < m) :
    Calls Tryd.prog 74 #[.int .i64 y, .int .i64 m] w fun e w' => e = .returned (.tuple #[.int .i64 0, .int .i64 2]) ∧ w = w' := by
  by_cases hy : y < 1 ∨ 9999 < y
  · clear h
    go_enter Tryd.func74, Tryd.ntmps74
    go_wp2_with (go_at_call 78; refine (isYear_no _ _ hy).mono ?_; rintro e w' ⟨rfl, rfl⟩)
    go_ret2
    exact ⟨rfl, rfl⟩
  · have h1 : 1 ≤ y := by omega
    have h2 : y ≤ 9999 := by omega
    have h' : m < 1 ∨ 12 < m := by omega
    clear h hy
    rcases h' with h' | h'
    · go_enter Tryd.func74, Tryd.ntmps74
      go_wp2_with (go_at_call 78; refine (isYear_yes _ _ h1 h2).mono ?_; rintro e w' ⟨rfl, rfl⟩)
      go_ret2
      exact ⟨rfl, rfl⟩
    · go_enter Tryd.func74, Tryd.ntmps74
      go_wp2_with (go_at_call 78; refine (isYear_yes _ _ h1 h2).mono ?_; rintro e w' ⟨rfl, rfl⟩)
      go_ret2
      exact ⟨rfl, rfl⟩

/-- The days of the month of a year. -/
theorem days_yes (k : Int) (w : World) (hw : Tab w) (h1 : 1 ≤ k) (h2 : k ≤ 119988) :
    Calls Tryd.prog 50 #[.int .i64 k] w fun e w' =>
      e = .returned (.tuple #[.int .i64 (Civ.U ((k - 1) / 12 + 1) ((k - 1) % 12 + 1) + 1), .int .i64 (Civ.U ((k - 1) / 12 + 1) ((k - 1) % 12 + 1 + 1)), .int .i64 0]) ∧ w = w' := by
  have hq1 : 1 ≤ (k - 1) / 12 + 1 := by omega
  have hq2 : (k - 1) / 12 + 1 ≤ 9999 := by omega
  have hr1 : 1 ≤ (k - 1) % 12 + 1 := by omega
  have hr2 : (k - 1) % 12 + 1 ≤ 12 := by omega
  have hu1 := Civ.U_lo ((k - 1) / 12 + 1) ((k - 1) % 12 + 1) hq1 hr1 (by omega)
  have hu2 := Civ.U_hi ((k - 1) / 12 + 1) ((k - 1) % 12 + 1) hq2 hr1 (by omega)
  go_enter Tryd.func50, Tryd.ntmps50
  go_wp2_with (go_at_call 71; refine (until_c _ _ _ hw (by omega) (by omega) (by omega) (by omega)).mono ?_; rintro e w' ⟨rfl, rfl⟩)
  go_ret3
  exact ⟨rfl, rfl⟩
theorem days_no (k : Int) (w : World) (h : k < 1 ∨ 119988 < k) :
    Calls Tryd.prog 50 #[.int .i64 k] w fun e w' => e = .returned (.tuple #[.int .i64 0, .int .i64 0, .int .i64 2]) ∧ w = w' := by
  rcases h with h | h
  · go_enter Tryd.func50, Tryd.ntmps50
    go_wp2
    go_ret3
    exact ⟨rfl, rfl⟩
  · go_enter Tryd.func50, Tryd.ntmps50
    go_wp2
    go_ret3
    exact ⟨rfl, rfl⟩

/-- Is that a date? -/
def Valid (y m d : Int) : Prop := 1 ≤ y ∧ y ≤ 9999 ∧ 1 ≤ m ∧ m ≤ 12 ∧ 1 ≤ d ∧ Civ.U y m + d ≤ Civ.U y (m + 1)
theorem split_month (y m : Int) (h3 : 1 ≤ m) (h4 : m ≤ 12) : ((y - 1) * 12 + m - 1) / 12 + 1 = y ∧ ((y - 1) * 12 + m - 1) % 12 + 1 = m := by omega
end Go.Proofs.YtlmhifdilmnlnaaDoor.Cw
