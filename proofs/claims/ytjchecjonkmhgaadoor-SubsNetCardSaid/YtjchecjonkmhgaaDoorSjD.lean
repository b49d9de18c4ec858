/- Joined: CwWalks CwWalks2 CwRef CwRef2 CwRef3. -/
import Derived.Test.YtjchecjonkmhgaaDoorRows
import Derived.Test.YtjchecjonkmhgaaDoorSjA
import Derived.WalkKit
import Derived.WalkSpells
import Derived.WalkLawsBesides
import Derived.Lib.Hide
import Derived.BigQuiet
import Derived.Deep.QuietTactic
import Derived.Deep.LoopGhost
section
namespace Go.Proofs.YtjchecjonkmhgaaDoor.Cw
open Go.RowKit

theorem ret_bool {a b : Bool} (h : a = b) : Ending.returned (.bool a) = .returned (.bool b) := by rw [h]
theorem ret_int {k : IntKind} {a b : Int} (h : a = b) : Ending.returned (.int k a) = .returned (.int k b) := by rw [h]

theorem ret_two {j k : IntKind} {a b c d : Int} (h : a = b) (h' : c = d) : Ending.returned (.tuple #[.int j a, .int k c]) = .returned (.tuple #[.int j b, .int k d]) := by rw [h, h']
theorem results_tmp4 {fn : Func} {t u v x : Tmp} (h : fn.results = #[.tmp t, .tmp u, .tmp v, .tmp x]) (tmps : Array Value) (P : Program) (w : World) :
    (results fn tmps).run P w = .ok (.tuple #[tmps.getD t undef, tmps.getD u undef, tmps.getD v undef, tmps.getD x undef]) w := by
  simp [results, h]

/-- The table's cells. -/
def Tab (w : World) : Prop := ∀ m : Int, 1 ≤ m → m ≤ 13 → w.cell? ⟨0, m.toNat - 1, none⟩ = some (.int .i64 (Civ.cum m))

theorem isYear_c (y : Int) (w : World) :
    Calls Tryd.prog 86 #[.int .i64 y] w fun e w' => e = .returned (.bool (decide (1 ≤ y ∧ y ≤ 9999))) ∧ w = w' := by
  by_cases h1 : 1 ≤ y
  · by_cases h2 : y ≤ 9999
    · go_enter Tryd.func86, Tryd.ntmps86
      go_wp2
      go_ret
      exact ⟨ret_bool (by rw [decide_eq_true (by omega)]), rfl⟩
    · go_enter Tryd.func86, Tryd.ntmps86
      go_wp2
      go_ret
      exact ⟨ret_bool (by rw [decide_eq_false (by omega)]), rfl⟩
  · go_enter Tryd.func86, Tryd.ntmps86
    go_wp2
    go_ret
    exact ⟨ret_bool (by simp; omega), rfl⟩
theorem isYear_yes (y : Int) (w : World) (h1 : 1 ≤ y) (h2 : y ≤ 9999) :
    Calls Tryd.prog 86 #[.int .i64 y] w fun e w' => e = .returned (.bool true) ∧ w = w' :=
  (isYear_c y w).mono fun _ _ ⟨a, b⟩ => ⟨by rw [a, decide_eq_true ⟨h1, h2⟩], b⟩
theorem isYear_no (y : Int) (w : World) (h : y < 1 ∨ 9999 < y) :
    Calls Tryd.prog 86 #[.int .i64 y] w fun e w' => e = .returned (.bool false) ∧ w = w' :=
  (isYear_c y w).mono fun _ _ ⟨a, b⟩ => ⟨by rw [a, decide_eq_false (by omega)], b⟩

/-- A leap year, of the years that there are. -/
def leapB (y : Int) : Bool := decide (1 ≤ y ∧ y ≤ 9999) && Civ.leap y
theorem leap_c (y : Int) (w : World) :
    Calls Tryd.prog 95 #[.int .i64 y] w fun e w' => e = .returned (.bool (leapB y)) ∧ w = w' := by
  by_cases h : 1 ≤ y ∧ y ≤ 9999
  · obtain ⟨h1, h2⟩ := h
    have hl : leapB y = decide (y % 4 = 0 ∧ (y % 100 ≠ 0 ∨ y % 400 = 0)) := by simp [leapB, h1, h2, Civ.leap]
    have HL := Lib.hid hl
    clear hl
    by_cases h4 : (y % 4 == 0) = true
    · by_cases h100 : (y % 100 != 0) = true
      · go_enter Tryd.func95, Tryd.ntmps95
        go_wp2_with (go_at_call 86; refine (isYear_yes _ _ h1 h2).mono ?_; rintro e w' ⟨rfl, rfl⟩)
        go_ret
        exact ⟨ret_bool (by rw [HL.out, decide_eq_true (by simp at h4 h100; omega)]), rfl⟩
      · by_cases h400 : (y % 400 == 0) = true
        · go_enter Tryd.func95, Tryd.ntmps95
          go_wp2_with (go_at_call 86; refine (isYear_yes _ _ h1 h2).mono ?_; rintro e w' ⟨rfl, rfl⟩)
          go_ret
          exact ⟨ret_bool (by rw [HL.out, decide_eq_true (by simp at h4 h400; omega)]), rfl⟩
        · go_enter Tryd.func95, Tryd.ntmps95
          go_wp2_with (go_at_call 86; refine (isYear_yes _ _ h1 h2).mono ?_; rintro e w' ⟨rfl, rfl⟩)
          go_ret
          exact ⟨ret_bool (by rw [HL.out, decide_eq_false (by simp at h4 h100 h400; omega)]), rfl⟩
    · go_enter Tryd.func95, Tryd.ntmps95
      go_wp2_with (go_at_call 86; refine (isYear_yes _ _ h1 h2).mono ?_; rintro e w' ⟨rfl, rfl⟩)
      go_ret
      exact ⟨ret_bool (by rw [HL.out, decide_eq_false (by simp at h4; omega)]), rfl⟩
  · have hl : leapB y = false := by simp [leapB, h]
    have HL := Lib.hid hl
    clear hl
    have h' : y < 1 ∨ 9999 < y := by omega
    go_enter Tryd.func95, Tryd.ntmps95
    go_wp2_with (go_at_call 86; refine (isYear_no _ _ h').mono ?_; rintro e w' ⟨rfl, rfl⟩)
    go_ret
    exact ⟨ret_bool HL.out.symm, rfl⟩
theorem leap_yes (y : Int) (w : World) (h1 : 1 ≤ y) (h2 : y ≤ 9999) (h : Civ.leap y = true) :
    Calls Tryd.prog 95 #[.int .i64 y] w fun e w' => e = .returned (.bool true) ∧ w = w' :=
  (leap_c y w).mono fun _ _ ⟨a, b⟩ => ⟨by rw [a]; simp [leapB, h1, h2, h], b⟩
theorem leap_no (y : Int) (w : World) (h : Civ.leap y = false) :
    Calls Tryd.prog 95 #[.int .i64 y] w fun e w' => e = .returned (.bool false) ∧ w = w' :=
  (leap_c y w).mono fun _ _ ⟨a, b⟩ => ⟨by rw [a]; simp [leapB, h], b⟩

theorem until_c (y m : Int) (w : World) (hw : Tab w) (h1 : 1 ≤ y) (h2 : y ≤ 9999) (h3 : 1 ≤ m) (h4 : m ≤ 13) :
    Calls Tryd.prog 85 #[.int .i64 y, .int .i64 m] w fun e w' => e = .returned (.int .i64 (Civ.U y m)) ∧ w = w' := by
  have hc := hw m h3 h4
  have hb := Civ.cum_bd m
  by_cases hm : 2 < m
  · cases hl : Civ.leap y
    · have HU := Lib.hid (show Civ.U y m = (y - 1) * 365 + (y - 1) / 4 - (y - 1) / 100 + (y - 1) / 400 + Civ.cum m by simp [Civ.U, Civ.late, Civ.lp, hl])
      have HL := Lib.hid hl
      clear hl hw
      go_enter Tryd.func85, Tryd.ntmps85
      go_wp2_with (go_at_call 95; refine (leap_no _ _ HL.out).mono ?_; rintro e w' ⟨rfl, rfl⟩)
      go_ret
      exact ⟨ret_int HU.out.symm, rfl⟩
    · have HU := Lib.hid (show Civ.U y m = (y - 1) * 365 + (y - 1) / 4 - (y - 1) / 100 + (y - 1) / 400 + Civ.cum m + 1 by simp [Civ.U, Civ.late, Civ.lp, hl, hm])
      have HL := Lib.hid hl
      clear hl hw
      go_enter Tryd.func85, Tryd.ntmps85
      go_wp2_with (go_at_call 95; refine (leap_yes _ _ h1 h2 HL.out).mono ?_; rintro e w' ⟨rfl, rfl⟩)
      go_ret
      exact ⟨ret_int HU.out.symm, rfl⟩
  · have HU := Lib.hid (show Civ.U y m = (y - 1) * 365 + (y - 1) / 4 - (y - 1) / 100 + (y - 1) / 400 + Civ.cum m by simp [Civ.U, Civ.late, hm])
    clear hw
    go_enter Tryd.func85, Tryd.ntmps85
    go_wp2
    go_ret
    exact ⟨ret_int HU.out.symm, rfl⟩

theorem month_yes (y m : Int) (w : World) (h1 : 1 ≤ y) (h2 : y ≤ 9999) (h3 : 1 ≤ m) (h4 : m ≤ 12) :
    Calls Tryd.prog 75 #[.int .i64 y, .int .i64 m] w fun e w' => e = .returned (.tuple #[.int .i64 ((y - 1) * 12 + m), .int .i64 0]) ∧ w = w' := by
  go_enter Tryd.func75, Tryd.ntmps75
  go_wp2_with (go_at_call 86; refine (isYear_yes _ _ h1 h2).mono ?_; rintro e w' ⟨rfl, rfl⟩)
  go_ret2
  exact ⟨rfl, rfl⟩
theorem month_no (y m : Int) (w : World) (h : y < 1 ∨ 9999 < y ∨ m < 1 ∨ 12 < m) :
    Calls Tryd.prog 75 #[.int .i64 y, .int .i64 m] w fun e w' => e = .returned (.tuple #[.int .i64 0, .int .i64 2]) ∧ w = w' := by
  by_cases hy : y < 1 ∨ 9999 < y
  · clear h
    go_enter Tryd.func75, Tryd.ntmps75
    go_wp2_with (go_at_call 86; refine (isYear_no _ _ hy).mono ?_; rintro e w' ⟨rfl, rfl⟩)
    go_ret2
    exact ⟨rfl, rfl⟩
  · have h1 : 1 ≤ y := by omega
    have h2 : y ≤ 9999 := by omega
    have h' : m < 1 ∨ 12 < m := by omega
    clear h hy
    rcases h' with h' | h'
    · go_enter Tryd.func75, Tryd.ntmps75
      go_wp2_with (go_at_call 86; refine (isYear_yes _ _ h1 h2).mono ?_; rintro e w' ⟨rfl, rfl⟩)
      go_ret2
      exact ⟨rfl, rfl⟩
    · go_enter Tryd.func75, Tryd.ntmps75
      go_wp2_with (go_at_call 86; refine (isYear_yes _ _ h1 h2).mono ?_; rintro e w' ⟨rfl, rfl⟩)
      go_ret2
      exact ⟨rfl, rfl⟩

/-- The days of the month of a year. -/
theorem days_yes (k : Int) (w : World) (hw : Tab w) (h1 : 1 ≤ k) (h2 : k ≤ 119988) :
    Calls Tryd.prog 76 #[.int .i64 k] w fun e w' =>
      e = .returned (.tuple #[.int .i64 (Civ.U ((k - 1) / 12 + 1) ((k - 1) % 12 + 1) + 1), .int .i64 (Civ.U ((k - 1) / 12 + 1) ((k - 1) % 12 + 1 + 1)), .int .i64 0]) ∧ w = w' := by
  have hq1 : 1 ≤ (k - 1) / 12 + 1 := by omega
  have hq2 : (k - 1) / 12 + 1 ≤ 9999 := by omega
  have hr1 : 1 ≤ (k - 1) % 12 + 1 := by omega
  have hr2 : (k - 1) % 12 + 1 ≤ 12 := by omega
  have hu1 := Civ.U_lo ((k - 1) / 12 + 1) ((k - 1) % 12 + 1) hq1 hr1 (by omega)
  have hu2 := Civ.U_hi ((k - 1) / 12 + 1) ((k - 1) % 12 + 1) hq2 hr1 (by omega)
  go_enter Tryd.func76, Tryd.ntmps76
  go_wp2_with (go_at_call 85; refine (until_c _ _ _ hw (by omega) (by omega) (by omega) (by omega)).mono ?_; rintro e w' ⟨rfl, rfl⟩)
  go_ret3
  exact ⟨rfl, rfl⟩
theorem days_no (k : Int) (w : World) (h : k < 1 ∨ 119988 < k) :
    Calls Tryd.prog 76 #[.int .i64 k] w fun e w' => e = .returned (.tuple #[.int .i64 0, .int .i64 0, .int .i64 2]) ∧ w = w' := by
  rcases h with h | h
  · go_enter Tryd.func76, Tryd.ntmps76
    go_wp2
    go_ret3
    exact ⟨rfl, rfl⟩
  · go_enter Tryd.func76, Tryd.ntmps76
    go_wp2
    go_ret3
    exact ⟨rfl, rfl⟩

/-- Is that a date? -/
def Valid (y m d : Int) : Prop := 1 ≤ y ∧ y ≤ 9999 ∧ 1 ≤ m ∧ m ≤ 12 ∧ 1 ≤ d ∧ Civ.U y m + d ≤ Civ.U y (m + 1)
theorem split_month (y m : Int) (h3 : 1 ≤ m) (h4 : m ≤ 12) : ((y - 1) * 12 + m - 1) / 12 + 1 = y ∧ ((y - 1) * 12 + m - 1) % 12 + 1 = m := by omega
end Go.Proofs.YtjchecjonkmhgaaDoor.Cw
end
section
namespace Go.Proofs.YtjchecjonkmhgaaDoor.Cw
open Go.RowKit

/-- The year of that day. -/
def IsYear (day y : Int) : Prop := 1 ≤ y ∧ y ≤ 9999 ∧ Civ.U y 1 < day ∧ day ≤ Civ.U y 13
def YearRes (day : Int) (w : World) (e : Ending) (w' : World) : Prop := ∃ y : Int, IsYear day y ∧ e = .returned (.int .i64 y) ∧ w = w'
set_option maxHeartbeats 400000 in
theorem yearOf_c (day : Int) (w : World) (hw : Tab w) (h1 : 1 ≤ day) (h2 : day ≤ 3652059) :
    Calls Tryd.prog 84 #[.int .i64 day] w (YearRes day w) := by
  have b1 := Civ.U_first
  have b2 := Civ.U_last
  have a1 : Civ.U 1 1 < day := by omega
  have a2 : day ≤ Civ.U 9999 13 := by omega
  clear b1 b2
  go_enter Tryd.func84, Tryd.ntmps84
  go_wp2; go_step3; go_wp2; go_step3; go_wp2
  go_loop [3, 4, 5] (fun lo hi y => ∃ a b c : Int, lo = .int .i64 a ∧ hi = .int .i64 b ∧ y = .int .i64 c ∧ 1 ≤ a ∧ a ≤ b ∧ b ≤ 9999 ∧ Civ.U a 1 < day ∧ day ≤ Civ.U b 13) (fun lo hi _ => (intOf hi - intOf lo + 1).toNat)
  case atStart => exact ⟨1, 9999, 0, rfl, rfl, rfl, by omega, by omega, by omega, a1, a2⟩
  case round =>
    obtain ⟨a, b, c, rfl, rfl, rfl, r1, r2, r3, r4, r5⟩ := hrel
    clear a1 a2
    obtain ⟨y, hy⟩ : ∃ y, y = (a + b) / 2 := ⟨_, rfl⟩
    have y1 : a ≤ y := by omega
    have y2 : y ≤ b := by omega
    by_cases hA : day ≤ Civ.U y 1
    · have e1 : y ≠ a := by rintro rfl; omega
      have e2 := Civ.U_next (y - 1)
      rw [show y - 1 + 1 = y by omega] at e2
      have f1 : a ≤ y - 1 := by omega
      have f2 : day ≤ Civ.U (y - 1) 13 := by omega
      clear e1 e2
      subst hy
      go_wp2_with (go_at_call 85; refine (until_c _ _ _ hw (by omega) (by omega) (by omega) (by omega)).mono ?_; rintro e w' ⟨rfl, rfl⟩)
      go_round
      case rel => exact ⟨_, _, _, rfl, rfl, rfl, r1, f1, by omega, r4, f2⟩
      case measure => simp [intOf]; omega
    by_cases hB : Civ.U y 13 < day
    · have e1 : y ≠ b := by rintro rfl; omega
      have e2 := Civ.U_next y
      have f1 : y + 1 ≤ b := by omega
      have f2 : Civ.U (y + 1) 1 < day := by omega
      clear e1 e2
      subst hy
      go_wp2_with (go_at_call 85; refine (until_c _ _ _ hw (by omega) (by omega) (by omega) (by omega)).mono ?_; rintro e w' ⟨rfl, rfl⟩)
      go_round
      case rel => exact ⟨_, _, _, rfl, rfl, rfl, by omega, f1, r3, f2, r5⟩
      case measure => simp [intOf]; omega
    · have hd : IsYear day y := ⟨by omega, by omega, by omega, by omega⟩
      subst hy
      go_wp2_with (go_at_call 85; refine (until_c _ _ _ hw (by omega) (by omega) (by omega) (by omega)).mono ?_; rintro e w' ⟨rfl, rfl⟩)
      rw [Exit.noGoto_ret]
      go_ret
      exact ⟨_, hd, rfl, rfl⟩

def DateRes (day : Int) (w : World) (e : Ending) (w' : World) : Prop :=
  ∃ y m : Int, Civ.IsDate day y m ∧ e = .returned (.tuple #[.int .i64 y, .int .i64 m, .int .i64 (day - Civ.U y m), .int .i64 0]) ∧ w = w'
set_option maxHeartbeats 400000 in
theorem date_yes (day : Int) (w : World) (hw : Tab w) (h1 : 1 ≤ day) (h2 : day ≤ 3652059) :
    Calls Tryd.prog 74 #[.int .i64 day] w (DateRes day w) := by
  go_enter Tryd.func74, Tryd.ntmps74
  go_wp2_with (go_at_call 84; refine (yearOf_c _ _ hw h1 h2).mono ?_; rintro e w' ⟨y, ⟨y1, y2, y3, y4⟩, rfl, rfl⟩)
  go_loop [3] (fun s => ∃ m : Int, s = .int .i64 m ∧ 1 ≤ m ∧ m ≤ 12 ∧ day ≤ Civ.U y (m + 1)) (fun s => (intOf s).toNat)
  case atStart => exact ⟨12, rfl, by omega, by omega, y4⟩
  case round =>
    obtain ⟨m, rfl, m1, m2, m3⟩ := hrel
    by_cases hA : day ≤ Civ.U y m
    · have f1 : 1 ≤ m - 1 := by
        have : m ≠ 1 := by rintro rfl; omega
        omega
      have f2 : day ≤ Civ.U y (m - 1 + 1) := by rw [show m - 1 + 1 = m by omega]; exact hA
      go_wp2_with (go_at_call 85; refine (until_c _ _ _ hw (by omega) (by omega) (by omega) (by omega)).mono ?_; rintro e w' ⟨rfl, rfl⟩)
      go_round
      case rel => exact ⟨_, rfl, f1, by omega, f2⟩
      case measure => simp [intOf]; omega
    · have hd : Civ.IsDate day y m := ⟨y1, y2, m1, m2, by omega, m3⟩
      have hu1 := Civ.U_lo y m y1 m1 (by omega)
      have hu2 := Civ.U_hi y m y2 m1 (by omega)
      go_wp2_with (go_at_call 85; refine (until_c _ _ _ hw (by omega) (by omega) (by omega) (by omega)).mono ?_; rintro e w' ⟨rfl, rfl⟩)
      (try simp only [Exit.inBlock, Exit.then])
      refine bodyPost_ret (results_tmp4 rfl _ _ _) rfl ?_
      exact ⟨_, _, hd, rfl, rfl⟩
theorem date_no (day : Int) (w : World) (h : day < 1 ∨ 3652059 < day) :
    Calls Tryd.prog 74 #[.int .i64 day] w fun e w' => e = .returned (.tuple #[.int .i64 0, .int .i64 0, .int .i64 0, .int .i64 2]) ∧ w = w' := by
  rcases h with h | h
  · go_enter Tryd.func74, Tryd.ntmps74
    go_wp2
    (try simp only [Exit.inBlock, Exit.then])
    refine bodyPost_ret (results_tmp4 rfl _ _ _) rfl ?_
    exact ⟨rfl, rfl⟩
  · go_enter Tryd.func74, Tryd.ntmps74
    go_wp2
    (try simp only [Exit.inBlock, Exit.then])
    refine bodyPost_ret (results_tmp4 rfl _ _ _) rfl ?_
    exact ⟨rfl, rfl⟩

theorem date_is (day y m : Int) (w : World) (hw : Tab w) (h : Civ.IsDate day y m) :
    Calls Tryd.prog 74 #[.int .i64 day] w fun e w' => e = .returned (.tuple #[.int .i64 y, .int .i64 m, .int .i64 (day - Civ.U y m), .int .i64 0]) ∧ w = w' :=
  (date_yes day w hw (Civ.day_hi h).1 (Civ.day_hi h).2).mono fun e w' ⟨z, n, hz, he, hw'⟩ => by
    obtain ⟨rfl, rfl⟩ := Civ.date_one hz h
    exact ⟨he, hw'⟩
theorem of_is (day y m : Int) (w : World) (hw : Tab w) (h : Civ.IsDate day y m) :
    Calls Tryd.prog 63 #[.int .i64 day] w fun e w' => e = .returned (.tuple #[.int .i64 ((y - 1) * 12 + m), .int .i64 0]) ∧ w = w' := by
  obtain ⟨h1, h2, h3, h4, _, _⟩ := id h
  go_enter Tryd.func63, Tryd.ntmps63
  go_wp2_with (first | (go_at_call 74; refine (date_is _ _ _ _ hw h).mono ?_; rintro e w' ⟨rfl, rfl⟩) | (go_at_call 75; refine (month_yes _ _ _ h1 h2 h3 h4).mono ?_; rintro e w' ⟨rfl, rfl⟩))
  go_ret2
  exact ⟨rfl, rfl⟩
theorem of_no (day : Int) (w : World) (h : day < 1 ∨ 3652059 < day) :
    Calls Tryd.prog 63 #[.int .i64 day] w fun e w' => e = .returned (.tuple #[.int .i64 0, .int .i64 2]) ∧ w = w' := by
  go_enter Tryd.func63, Tryd.ntmps63
  go_wp2_with (go_at_call 74; refine (date_no _ _ h).mono ?_; rintro e w' ⟨rfl, rfl⟩)
  go_ret2
  exact ⟨rfl, rfl⟩
end Go.Proofs.YtjchecjonkmhgaaDoor.Cw
end
section
namespace Go.Proofs.YtjchecjonkmhgaaDoor.Cw
open Go.RowKit

theorem rleap_in (y : Int) (w : World) (h1 : 1 ≤ y) (h2 : y ≤ 9999) :
    Calls Tryd.prog 66 #[.int .i64 y] w fun e w' => e = .returned (.bool (Civ.leap y)) ∧ w = w' := by
  have HL := Lib.hid (show Civ.leap y = decide (y % 4 = 0 ∧ (y % 100 ≠ 0 ∨ y % 400 = 0)) from rfl)
  by_cases h400 : (y % 400 == 0) = true
  · go_enter Tryd.func66, Tryd.ntmps66
    go_wp2
    go_ret
    exact ⟨ret_bool (by rw [HL.out, decide_eq_true (by simp at h400; omega)]), rfl⟩
  · by_cases h4 : (y % 4 == 0) = true
    · by_cases h100 : (y % 100 != 0) = true
      · go_enter Tryd.func66, Tryd.ntmps66
        go_wp2
        go_ret
        exact ⟨ret_bool (by rw [HL.out, decide_eq_true (by simp at h4 h100; omega)]), rfl⟩
      · go_enter Tryd.func66, Tryd.ntmps66
        go_wp2
        go_ret
        exact ⟨ret_bool (by rw [HL.out, decide_eq_false (by simp at h4 h100 h400; omega)]), rfl⟩
    · go_enter Tryd.func66, Tryd.ntmps66
      go_wp2
      go_ret
      exact ⟨ret_bool (by rw [HL.out, decide_eq_false (by simp at h4 h400; omega)]), rfl⟩
theorem rleap_out (y : Int) (w : World) (h : y < 1 ∨ 9999 < y) :
    Calls Tryd.prog 66 #[.int .i64 y] w fun e w' => e = .returned (.bool false) ∧ w = w' := by
  rcases h with h | h
  · go_enter Tryd.func66, Tryd.ntmps66
    go_wp2
    go_ret
    exact ⟨rfl, rfl⟩
  · go_enter Tryd.func66, Tryd.ntmps66
    go_wp2
    go_ret
    exact ⟨rfl, rfl⟩
theorem rleap_c (y : Int) (w : World) :
    Calls Tryd.prog 66 #[.int .i64 y] w fun e w' => e = .returned (.bool (leapB y)) ∧ w = w' := by
  by_cases h : 1 ≤ y ∧ y ≤ 9999
  · exact (rleap_in y w h.1 h.2).mono fun _ _ ⟨a, b⟩ => ⟨by rw [a]; simp [leapB, h], b⟩
  · exact (rleap_out y w (by omega)).mono fun _ _ ⟨a, b⟩ => ⟨by rw [a]; simp [leapB, h], b⟩
theorem rleap_is (y : Int) (w : World) (h1 : 1 ≤ y) (h2 : y ≤ 9999) (b : Bool) (h : Civ.leap y = b) :
    Calls Tryd.prog 66 #[.int .i64 y] w fun e w' => e = .returned (.bool b) ∧ w = w' := by
  subst h; exact rleap_in y w h1 h2

theorem long_c (y m : Int) (w : World) (h1 : 1 ≤ y) (h2 : y ≤ 9999) (h3 : 1 ≤ m) (h4 : m ≤ 12) :
    Calls Tryd.prog 53 #[.int .i64 y, .int .i64 m] w fun e w' => e = .returned (.int .i64 (Civ.len y m)) ∧ w = w' := by
  have HL := Lib.hid (Civ.len_eq y m h3 h4)
  by_cases hm : m = 2
  · subst hm
    cases hl : Civ.leap y
    · have H := Lib.hid hl
      clear hl
      go_enter Tryd.func53, Tryd.ntmps53
      go_wp2_with (go_at_call 66; refine (rleap_is _ _ h1 h2 false H.out).mono ?_; rintro e w' ⟨rfl, rfl⟩)
      go_ret
      exact ⟨ret_int (by rw [HL.out]; simp [Civ.lp, H.out]), rfl⟩
    · have H := Lib.hid hl
      clear hl
      go_enter Tryd.func53, Tryd.ntmps53
      go_wp2_with (go_at_call 66; refine (rleap_is _ _ h1 h2 true H.out).mono ?_; rintro e w' ⟨rfl, rfl⟩)
      go_ret
      exact ⟨ret_int (by rw [HL.out]; simp [Civ.lp, H.out]), rfl⟩
  · have hm' : m = 1 ∨ m = 3 ∨ m = 4 ∨ m = 5 ∨ m = 6 ∨ m = 7 ∨ m = 8 ∨ m = 9 ∨ m = 10 ∨ m = 11 ∨ m = 12 := by omega
    clear hm
    rcases hm' with rfl | rfl | rfl | rfl | rfl | rfl | rfl | rfl | rfl | rfl | rfl
    all_goals
      go_enter Tryd.func53, Tryd.ntmps53
      go_wp2
      go_ret
      exact ⟨ret_int HL.out.symm, rfl⟩
theorem year_c (y : Int) (w : World) (h1 : 1 ≤ y) (h2 : y ≤ 9999) :
    Calls Tryd.prog 70 #[.int .i64 y] w fun e w' => e = .returned (.int .i64 (365 + Civ.lp y)) ∧ w = w' := by
  cases hl : Civ.leap y
  · have HU := Lib.hid (show 365 + Civ.lp y = 365 by simp [Civ.lp, hl])
    have H := Lib.hid hl
    clear hl
    go_enter Tryd.func70, Tryd.ntmps70
    go_wp2_with (go_at_call 66; refine (rleap_is _ _ h1 h2 false H.out).mono ?_; rintro e w' ⟨rfl, rfl⟩)
    go_ret
    exact ⟨ret_int HU.out.symm, rfl⟩
  · have HU := Lib.hid (show 365 + Civ.lp y = 366 by simp [Civ.lp, hl])
    have H := Lib.hid hl
    clear hl
    go_enter Tryd.func70, Tryd.ntmps70
    go_wp2_with (go_at_call 66; refine (rleap_is _ _ h1 h2 true H.out).mono ?_; rintro e w' ⟨rfl, rfl⟩)
    go_ret
    exact ⟨ret_int HU.out.symm, rfl⟩
end Go.Proofs.YtjchecjonkmhgaaDoor.Cw
end
section
namespace Go.Proofs.YtjchecjonkmhgaaDoor.Cw
open Go.RowKit

theorem valid_len (y m d : Int) (h3 : 1 ≤ m) (h4 : m ≤ 12) : Valid y m d ↔ 1 ≤ y ∧ y ≤ 9999 ∧ 1 ≤ m ∧ m ≤ 12 ∧ 1 ≤ d ∧ d ≤ Civ.len y m := by
  unfold Valid Civ.len
  omega

set_option maxHeartbeats 400000 in
theorem rday_yes (y m d : Int) (w : World) (h : Valid y m d) :
    Calls Tryd.prog 56 #[.int .i64 y, .int .i64 m, .int .i64 d] w fun e w' => e = .returned (.tuple #[.int .i64 (Civ.U y m + d), .int .i64 0]) ∧ w = w' := by
  obtain ⟨h1, h2, h3, h4, h5, h6⟩ := h
  have hl := (valid_len y m d h3 h4).1 ⟨h1, h2, h3, h4, h5, h6⟩
  have h7 := hl.2.2.2.2.2
  have hlb := Civ.len_bd y m h3 h4
  clear hl h6
  have HB := Lib.hid (Civ.U_base y)
  go_enter Tryd.func56, Tryd.ntmps56
  go_wp2_with (go_at_call 53; refine (long_c _ _ _ h1 h2 h3 h4).mono ?_; rintro e w' ⟨rfl, rfl⟩)
  go_loop [8, 9] (fun n i => ∃ k : Int, y - (y - 1) % 400 ≤ k ∧ k ≤ y ∧ i = .int .i64 k ∧ n = .int .i64 (d + Civ.U k 1)) (fun _ i => (y - intOf i).toNat)
  case atStart => exact ⟨_, by omega, by omega, rfl, by rw [HB.out]⟩
  case round =>
    obtain ⟨k, k1, k2, rfl, rfl⟩ := hrel
    have b1 := Civ.U_lo k 1 (by omega) (by omega) (by omega)
    have b2 := Civ.U_hi k 1 (by omega) (by omega) (by omega)
    have b3 := Civ.lp_01 k
    by_cases hk : k < y
    · have HE := Lib.hid (Civ.year_eq k)
      go_wp2_with (go_at_call 70; refine (year_c _ _ (by omega) (by omega)).mono ?_; rintro e w' ⟨rfl, rfl⟩)
      go_round
      case rel => exact ⟨_, by omega, by omega, rfl, by rw [HE.out, show d + Civ.U k 1 + (365 + Civ.lp k) = d + (Civ.U k 1 + 365 + Civ.lp k) by omega]⟩
      case measure => simp [intOf]; omega
    · obtain rfl : k = y := by omega
      clear hk
      go_wp2
      go_loop [8, 10] (fun n i => ∃ j : Int, 1 ≤ j ∧ j ≤ m ∧ i = .int .i64 j ∧ n = .int .i64 (d + Civ.U k j)) (fun _ i => (m - intOf i).toNat)
      case atStart => exact ⟨1, by omega, by omega, rfl, rfl⟩
      case round =>
        obtain ⟨j, j1, j2, rfl, rfl⟩ := hrel
        have c1 := Civ.U_lo k j (by omega) (by omega) (by omega)
        have c2 := Civ.U_hi k j (by omega) (by omega) (by omega)
        have c3 := Civ.len_bd k j (by omega) (by omega)
        by_cases hj : j < m
        · have HE := Lib.hid (Civ.U_add k j)
          go_wp2_with (go_at_call 53; refine (long_c _ _ _ (by omega) (by omega) (by omega) (by omega)).mono ?_; rintro e w' ⟨rfl, rfl⟩)
          go_round
          case rel => exact ⟨_, by omega, by omega, rfl, by rw [← HE.out, Int.add_assoc]⟩
          case measure => simp [intOf]; omega
        · obtain rfl : j = m := by omega
          clear hj
          go_wp2
          go_ret2
          exact ⟨ret_two (by omega) rfl, rfl⟩

set_option maxHeartbeats 400000 in
theorem rday_no (y m d : Int) (w : World) (h : ¬ Valid y m d) :
    Calls Tryd.prog 56 #[.int .i64 y, .int .i64 m, .int .i64 d] w fun e w' => e = .returned (.tuple #[.int .i64 0, .int .i64 2]) ∧ w = w' := by
  by_cases a1 : y < 1
  · clear h; go_enter Tryd.func56, Tryd.ntmps56
    go_wp2
    go_ret2
    exact ⟨rfl, rfl⟩
  by_cases a2 : 9999 < y
  · clear h; go_enter Tryd.func56, Tryd.ntmps56
    go_wp2
    go_ret2
    exact ⟨rfl, rfl⟩
  by_cases a3 : m < 1
  · clear h; go_enter Tryd.func56, Tryd.ntmps56
    go_wp2
    go_ret2
    exact ⟨rfl, rfl⟩
  by_cases a4 : 12 < m
  · clear h; go_enter Tryd.func56, Tryd.ntmps56
    go_wp2
    go_ret2
    exact ⟨rfl, rfl⟩
  by_cases a5 : d < 1
  · clear h; go_enter Tryd.func56, Tryd.ntmps56
    go_wp2
    go_ret2
    exact ⟨rfl, rfl⟩
  have a6 : Civ.len y m < d := by
    apply Classical.byContradiction
    intro hn
    exact h ((valid_len y m d (by omega) (by omega)).2 ⟨by omega, by omega, by omega, by omega, by omega, by omega⟩)
  clear h
  go_enter Tryd.func56, Tryd.ntmps56
  go_wp2_with (go_at_call 53; refine (long_c _ _ _ (by omega) (by omega) (by omega) (by omega)).mono ?_; rintro e w' ⟨rfl, rfl⟩)
  go_ret2
  exact ⟨rfl, rfl⟩
end Go.Proofs.YtjchecjonkmhgaaDoor.Cw
end
section
namespace Go.Proofs.YtjchecjonkmhgaaDoor.Cw
open Go.RowKit

theorem ret_three {i j k : IntKind} {a b c d x y : Int} (h : a = b) (h' : c = d) (h'' : x = y) : Ending.returned (.tuple #[.int i a, .int j c, .int k x]) = .returned (.tuple #[.int i b, .int j d, .int k y]) := by rw [h, h', h'']
theorem first_400 (day : Int) (h1 : 1 ≤ day) (h2 : day ≤ 3652059) :
    1 ≤ 1 + (day - 1) / 146097 * 400 ∧ 1 + (day - 1) / 146097 * 400 ≤ 9999 ∧ Civ.U (1 + (day - 1) / 146097 * 400) 1 < day ∧ day - Civ.U (1 + (day - 1) / 146097 * 400) 1 = (day - 1) % 146097 + 1 := by
  have h := Civ.U_400s ((day - 1) / 146097)
  rw [show 400 * ((day - 1) / 146097) + 1 = 1 + (day - 1) / 146097 * 400 by omega] at h
  omega
set_option maxHeartbeats 400000 in
theorem rdate_yes (day : Int) (w : World) (h1 : 1 ≤ day) (h2 : day ≤ 3652059) :
    Calls Tryd.prog 59 #[.int .i64 day] w (DateRes day w) := by
  obtain ⟨f1, f2, f3, f4⟩ := first_400 day h1 h2
  have H4 := Lib.hid f4
  have e1 := Civ.U_last
  have e2 := Civ.U_next 9999
  have HL : ∀ y, 9999 < y → day ≤ Civ.U y 1 := by
    intro y hy
    have := Civ.U_year (9999 + 1) y (by omega)
    omega
  have HL := Lib.hid HL
  clear f4 e1 e2
  go_enter Tryd.func59, Tryd.ntmps59
  go_wp2
  go_loop [0, 6] (fun s t => ∃ y : Int, 1 ≤ y ∧ y ≤ 9999 ∧ Civ.U y 1 < day ∧ t = .int .i64 y ∧ s = .int .i64 (day - Civ.U y 1)) (fun s _ => (intOf s).toNat)
  case atStart => exact ⟨_, f1, f2, f3, rfl, by rw [H4.out]⟩
  case round =>
    obtain ⟨y, y1, y2, y3, rfl, rfl⟩ := hrel
    clear f1 f2 f3 H4
    have b1 := Civ.U_lo y 1 (by omega) (by omega) (by omega)
    have b3 := Civ.lp_01 y
    by_cases hk : 365 + Civ.lp y < day - Civ.U y 1
    · have he := Civ.year_eq y
      have y4 : Civ.U (y + 1) 1 < day := by omega
      have y5 : y + 1 ≤ 9999 := by
        have := HL.out (y + 1)
        omega
      have HE := Lib.hid he
      clear he
      go_wp2_with (go_at_call 70; refine (year_c _ _ (by omega) (by omega)).mono ?_; rintro e w' ⟨rfl, rfl⟩)
      go_round
      case rel => exact ⟨_, by omega, y5, y4, rfl, by rw [HE.out, show day - Civ.U y 1 - (365 + Civ.lp y) = day - (Civ.U y 1 + 365 + Civ.lp y) by omega]⟩
      case measure => simp [intOf]; omega
    · have y4 : day ≤ Civ.U y (12 + 1) := by
        have he := Civ.year_eq y
        have hn := Civ.U_next y
        simp at *
        omega
      go_wp2_with (go_at_call 70; refine (year_c _ _ (by omega) (by omega)).mono ?_; rintro e w' ⟨rfl, rfl⟩)
      clear hk
      go_loop [0, 7] (fun s t => ∃ m : Int, 1 ≤ m ∧ m ≤ 12 ∧ Civ.U y m < day ∧ t = .int .i64 m ∧ s = .int .i64 (day - Civ.U y m)) (fun s _ => (intOf s).toNat)
      case atStart => exact ⟨1, by omega, by omega, y3, rfl, rfl⟩
      case round =>
        obtain ⟨m, m1, m2, m3, rfl, rfl⟩ := hrel
        have c1 := Civ.U_lo y m (by omega) (by omega) (by omega)
        have c3 := Civ.len_bd y m (by omega) (by omega)
        by_cases hj : Civ.len y m < day - Civ.U y m
        · have he := Civ.U_add y m
          have m5 : m + 1 ≤ 12 := by
            have : m ≠ 12 := by rintro rfl; omega
            omega
          have m4 : Civ.U y (m + 1) < day := by omega
          have HE := Lib.hid he
          clear he
          go_wp2_with (go_at_call 53; refine (long_c _ _ _ (by omega) (by omega) (by omega) (by omega)).mono ?_; rintro e w' ⟨rfl, rfl⟩)
          go_round
          case rel => exact ⟨_, by omega, m5, m4, rfl, by rw [← HE.out, show day - Civ.U y m - Civ.len y m = day - (Civ.U y m + Civ.len y m) by omega]⟩
          case measure => simp [intOf]; omega
        · have hd : Civ.IsDate day y m := ⟨y1, y2, m1, m2, m3, by have he := Civ.U_add y m; omega⟩
          go_wp2_with (go_at_call 53; refine (long_c _ _ _ (by omega) (by omega) (by omega) (by omega)).mono ?_; rintro e w' ⟨rfl, rfl⟩)
          (try simp only [Exit.inBlock, Exit.then])
          refine bodyPost_ret (results_tmp4 rfl _ _ _) rfl ?_
          exact ⟨_, _, hd, rfl, rfl⟩
theorem rdate_is (day y m : Int) (w : World) (h : Civ.IsDate day y m) :
    Calls Tryd.prog 59 #[.int .i64 day] w fun e w' => e = .returned (.tuple #[.int .i64 y, .int .i64 m, .int .i64 (day - Civ.U y m), .int .i64 0]) ∧ w = w' :=
  (rdate_yes day w (Civ.day_hi h).1 (Civ.day_hi h).2).mono fun e w' ⟨z, n, hz, he, hw'⟩ => by
    obtain ⟨rfl, rfl⟩ := Civ.date_one hz h
    exact ⟨he, hw'⟩
theorem rdate_no (day : Int) (w : World) (h : day < 1 ∨ 3652059 < day) :
    Calls Tryd.prog 59 #[.int .i64 day] w fun e w' => e = .returned (.tuple #[.int .i64 0, .int .i64 0, .int .i64 0, .int .i64 2]) ∧ w = w' := by
  rcases h with h | h
  · go_enter Tryd.func59, Tryd.ntmps59
    go_wp2
    (try simp only [Exit.inBlock, Exit.then])
    refine bodyPost_ret (results_tmp4 rfl _ _ _) rfl ?_
    exact ⟨rfl, rfl⟩
  · go_enter Tryd.func59, Tryd.ntmps59
    go_wp2
    (try simp only [Exit.inBlock, Exit.then])
    refine bodyPost_ret (results_tmp4 rfl _ _ _) rfl ?_
    exact ⟨rfl, rfl⟩

theorem rmonth_yes (y m : Int) (w : World) (h1 : 1 ≤ y) (h2 : y ≤ 9999) (h3 : 1 ≤ m) (h4 : m ≤ 12) :
    Calls Tryd.prog 60 #[.int .i64 y, .int .i64 m] w fun e w' => e = .returned (.tuple #[.int .i64 ((y - 1) * 12 + m), .int .i64 0]) ∧ w = w' := by
  go_enter Tryd.func60, Tryd.ntmps60
  go_wp2
  go_ret2
  exact ⟨ret_two (by omega) rfl, rfl⟩
theorem rmonth_no (y m : Int) (w : World) (h : y < 1 ∨ 9999 < y ∨ m < 1 ∨ 12 < m) :
    Calls Tryd.prog 60 #[.int .i64 y, .int .i64 m] w fun e w' => e = .returned (.tuple #[.int .i64 0, .int .i64 2]) ∧ w = w' := by
  by_cases a1 : y < 1
  · clear h; go_enter Tryd.func60, Tryd.ntmps60
    go_wp2
    go_ret2
    exact ⟨rfl, rfl⟩
  by_cases a2 : 9999 < y
  · clear h; go_enter Tryd.func60, Tryd.ntmps60
    go_wp2
    go_ret2
    exact ⟨rfl, rfl⟩
  by_cases a3 : m < 1
  · clear h; go_enter Tryd.func60, Tryd.ntmps60
    go_wp2
    go_ret2
    exact ⟨rfl, rfl⟩
  have a4 : 12 < m := by omega
  clear h
  go_enter Tryd.func60, Tryd.ntmps60
  go_wp2
  go_ret2
  exact ⟨rfl, rfl⟩
theorem rof_is (day y m : Int) (w : World) (h : Civ.IsDate day y m) :
    Calls Tryd.prog 40 #[.int .i64 day] w fun e w' => e = .returned (.tuple #[.int .i64 ((y - 1) * 12 + m), .int .i64 0]) ∧ w = w' := by
  obtain ⟨h1, h2, h3, h4, _, _⟩ := id h
  go_enter Tryd.func40, Tryd.ntmps40
  go_wp2_with (first | (go_at_call 59; refine (rdate_is _ _ _ _ h).mono ?_; rintro e w' ⟨rfl, rfl⟩) | (go_at_call 60; refine (rmonth_yes _ _ _ h1 h2 h3 h4).mono ?_; rintro e w' ⟨rfl, rfl⟩))
  go_ret2
  exact ⟨rfl, rfl⟩
theorem rof_no (day : Int) (w : World) (h : day < 1 ∨ 3652059 < day) :
    Calls Tryd.prog 40 #[.int .i64 day] w fun e w' => e = .returned (.tuple #[.int .i64 0, .int .i64 2]) ∧ w = w' := by
  go_enter Tryd.func40, Tryd.ntmps40
  go_wp2_with (go_at_call 59; refine (rdate_no _ _ h).mono ?_; rintro e w' ⟨rfl, rfl⟩)
  go_ret2
  exact ⟨rfl, rfl⟩
theorem rdays_yes (k : Int) (w : World) (h1 : 1 ≤ k) (h2 : k ≤ 119988) :
    Calls Tryd.prog 52 #[.int .i64 k] w fun e w' =>
      e = .returned (.tuple #[.int .i64 (Civ.U ((k - 1) / 12 + 1) ((k - 1) % 12 + 1) + 1), .int .i64 (Civ.U ((k - 1) / 12 + 1) ((k - 1) % 12 + 1 + 1)), .int .i64 0]) ∧ w = w' := by
  have q1 : (k + 11) / 12 = (k - 1) / 12 + 1 := by omega
  have q2 : (k + 11) % 12 + 1 = (k - 1) % 12 + 1 := by omega
  have hu1 := Civ.U_lo ((k + 11) / 12) ((k + 11) % 12 + 1) (by omega) (by omega) (by omega)
  have hu2 := Civ.U_hi ((k + 11) / 12) ((k + 11) % 12 + 1) (by omega) (by omega) (by omega)
  have hlb := Civ.len_bd ((k + 11) / 12) ((k + 11) % 12 + 1) (by omega) (by omega)
  have HA := Lib.hid (Civ.U_add ((k + 11) / 12) ((k + 11) % 12 + 1))
  have hv : Valid ((k + 11) / 12) ((k + 11) % 12 + 1) 1 := ⟨by omega, by omega, by omega, by omega, by omega, by have := (Civ.U_step ((k + 11) / 12) ((k + 11) % 12 + 1) (by omega) (by omega)).1; omega⟩
  have HQ := Lib.hid (And.intro q1 q2)
  clear q1 q2
  go_enter Tryd.func52, Tryd.ntmps52
  go_wp2_with (first | (go_at_call 56; refine (rday_yes _ _ _ _ hv).mono ?_; rintro e w' ⟨rfl, rfl⟩) | (go_at_call 53; refine (long_c _ _ _ (by omega) (by omega) (by omega) (by omega)).mono ?_; rintro e w' ⟨rfl, rfl⟩))
  go_ret3
  exact ⟨ret_three (by rw [HQ.out.1, HQ.out.2]) (by rw [← HQ.out.1, ← HQ.out.2, ← HA.out]; omega) rfl, rfl⟩
theorem rdays_no (k : Int) (w : World) (h : k < 1 ∨ 119988 < k) :
    Calls Tryd.prog 52 #[.int .i64 k] w fun e w' => e = .returned (.tuple #[.int .i64 0, .int .i64 0, .int .i64 2]) ∧ w = w' := by
  rcases h with h | h
  · go_enter Tryd.func52, Tryd.ntmps52
    go_wp2
    go_ret3
    exact ⟨rfl, rfl⟩
  · go_enter Tryd.func52, Tryd.ntmps52
    go_wp2
    go_ret3
    exact ⟨rfl, rfl⟩
end Go.Proofs.YtjchecjonkmhgaaDoor.Cw
end
