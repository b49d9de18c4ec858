/- Package journal: lines and days, of the code and of the document. -/
import Derived.Test.YtnblilonjpfdnaaRows
import Derived.Test.YtnblilonjpfdnaaCkKit
namespace Go.Proofs.Ytnblilonjpfdnaa.Jn
open Go Go.RowKit Ck
abbrev TLine : TypeId := 67
/-- A line of an entry. -/
structure Ln where
  acc : Int
  cus : Int
  con : Int
  amt : Int
def Ln.zero : Ln := ⟨0, 0, 0, 0⟩
def Ln.cells (x : Ln) : List Value := [.int .i64 x.acc, .int .u64 x.cus, .int .u64 x.con, .int .i64 x.amt]
def Ln.val (x : Ln) : Value := .agg #[.int .i64 x.acc, .int .u64 x.cus, .int .u64 x.con, .int .i64 x.amt]
def dayB (d : Int) : Bool := decide (1 ≤ d) && decide (d ≤ 3652059)
def fitB (n : Int) : Bool := decide (-4611686018427387904 ≤ n) && decide (n ≤ 4611686018427387904)
def Ln.okB (x : Ln) : Bool := decide (1 ≤ x.acc) && (decide (x.acc ≤ 9999) && (decide (x.amt ≠ 0) && fitB x.amt))
set_option maxRecDepth 100000 in
theorem day_c (d : Int) (w : World) : Calls Try.prog 46 #[.int .i64 d] w fun e w' => e = .returned (.bool (dayB d)) ∧ w = w' := by
  obtain ⟨r, hr⟩ : ∃ r, r = dayB d := ⟨_, rfl⟩
  rw [← hr]
  unfold dayB at hr
  by_cases h1 : 1 ≤ d
  · by_cases h2 : d ≤ 3652059
    · obtain rfl : r = true := by rw [hr]; simp [h1, h2]
      clear hr
      go_enter Try.func46, Try.ntmps46
      go_wp2_with fail
      go_ret
      exact ⟨rfl, rfl⟩
    · obtain rfl : r = false := by rw [hr]; simp [h2]
      clear hr
      go_enter Try.func46, Try.ntmps46
      go_wp2_with fail
      go_ret
      exact ⟨rfl, rfl⟩
  · obtain rfl : r = false := by rw [hr]; simp [h1]
    clear hr
    go_enter Try.func46, Try.ntmps46
    go_wp2_with fail
    go_ret
    exact ⟨rfl, rfl⟩
set_option maxRecDepth 100000 in
theorem fits_c (d : Int) (w : World) : Calls Try.prog 59 #[.int .i64 d] w fun e w' => e = .returned (.bool (fitB d)) ∧ w = w' := by
  obtain ⟨r, hr⟩ : ∃ r, r = fitB d := ⟨_, rfl⟩
  rw [← hr]
  unfold fitB at hr
  by_cases h1 : -4611686018427387904 ≤ d
  · by_cases h2 : d ≤ 4611686018427387904
    · obtain rfl : r = true := by rw [hr]; simp [h1, h2]
      clear hr
      go_enter Try.func59, Try.ntmps59
      go_wp2_with fail
      go_ret
      exact ⟨rfl, rfl⟩
    · obtain rfl : r = false := by rw [hr]; simp [h2]
      clear hr
      go_enter Try.func59, Try.ntmps59
      go_wp2_with fail
      go_ret
      exact ⟨rfl, rfl⟩
  · obtain rfl : r = false := by rw [hr]; simp [h1]
    clear hr
    go_enter Try.func59, Try.ntmps59
    go_wp2_with fail
    go_ret
    exact ⟨rfl, rfl⟩
set_option maxRecDepth 100000 in
theorem line_c (x : Ln) (w : World) : Calls Try.prog 48 #[x.val] w fun e w' => e = .returned (.bool x.okB) ∧ Below w.heap.size w w' := by
  obtain ⟨ac, cu, co, am⟩ := x
  obtain ⟨r, hr⟩ : ∃ r, r = (Ln.mk ac cu co am).okB := ⟨_, rfl⟩
  rw [← hr]
  unfold Ln.okB at hr
  unfold Ln.val
  simp only at hr ⊢
  have HB : Hid (Below w.heap.size w (w.alloc (.cells #[.int .i64 ac, .int .u64 cu, .int .u64 co, .int .i64 am] TLine))) := (Below.refl _ w).alloc (Nat.le_refl _) _
  have KF : Hid (∀ u, Calls Try.prog 59 #[.int .i64 am] u fun e w' => e = .returned (.bool (fitB am)) ∧ u = w') := fun u => fits_c am u
  obtain ⟨ft, hft⟩ : ∃ ft, ft = fitB am := ⟨_, rfl⟩
  rw [← hft] at KF hr
  clear hft
  by_cases h1 : 1 ≤ ac
  · by_cases h2 : ac ≤ 9999
    · by_cases h3 : am = 0
      · obtain rfl : r = false := by rw [hr]; simp [h3]
        subst h3
        clear hr
        go_enter Try.func48, Try.ntmps48
        go_wp2_with fail
        go_ret
        exact ⟨rfl, HB.out⟩
      · obtain rfl : r = ft := by rw [hr]; simp [h1, h2, h3]
        have h4 : (am == 0) = false := beq_eq_false_iff_ne.2 h3
        have h9 : (am != 0) = true := by simpa using h3
        clear hr h3
        go_enter Try.func48, Try.ntmps48
        go_wp2_with fail
        refine (KF.out _).mono ?_
        rintro e w' ⟨rfl, rfl⟩
        go_wp2_with fail
        go_ret
        exact ⟨rfl, HB.out⟩
    · obtain rfl : r = false := by rw [hr]; simp [h2]
      clear hr
      go_enter Try.func48, Try.ntmps48
      go_wp2_with fail
      go_ret
      exact ⟨rfl, HB.out⟩
  · obtain rfl : r = false := by rw [hr]; simp [h1]
    clear hr
    go_enter Try.func48, Try.ntmps48
    go_wp2_with fail
    go_ret
    exact ⟨rfl, HB.out⟩
set_option maxRecDepth 100000 in
theorem may_c (x : Ln) (w : World) : Calls Try.prog 50 #[x.val] w fun e w' => e = .returned (.bool x.okB) ∧ Below w.heap.size w w' := by
  obtain ⟨ac, cu, co, am⟩ := x
  obtain ⟨r, hr⟩ : ∃ r, r = (Ln.mk ac cu co am).okB := ⟨_, rfl⟩
  rw [← hr]
  unfold Ln.okB fitB at hr
  unfold Ln.val
  simp only at hr ⊢
  have HB : Hid (Below w.heap.size w (w.alloc (.cells #[.int .i64 ac, .int .u64 cu, .int .u64 co, .int .i64 am] TLine))) := (Below.refl _ w).alloc (Nat.le_refl _) _
  by_cases h1 : 1 ≤ ac
  · by_cases h2 : ac ≤ 9999
    · by_cases h3 : am = 0
      · obtain rfl : r = false := by rw [hr]; simp [h3]
        subst h3
        clear hr
        go_enter Try.func50, Try.ntmps50
        go_wp2_with fail
        go_ret
        exact ⟨rfl, HB.out⟩
      · have h4 : (am == 0) = false := beq_eq_false_iff_ne.2 h3
        have h9 : (am != 0) = true := by simpa using h3
        by_cases h5 : -4611686018427387904 ≤ am
        · by_cases h6 : am ≤ 4611686018427387904
          · obtain rfl : r = true := by rw [hr]; simp [h1, h2, h3, h5, h6]
            clear hr h3
            go_enter Try.func50, Try.ntmps50
            go_wp2_with fail
            go_ret
            exact ⟨rfl, HB.out⟩
          · obtain rfl : r = false := by rw [hr]; simp [h6]
            clear hr h3
            go_enter Try.func50, Try.ntmps50
            go_wp2_with fail
            go_ret
            exact ⟨rfl, HB.out⟩
        · obtain rfl : r = false := by rw [hr]; simp [h5]
          clear hr h3
          go_enter Try.func50, Try.ntmps50
          go_wp2_with fail
          go_ret
          exact ⟨rfl, HB.out⟩
    · obtain rfl : r = false := by rw [hr]; simp [h2]
      clear hr
      go_enter Try.func50, Try.ntmps50
      go_wp2_with fail
      go_ret
      exact ⟨rfl, HB.out⟩
  · obtain rfl : r = false := by rw [hr]; simp [h1]
    clear hr
    go_enter Try.func50, Try.ntmps50
    go_wp2_with fail
    go_ret
    exact ⟨rfl, HB.out⟩
end Go.Proofs.Ytnblilonjpfdnaa.Jn
