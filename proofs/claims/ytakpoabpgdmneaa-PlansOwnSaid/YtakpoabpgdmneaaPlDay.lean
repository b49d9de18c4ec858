/- Package plans: days and prices, of the code and of the document. -/
import Derived.Test.YtakpoabpgdmneaaRows
import Derived.Test.YtakpoabpgdmneaaCkKit
namespace Go.Proofs.Ytakpoabpgdmneaa.Pl
open Go Go.RowKit Ck
abbrev TPrice : TypeId := 33
/-- A price from a day on. -/
structure Pr where
  frm : Int
  amt : Int
def Pr.cells (x : Pr) : List Value := [.int .i64 x.frm, .int .i64 x.amt]
def Pr.val (x : Pr) : Value := .agg #[.int .i64 x.frm, .int .i64 x.amt]
def dayB (d : Int) : Bool := decide (1 ≤ d) && decide (d ≤ 3652059)
def Pr.okB (x : Pr) : Bool := dayB x.frm && decide (0 ≤ x.amt) && decide (x.amt < 4611686018427387904)
set_option maxRecDepth 100000 in
theorem day_c (d : Int) (w : World) : Calls Try.prog 33 #[.int .i64 d] w fun e w' => e = .returned (.bool (dayB d)) ∧ w = w' := by
  obtain ⟨r, hr⟩ : ∃ r, r = dayB d := ⟨_, rfl⟩
  rw [← hr]
  unfold dayB at hr
  by_cases h1 : 1 ≤ d
  · by_cases h2 : d ≤ 3652059
    · have e : r = true := by rw [hr]; simp [h1, h2]
      subst e
      clear hr
      go_enter Try.func33, Try.ntmps33
      go_wp2_with fail
      go_ret
      exact ⟨rfl, rfl⟩
    · have e : r = false := by rw [hr]; simp [h2]
      subst e
      clear hr
      go_enter Try.func33, Try.ntmps33
      go_wp2_with fail
      go_ret
      exact ⟨rfl, rfl⟩
  · have e : r = false := by rw [hr]; simp [h1]
    subst e
    clear hr
    go_enter Try.func33, Try.ntmps33
    go_wp2_with fail
    go_ret
    exact ⟨rfl, rfl⟩
set_option maxRecDepth 100000 in
theorem rday_c (d : Int) (w : World) : Calls Try.prog 32 #[.int .i64 d] w fun e w' => e = .returned (.bool (dayB d)) ∧ w = w' := by
  obtain ⟨r, hr⟩ : ∃ r, r = dayB d := ⟨_, rfl⟩
  rw [← hr]
  unfold dayB at hr
  by_cases h1 : 1 ≤ d
  · by_cases h2 : d ≤ 3652059
    · have e : r = true := by rw [hr]; simp [h1, h2]
      subst e
      clear hr
      go_enter Try.func32, Try.ntmps32
      go_wp2_with fail
      go_ret
      exact ⟨rfl, rfl⟩
    · have e : r = false := by rw [hr]; simp [h2]
      subst e
      clear hr
      go_enter Try.func32, Try.ntmps32
      go_wp2_with fail
      go_ret
      exact ⟨rfl, rfl⟩
  · have e : r = false := by rw [hr]; simp [h1]
    subst e
    clear hr
    go_enter Try.func32, Try.ntmps32
    go_wp2_with fail
    go_ret
    exact ⟨rfl, rfl⟩
set_option maxRecDepth 100000 in
theorem price_c (x : Pr) (w : World) : Calls Try.prog 30 #[x.val] w fun e w' => e = .returned (.bool x.okB) ∧ Below w.heap.size w w' := by
  obtain ⟨fr, am⟩ := x
  obtain ⟨r, hr⟩ : ∃ r, r = (Pr.mk fr am).okB := ⟨_, rfl⟩
  rw [← hr]
  unfold Pr.okB at hr
  unfold Pr.val
  simp only at hr ⊢
  have HB : Hid (Below w.heap.size w (w.alloc (.cells #[.int .i64 fr, .int .i64 am] TPrice))) := (Below.refl _ w).alloc (Nat.le_refl _) _
  have KD : Hid (∀ u, Calls Try.prog 33 #[.int .i64 fr] u fun e w' => e = .returned (.bool (dayB fr)) ∧ u = w') := fun u => day_c fr u
  cases hd : dayB fr with
  | false =>
    rw [hd] at KD
    have e : r = false := by rw [hr, hd]; rfl
    subst e
    clear hr hd
    go_enter Try.func30, Try.ntmps30
    go_wp2_with fail
    refine (KD.out _).mono ?_
    rintro e w' ⟨rfl, rfl⟩
    go_wp2_with fail
    go_ret
    exact ⟨rfl, HB.out⟩
  | true =>
    rw [hd] at KD
    by_cases h1 : 0 ≤ am
    · have e : r = decide (am < 4611686018427387904) := by rw [hr, hd]; simp [h1]
      cases hlt : decide (am < 4611686018427387904) with
      | true =>
        rw [hlt] at e
        subst e
        clear hr hd
        go_enter Try.func30, Try.ntmps30
        go_wp2_with fail
        refine (KD.out _).mono ?_
        rintro e w' ⟨rfl, rfl⟩
        go_wp2_with fail
        go_ret
        exact ⟨rfl, HB.out⟩
      | false =>
        rw [hlt] at e
        subst e
        clear hr hd
        go_enter Try.func30, Try.ntmps30
        go_wp2_with fail
        refine (KD.out _).mono ?_
        rintro e w' ⟨rfl, rfl⟩
        go_wp2_with fail
        go_ret
        exact ⟨rfl, HB.out⟩
    · have e : r = false := by rw [hr, hd]; simp [h1]
      subst e
      clear hr hd
      go_enter Try.func30, Try.ntmps30
      go_wp2_with fail
      refine (KD.out _).mono ?_
      rintro e w' ⟨rfl, rfl⟩
      go_wp2_with fail
      go_ret
      exact ⟨rfl, HB.out⟩
set_option maxRecDepth 100000 in
theorem may_c (x : Pr) (w : World) : Calls Try.prog 28 #[x.val] w fun e w' => e = .returned (.bool x.okB) ∧ Below w.heap.size w w' := by
  obtain ⟨fr, am⟩ := x
  obtain ⟨r, hr⟩ : ∃ r, r = (Pr.mk fr am).okB := ⟨_, rfl⟩
  rw [← hr]
  unfold Pr.okB at hr
  unfold Pr.val
  simp only at hr ⊢
  have HB : Hid (Below w.heap.size w (w.alloc (.cells #[.int .i64 fr, .int .i64 am] TPrice))) := (Below.refl _ w).alloc (Nat.le_refl _) _
  have KD : Hid (∀ u, Calls Try.prog 32 #[.int .i64 fr] u fun e w' => e = .returned (.bool (dayB fr)) ∧ u = w') := fun u => rday_c fr u
  cases hd : dayB fr with
  | false =>
    rw [hd] at KD
    have e : r = false := by rw [hr, hd]; rfl
    subst e
    clear hr hd
    go_enter Try.func28, Try.ntmps28
    go_wp2_with fail
    refine (KD.out _).mono ?_
    rintro e w' ⟨rfl, rfl⟩
    go_wp2_with fail
    go_ret
    exact ⟨rfl, HB.out⟩
  | true =>
    rw [hd] at KD
    by_cases h1 : 0 ≤ am
    · have e : r = decide (am < 4611686018427387904) := by rw [hr, hd]; simp [h1]
      cases hlt : decide (am < 4611686018427387904) with
      | true =>
        rw [hlt] at e
        subst e
        clear hr hd
        go_enter Try.func28, Try.ntmps28
        go_wp2_with fail
        refine (KD.out _).mono ?_
        rintro e w' ⟨rfl, rfl⟩
        go_wp2_with fail
        go_ret
        exact ⟨rfl, HB.out⟩
      | false =>
        rw [hlt] at e
        subst e
        clear hr hd
        go_enter Try.func28, Try.ntmps28
        go_wp2_with fail
        refine (KD.out _).mono ?_
        rintro e w' ⟨rfl, rfl⟩
        go_wp2_with fail
        go_ret
        exact ⟨rfl, HB.out⟩
    · have e : r = false := by rw [hr, hd]; simp [h1]
      subst e
      clear hr hd
      go_enter Try.func28, Try.ntmps28
      go_wp2_with fail
      refine (KD.out _).mono ?_
      rintro e w' ⟨rfl, rfl⟩
      go_wp2_with fail
      go_ret
      exact ⟨rfl, HB.out⟩
end Go.Proofs.Ytakpoabpgdmneaa.Pl
