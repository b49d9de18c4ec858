/- Package invoices: how late, and how old; the document's. -/
import Derived.Test.YtaidijbjpogpeaaDoorInRef
import Derived.Test.YtaidijbjpogpeaaDoorInMath
namespace Go.Proofs.YtaidijbjpogpeaaDoor.Inv
open Go.RowKit
theorem ret_3i {i j k : IntKind} {a b c d x y : Int} (h : a = b) (h' : c = d) (h'' : x = y) : Ending.returned (.tuple #[.int i a, .int j c, .int k x]) = .returned (.tuple #[.int i b, .int j d, .int k y]) := by rw [h, h', h'']
theorem isDay_k (d : Int) (b : Bool) (w : World) (h : decide (1 ≤ d ∧ d ≤ 3652059) = b) :
    Calls Tryd.prog 32 #[.int .i64 d] w fun e w' => e = .returned (.bool b) ∧ w = w' := by
  subst h; exact isDay_c d w
/-- The table of the ages' bounds. -/
def Tab (w : World) : Prop := w.cell? ⟨0, 0, none⟩ = some (.int .i64 0) ∧ w.cell? ⟨0, 1, none⟩ = some (.int .i64 30) ∧ w.cell? ⟨0, 2, none⟩ = some (.int .i64 60) ∧ w.cell? ⟨0, 3, none⟩ = some (.int .i64 90) ∧ 0 < w.heap.size
theorem Tab.later {w w' : World} (h : Tab w) (hb : Below w.heap.size w w') : Tab w' := by
  obtain ⟨h0, h1, h2, h3, h4⟩ := h
  have := hb.size
  exact ⟨by rw [hb.cell h4]; exact h0, by rw [hb.cell h4]; exact h1, by rw [hb.cell h4]; exact h2, by rw [hb.cell h4]; exact h3, by omega⟩
/-- How many days late. -/
def Iv.late (x : Iv) (day : Int) : Int := if day ≤ x.due then 0 else day - x.due
theorem late_max (x : Iv) (day : Int) : max (day - x.due) 0 = x.late day := by unfold Iv.late; split <;> omega
set_option maxRecDepth 100000 in
set_option maxHeartbeats 1600000 in
theorem late_yes (x : Iv) (day : Int) (w : World) (hx : x.Fits) (hk : x.Ok) (h1 : 1 ≤ day) (h2 : day ≤ 3652059) (ht : Tab w) :
    Calls Tryd.prog 20 #[x.val, .int .i64 day] w fun e w' => e = .returned (.tuple #[.int .i64 (x.late day), .int .i64 (ageOf (x.late day)), .int .i64 0]) ∧ Below w.heap.size w w' := by
  have kc := Lib.hid (fun w => check_yes x w hx ((okB_iff x).2 hk))
  have kd := Lib.hid (fun w => isDay_k day true w (by simp; omega))
  have q1 : -9223372036854775808 ≤ day - x.due := by have := hk.due; omega
  have q2 : day - x.due ≤ 9223372036854775807 := by have := hk.due; omega
  have HB := Lib.hid (IvAt.box x w)
  have B0 := Lib.hid ((Below.refl _ w).alloc (Nat.le_refl _) (.cells x.cells 24))
  have HT := Lib.hid ht
  have HG : ∀ m r, m = x.late day → r = ageOf (x.late day) → Ending.returned (.tuple #[.int .i64 m, .int .i64 r, .int .i64 0]) = .returned (.tuple #[.int .i64 (x.late day), .int .i64 (ageOf (x.late day)), .int .i64 0]) := fun m r h h' => by rw [h, h']
  have HF := Lib.hid HG
  clear hx hk h1 h2 ht HG
  obtain ⟨a0, a1, a2, a3, a4, a5, a6, a7, a8, a9, a10, alt⟩ := HB.out
  go_enter Tryd.func20, Tryd.ntmps20
  unfold Iv.val
  go_wp2_with fail
  refine (kc.out _).mono ?_
  rintro e w1 ⟨rfl, b1⟩
  have X1 := Lib.hid (HB.out.later b1)
  have D1 := Lib.hid (then_below B0.out b1)
  have T1 := Lib.hid (HT.out.later D1.out)
  clear b1 a0 a1 a2 a3 a4 a5 a6 a7 a8 a9 a10 alt
  obtain ⟨c0, c1, c2, c3, c4, c5, c6, c7, c8, c9, c10, clt⟩ := X1.out
  obtain ⟨t0, t1, t2, t3, t4⟩ := T1.out
  go_wp2_with fail
  refine (kd.out _).mono ?_
  rintro e w1 ⟨rfl, rfl⟩
  go_wp2_with fail
  all_goals go_rounds 6
  all_goals
    go_ret3
    exact ⟨HF.out _ _ (by unfold Iv.late; split <;> omega) (by unfold Iv.late ageOf; (repeat' split) <;> omega), D1.out⟩
end Go.Proofs.YtaidijbjpogpeaaDoor.Inv
