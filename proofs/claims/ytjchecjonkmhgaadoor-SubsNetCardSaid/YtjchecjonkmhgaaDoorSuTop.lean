/- The document's example, called. -/
import Derived.Test.YtjchecjonkmhgaaDoorSuAll0
import Derived.Test.YtjchecjonkmhgaaDoorSuLit
import Derived.Test.YtjchecjonkmhgaaDoorSuChg3
import Derived.Test.YtjchecjonkmhgaaDoorSuCan1
import Derived.Deep.DeepCutAuto
namespace Go.Proofs.YtjchecjonkmhgaaDoor.Su
open Go.RowKit Pr Cw An Rf
theorem day_l (y m d v : Int) (w : World) (h : Valid y m d) (hv : Civ.U y m + d = v) : Calls Tryd.prog 34 #[.int .i64 y, .int .i64 m, .int .i64 d] w fun e w' => e = .returned (.int .i64 v) ∧ w = w' := by
  have KD := Lib.hid (fun u => Cw.rday_yes y m d u h)
  rw [hv] at KD
  go_enter Tryd.func34, Tryd.ntmps34
  go_wp2_with fail
  refine (KD.out _).mono ?_
  rintro e w1 ⟨rfl, rfl⟩
  go_wp2_with fail
  go_ret
  exact ⟨rfl, rfl⟩
theorem d0110 (w : World) : Calls Tryd.prog 34 #[.int .i64 2024, .int .i64 1, .int .i64 10] w fun e w' => e = .returned (.int .i64 738895) ∧ w = w' := day_l 2024 1 10 738895 w (by unfold Valid; decide) (by decide)
theorem d0115 (w : World) : Calls Tryd.prog 34 #[.int .i64 2024, .int .i64 1, .int .i64 15] w fun e w' => e = .returned (.int .i64 738900) ∧ w = w' := day_l 2024 1 15 738900 w (by unfold Valid; decide) (by decide)
theorem d0215 (w : World) : Calls Tryd.prog 34 #[.int .i64 2024, .int .i64 2, .int .i64 15] w fun e w' => e = .returned (.int .i64 738931) ∧ w = w' := day_l 2024 2 15 738931 w (by unfold Valid; decide) (by decide)
theorem d0220 (w : World) : Calls Tryd.prog 34 #[.int .i64 2024, .int .i64 2, .int .i64 20] w fun e w' => e = .returned (.int .i64 738936) ∧ w = w' := day_l 2024 2 20 738936 w (by unfold Valid; decide) (by decide)
theorem d0301 (w : World) : Calls Tryd.prog 34 #[.int .i64 2024, .int .i64 3, .int .i64 1] w fun e w' => e = .returned (.int .i64 738946) ∧ w = w' := day_l 2024 3 1 738946 w (by unfold Valid; decide) (by decide)
theorem d0315 (w : World) : Calls Tryd.prog 34 #[.int .i64 2024, .int .i64 3, .int .i64 15] w fun e w' => e = .returned (.int .i64 738960) ∧ w = w' := day_l 2024 3 15 738960 w (by unfold Valid; decide) (by decide)
def ex3b : List Bl := [⟨0, 738895, 738900, 500⟩, ⟨1, 738900, 738931, 3100⟩, ⟨2, 738931, 738960, 3100⟩]
def ExDue (w : World) (e : Ending) (w' : World) : Prop := ∃ ad cap, e = .returned (.tuple #[.slice ad 3 cap, .agg #[.int .u64 1, .int .u64 1, .int .u64 1, .int .i64 738895, .int .i64 15, .int .i64 1, .int .i64 3100, .int .i64 3, .int .i64 0, .int .i64 0], .int .i64 0]) ∧ Rb w' ad ex3b ∧ Below w.heap.size w w'
theorem ex_due (w : World) (hw : Tab w) : Calls Tryd.prog 9 #[.agg #[.int .u64 1, .int .u64 1, .int .u64 1, .int .i64 738895, .int .i64 15, .int .i64 1, .int .i64 3100, .int .i64 0, .int .i64 0, .int .i64 0], .int .i64 738936, .int .i64 10] w (ExDue w) :=
  (due_in ex 24277 738936 10 w hw ex_in ex_ok ⟨by decide, by decide⟩ (by decide) (by decide)).mono fun e w' hr => by
    obtain ⟨ad, cap, he, hR, hb⟩ := due_out_yes ex_many hr
    rw [ex_bills] at he hR
    exact ⟨ad, cap, he, hR, hb⟩
abbrev ex3v : Value := .agg #[.int .u64 1, .int .u64 1, .int .u64 1, .int .i64 738895, .int .i64 15, .int .i64 1, .int .i64 3100, .int .i64 3, .int .i64 0, .int .i64 0]
theorem ex_chg (w : World) (hw : Tab w) : Calls Tryd.prog 17 #[ex3v, .int .i64 738946, .agg #[.int .u64 2, .int .i64 6200]] w fun e w' => e = .returned (.tuple #[.agg #[.int .u64 1, .int .u64 1, .int .u64 2, .int .i64 738895, .int .i64 15, .int .i64 1, .int .i64 6200, .int .i64 3, .int .i64 738946, .int .i64 0], .agg #[.int .i64 738946, .int .i64 738960, .int .i64 1497, .int .i64 2994], .int .i64 0]) ∧ Below w.heap.size w w' :=
  (chg_ok ex3 24277 738946 2 6200 w hw ex_in ex3_ok ⟨by decide, by decide⟩ (by decide) (by decide) (by decide) 2 ex3_per ⟨rfl, by rw [ex3_end]; decide, by decide⟩).mono fun e w' hr => by
    obtain ⟨-, he, hb⟩ := hr
    rw [ex3_turn] at he
    exact ⟨he, hb⟩
theorem ex_can0 (w : World) (hw : Tab w) : Calls Tryd.prog 19 #[ex3v, .int .i64 738946, .bool false] w fun e w' => e = .returned (.tuple #[.agg #[.int .u64 1, .int .u64 1, .int .u64 1, .int .i64 738895, .int .i64 15, .int .i64 1, .int .i64 3100, .int .i64 3, .int .i64 0, .int .i64 738960], .agg #[.int .i64 0, .int .i64 0, .int .i64 0, .int .i64 0], .int .i64 0]) ∧ Below w.heap.size w w' :=
  (can_next ex3 24277 738946 w hw ex_in ex3_ok ⟨by decide, by decide⟩ rfl (by decide) 2 ex3_per (by decide)).mono fun e w' hr => by
    obtain ⟨he, hb⟩ := hr
    have h1 : canEnd ex3 24277 738946 false 2 = 738960 := by unfold canEnd; rw [if_neg (by simp)]; exact ex_b3
    have h2 : canTurn ex3 24277 738946 false 2 = Tn.none := by unfold canTurn; rw [if_neg (by simp)]
    rw [h1, h2] at he
    exact ⟨he, hb⟩
theorem ex_can1 (w : World) (hw : Tab w) : Calls Tryd.prog 19 #[ex3v, .int .i64 738946, .bool true] w fun e w' => e = .returned (.tuple #[.agg #[.int .u64 1, .int .u64 1, .int .u64 1, .int .i64 738895, .int .i64 15, .int .i64 1, .int .i64 3100, .int .i64 3, .int .i64 0, .int .i64 738946], .agg #[.int .i64 738946, .int .i64 738960, .int .i64 1497, .int .i64 0], .int .i64 0]) ∧ Below w.heap.size w w' :=
  (can_at1 ex3 24277 738946 w hw ex_in ex3_ok ⟨by decide, by decide⟩ rfl (by decide) (by decide) 2 ex3_per rfl).mono fun e w' hr => by
    obtain ⟨he, hb⟩ := hr
    have h1 : canEnd ex3 24277 738946 true 2 = 738946 := by unfold canEnd; rw [if_pos rfl]
    have h2 : canTurn ex3 24277 738946 true 2 = ⟨738946, 738960, 1497, 0⟩ := by
      unfold canTurn
      rw [if_pos ⟨rfl, by decide⟩, ex3_can]
      rw [show bnd ex3.c 24277 (2 + 1) = 738960 from ex_b3]
    rw [h1, h2] at he
    exact ⟨he, hb⟩
end Go.Proofs.YtjchecjonkmhgaaDoor.Su
