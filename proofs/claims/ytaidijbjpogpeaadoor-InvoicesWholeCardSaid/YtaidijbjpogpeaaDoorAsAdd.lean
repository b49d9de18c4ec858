/- Package arith's Add, and Sum of two, three and four numbers. -/
import Derived.Test.YtaidijbjpogpeaaDoorAsSum
namespace Go.Proofs.YtaidijbjpogpeaaDoor
open Go.RowKit

theorem sum2 (a b : Int) (w : World) (ha : I64 a) (hb : I64 b) :
    Calls Tryd.prog 24 #[.slice (some ⟨w.heap.size, 0, none⟩) 2 2] (w.alloc (.cells #[.int .i64 a, .int .i64 b] 2)) (Told (a + b) (w.alloc (.cells #[.int .i64 a, .int .i64 b] 2))) := by
  have h := sum_c w.heap.size 0 2 2 [a, b] (w.alloc (.cells #[.int .i64 a, .int .i64 b] 2)) (by simp) (by simp) (by omega) (by intro x hx; simp at hx; rcases hx with rfl | rfl <;> assumption)
    (by intro j hj; have : j = 0 ∨ j = 1 := by simp at hj; omega
        rcases this with rfl | rfl <;> simp [go_sem])
  rwa [show ([a, b].take 2).sum = a + b by simp; try omega] at h
theorem sum3 (a b c : Int) (w : World) (ha : I64 a) (hb : I64 b) (hc : I64 c) :
    Calls Tryd.prog 24 #[.slice (some ⟨w.heap.size, 0, none⟩) 3 3] (w.alloc (.cells #[.int .i64 a, .int .i64 b, .int .i64 c] 2)) (Told (a + b + c) (w.alloc (.cells #[.int .i64 a, .int .i64 b, .int .i64 c] 2))) := by
  have h := sum_c w.heap.size 0 3 3 [a, b, c] (w.alloc (.cells #[.int .i64 a, .int .i64 b, .int .i64 c] 2)) (by simp) (by simp) (by omega) (by intro x hx; simp at hx; rcases hx with rfl | rfl | rfl <;> assumption)
    (by intro j hj; have : j = 0 ∨ j = 1 ∨ j = 2 := by simp at hj; omega
        rcases this with rfl | rfl | rfl <;> simp [go_sem])
  rwa [show ([a, b, c].take 3).sum = a + b + c by simp; try omega] at h
theorem sum4 (a b c d : Int) (w : World) (ha : I64 a) (hb : I64 b) (hc : I64 c) (hd : I64 d) :
    Calls Tryd.prog 24 #[.slice (some ⟨w.heap.size, 0, none⟩) 4 4] (w.alloc (.cells #[.int .i64 a, .int .i64 b, .int .i64 c, .int .i64 d] 2)) (Told (a + b + c + d) (w.alloc (.cells #[.int .i64 a, .int .i64 b, .int .i64 c, .int .i64 d] 2))) := by
  have h := sum_c w.heap.size 0 4 4 [a, b, c, d] (w.alloc (.cells #[.int .i64 a, .int .i64 b, .int .i64 c, .int .i64 d] 2)) (by simp) (by simp) (by omega) (by intro x hx; simp at hx; rcases hx with rfl | rfl | rfl | rfl <;> assumption)
    (by intro j hj; have : j = 0 ∨ j = 1 ∨ j = 2 ∨ j = 3 := by simp at hj; omega
        rcases this with rfl | rfl | rfl | rfl <;> simp [go_sem])
  rwa [show ([a, b, c, d].take 4).sum = a + b + c + d by simp; try omega] at h

set_option maxRecDepth 100000 in
set_option maxHeartbeats 800000 in
theorem add_c (a b : Int) (w : World) (ha : I64 a) (hb : I64 b) : Calls Tryd.prog 33 #[.int .i64 a, .int .i64 b] w (Told (a + b) w) := by
  go_enter Tryd.func33, Tryd.ntmps33
  go_wp2_with fail
  refine (sum2 a b w ha hb).mono ?_
  rintro e w1 ⟨rfl, hb1⟩
  go_wp2_with fail
  go_ret2
  exact ⟨rfl, ((Below.refl _ _).alloc (Nat.le_refl _) _).trans (hb1.mono (by simp))⟩
end Go.Proofs.YtaidijbjpogpeaaDoor
