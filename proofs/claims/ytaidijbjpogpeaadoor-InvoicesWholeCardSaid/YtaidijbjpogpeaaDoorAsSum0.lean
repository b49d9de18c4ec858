/- arith.Sum of nothing. (Out of XArSumLaw.) -/
import Derived.Test.YtaidijbjpogpeaaDoorAsSum
namespace Go.Proofs.YtaidijbjpogpeaaDoor
open Go.RowKit
set_option maxHeartbeats 800000 in
theorem sum_0 (a : Option Addr) (cap : Nat) (w : World) : Calls Tryd.prog 24 #[.slice a 0 cap] w fun e w' => e = .returned (.tuple #[.int .i64 0, .bool true]) ∧ Below w.heap.size w w' := by
  have HS := Lib.hid (show Two w.heap.size 0 0 ((w.alloc (.cells #[.int .u64 0, .int .u64 0] 69)).alloc (.cells #[.int .u64 0, .int .u64 0] 69)) by constructor <;> simp [go_sem])
  have hmf := makeF
  go_enter Tryd.func24, Tryd.ntmps24
  go_wp2
  refine wp_loop_rounds 1 ?_
  rw [rounds_succ]
  go_wp2_with fail
  refine (below_c 0 0 0 0 _ false (by omega) (by omega) (by omega) (by omega) (by decide)).mono ?_
  rintro e w1 ⟨rfl, b1⟩
  have z1 := b1.size
  simp at z1
  have B1 : Below w.heap.size w w1 := (((Below.refl _ _).alloc (Nat.le_refl _) _).alloc (by simp) _).trans (b1.mono (by simp; omega))
  have T1 := HS.out.later b1
  have c0 : w1.cell? ⟨w.heap.size, 0, none⟩ = some (.int .u64 0) := T1.u0
  have c1 : w1.cell? ⟨w.heap.size, 1, none⟩ = some (.int .u64 0) := T1.u1
  have c2 : w1.cell? ⟨w.heap.size + 1, 0, none⟩ = some (.int .u64 0) := T1.d0
  have c3 : w1.cell? ⟨w.heap.size + 1, 1, none⟩ = some (.int .u64 0) := T1.d1
  clear T1 HS
  clear b1
  go_wp2_with fail
  refine (signs1_p 1 w1.heap.size _ (by simp) (by simp [go_sem]) (by omega)).mono ?_
  rintro e w2 ⟨rfl, b2, d1, d2⟩
  simp at d1 d2
  have B2 : Below w.heap.size w w2 := (B1.alloc (by omega) _).trans (b2.mono (by simp; omega))
  have e0 : w2.cell? ⟨w.heap.size, 0, none⟩ = some (.int .u64 0) := by rw [b2.cell (by simp; omega), World.cell?_alloc_past _ _ _ (by omega)]; exact c0
  have e1 : w2.cell? ⟨w.heap.size, 1, none⟩ = some (.int .u64 0) := by rw [b2.cell (by simp; omega), World.cell?_alloc_past _ _ _ (by omega)]; exact c1
  have e2 : w2.cell? ⟨w.heap.size + 1, 0, none⟩ = some (.int .u64 0) := by rw [b2.cell (by simp; omega), World.cell?_alloc_past _ _ _ (by omega)]; exact c2
  have e3 : w2.cell? ⟨w.heap.size + 1, 1, none⟩ = some (.int .u64 0) := by rw [b2.cell (by simp; omega), World.cell?_alloc_past _ _ _ (by omega)]; exact c3
  clear b2 c0 c1 c2 c3
  go_wp2_with fail
  refine (less_is 0 0 _ (by omega) (by omega) (by omega)).mono ?_
  rintro e w3 ⟨rfl, b3⟩
  have B3 := B2.trans (b3.mono B2.size)
  have d3 : w3.cell? ⟨w1.heap.size + 1, 0, none⟩ = some (.bool false) := by rw [b3.cell (by simpa using d2)]; exact d1
  have z3 := b3.size
  clear b3
  go_wp2_with fail
  refine (give_is false 0 0 (w1.heap.size + 1) _ (by omega) d3 (by omega) (by omega) rfl 0 true (by decide)).mono ?_
  rintro e w4 ⟨rfl, b4⟩
  have B4 := B3.trans (b4.mono B3.size)
  go_wp2_with fail
  go_ret2
  exact ⟨rfl, B4⟩

end Go.Proofs.YtaidijbjpogpeaaDoor
