/- The contracts of package arith's signs, and of the function that it gives. -/
import Derived.Test.YtaidijbjpogpeaaDoorAsWalks
namespace Go.Proofs.YtaidijbjpogpeaaDoor
open Go.RowKit

theorem makeF : ∀ (fn : Fn) (first cap : Array Value) (w : World), (Instr.makeFunc fn first cap).run Tryd.prog w = .ok (.func fn first cap) w := fun _ _ _ _ => rfl

/-- What 'signs' answers: the sign, and the function that gives it; the sign lies in a new block. -/
def SignRes (neg : Bool) (w : World) (e : Ending) (w' : World) : Prop :=
  e = .returned (.tuple #[.bool neg, .func (.func 40) #[] #[.pointer (some ⟨w.heap.size, 0, none⟩)]]) ∧ Below w.heap.size w w' ∧ w'.cell? ⟨w.heap.size, 0, none⟩ = some (.bool neg) ∧ w.heap.size < w'.heap.size

set_option maxHeartbeats 400000 in
theorem signs2_nn (a b : Int) (x : Nat) (w : World) (hx : x < w.heap.size) (_h0 : w.cell? ⟨x, 0, none⟩ = some (.int .i64 a)) (_h1 : w.cell? ⟨x, 1, none⟩ = some (.int .i64 b)) (_ha : a < 0) (_hb : b < 0) :
    Calls Tryd.prog 38 #[.slice (some ⟨x, 0, none⟩) 2 2] w (SignRes false w) := by
  have hmf := makeF
  go_enter Tryd.func38, Tryd.ntmps38
  go_wp2
  refine wp_loop_rounds 3 ?_
  rw [rounds_succ]
  go_wp2
  rw [rounds_succ]
  go_wp2
  rw [rounds_succ]
  go_wp2
  exact bodyPost_ret (v := .tuple #[.bool false, .func (.func 40) #[] #[.pointer (some ⟨w.heap.size, 0, none⟩)]]) (by simp [results, Tryd.results38, go_sem]) rfl ⟨rfl, (Below.refl _ _).alloc (Nat.le_refl _) _, by simp [go_sem], by simp⟩
set_option maxHeartbeats 400000 in
theorem signs2_np (a b : Int) (x : Nat) (w : World) (hx : x < w.heap.size) (_h0 : w.cell? ⟨x, 0, none⟩ = some (.int .i64 a)) (_h1 : w.cell? ⟨x, 1, none⟩ = some (.int .i64 b)) (_ha : a < 0) (_hb : 0 ≤ b) :
    Calls Tryd.prog 38 #[.slice (some ⟨x, 0, none⟩) 2 2] w (SignRes true w) := by
  have hmf := makeF
  go_enter Tryd.func38, Tryd.ntmps38
  go_wp2
  refine wp_loop_rounds 3 ?_
  rw [rounds_succ]
  go_wp2
  rw [rounds_succ]
  go_wp2
  rw [rounds_succ]
  go_wp2
  exact bodyPost_ret (v := .tuple #[.bool true, .func (.func 40) #[] #[.pointer (some ⟨w.heap.size, 0, none⟩)]]) (by simp [results, Tryd.results38, go_sem]) rfl ⟨rfl, (Below.refl _ _).alloc (Nat.le_refl _) _, by simp [go_sem], by simp⟩
set_option maxHeartbeats 400000 in
theorem signs2_pn (a b : Int) (x : Nat) (w : World) (hx : x < w.heap.size) (_h0 : w.cell? ⟨x, 0, none⟩ = some (.int .i64 a)) (_h1 : w.cell? ⟨x, 1, none⟩ = some (.int .i64 b)) (_ha : 0 ≤ a) (_hb : b < 0) :
    Calls Tryd.prog 38 #[.slice (some ⟨x, 0, none⟩) 2 2] w (SignRes true w) := by
  have hmf := makeF
  go_enter Tryd.func38, Tryd.ntmps38
  go_wp2
  refine wp_loop_rounds 3 ?_
  rw [rounds_succ]
  go_wp2
  rw [rounds_succ]
  go_wp2
  rw [rounds_succ]
  go_wp2
  exact bodyPost_ret (v := .tuple #[.bool true, .func (.func 40) #[] #[.pointer (some ⟨w.heap.size, 0, none⟩)]]) (by simp [results, Tryd.results38, go_sem]) rfl ⟨rfl, (Below.refl _ _).alloc (Nat.le_refl _) _, by simp [go_sem], by simp⟩
set_option maxHeartbeats 400000 in
theorem signs2_pp (a b : Int) (x : Nat) (w : World) (hx : x < w.heap.size) (_h0 : w.cell? ⟨x, 0, none⟩ = some (.int .i64 a)) (_h1 : w.cell? ⟨x, 1, none⟩ = some (.int .i64 b)) (_ha : 0 ≤ a) (_hb : 0 ≤ b) :
    Calls Tryd.prog 38 #[.slice (some ⟨x, 0, none⟩) 2 2] w (SignRes false w) := by
  have hmf := makeF
  go_enter Tryd.func38, Tryd.ntmps38
  go_wp2
  refine wp_loop_rounds 3 ?_
  rw [rounds_succ]
  go_wp2
  rw [rounds_succ]
  go_wp2
  rw [rounds_succ]
  go_wp2
  exact bodyPost_ret (v := .tuple #[.bool false, .func (.func 40) #[] #[.pointer (some ⟨w.heap.size, 0, none⟩)]]) (by simp [results, Tryd.results38, go_sem]) rfl ⟨rfl, (Below.refl _ _).alloc (Nat.le_refl _) _, by simp [go_sem], by simp⟩
set_option maxHeartbeats 400000 in
theorem signs1_n (a : Int) (x : Nat) (w : World) (hx : x < w.heap.size) (_h0 : w.cell? ⟨x, 0, none⟩ = some (.int .i64 a)) (_ha : a < 0) :
    Calls Tryd.prog 38 #[.slice (some ⟨x, 0, none⟩) 1 1] w (SignRes true w) := by
  have hmf := makeF
  go_enter Tryd.func38, Tryd.ntmps38
  go_wp2
  refine wp_loop_rounds 2 ?_
  rw [rounds_succ]
  go_wp2
  rw [rounds_succ]
  go_wp2
  exact bodyPost_ret (v := .tuple #[.bool true, .func (.func 40) #[] #[.pointer (some ⟨w.heap.size, 0, none⟩)]]) (by simp [results, Tryd.results38, go_sem]) rfl ⟨rfl, (Below.refl _ _).alloc (Nat.le_refl _) _, by simp [go_sem], by simp⟩
set_option maxHeartbeats 400000 in
theorem signs1_p (a : Int) (x : Nat) (w : World) (hx : x < w.heap.size) (_h0 : w.cell? ⟨x, 0, none⟩ = some (.int .i64 a)) (_ha : 0 ≤ a) :
    Calls Tryd.prog 38 #[.slice (some ⟨x, 0, none⟩) 1 1] w (SignRes false w) := by
  have hmf := makeF
  go_enter Tryd.func38, Tryd.ntmps38
  go_wp2
  refine wp_loop_rounds 2 ?_
  rw [rounds_succ]
  go_wp2
  rw [rounds_succ]
  go_wp2
  exact bodyPost_ret (v := .tuple #[.bool false, .func (.func 40) #[] #[.pointer (some ⟨w.heap.size, 0, none⟩)]]) (by simp [results, Tryd.results38, go_sem]) rfl ⟨rfl, (Below.refl _ _).alloc (Nat.le_refl _) _, by simp [go_sem], by simp⟩

/-- The sign of a product. -/
def sgn2 (a b : Int) : Bool := xor (decide (a < 0)) (decide (b < 0))
theorem signs2_c (a b : Int) (x : Nat) (w : World) (hx : x < w.heap.size) (h0 : w.cell? ⟨x, 0, none⟩ = some (.int .i64 a)) (h1 : w.cell? ⟨x, 1, none⟩ = some (.int .i64 b)) :
    Calls Tryd.prog 38 #[.slice (some ⟨x, 0, none⟩) 2 2] w (SignRes (sgn2 a b) w) := by
  by_cases ha : a < 0
  · by_cases hb : b < 0
    · rw [show sgn2 a b = false by simp [sgn2, ha, hb]]; exact signs2_nn a b x w hx h0 h1 ha hb
    · rw [show sgn2 a b = true by simp [sgn2, ha, hb]]; exact signs2_np a b x w hx h0 h1 ha (by omega)
  · by_cases hb : b < 0
    · rw [show sgn2 a b = true by simp [sgn2, ha, hb]]; exact signs2_pn a b x w hx h0 h1 (by omega) hb
    · rw [show sgn2 a b = false by simp [sgn2, ha, hb]]; exact signs2_pp a b x w hx h0 h1 (by omega) (by omega)

set_option maxHeartbeats 400000 in
theorem give_c (neg : Bool) (h l : Int) (p : Nat) (w : World) (hp : p < w.heap.size) (hc : w.cell? ⟨p, 0, none⟩ = some (.bool neg)) (h0 : 0 ≤ h) (h1 : h < 18446744073709551616) (l0 : 0 ≤ l) (l1 : l < 18446744073709551616) :
    Calls Tryd.prog 40 #[.agg #[.int .u64 h, .int .u64 l], .pointer (some ⟨p, 0, none⟩)] w fun e w' =>
      e = .returned (.tuple #[.int .i64 (Ar.val (Ar.sg neg (h * 18446744073709551616 + l))), .bool (Ar.ok (Ar.sg neg (h * 18446744073709551616 + l)))]) ∧ Below w.heap.size w w' := by
  by_cases c1 : 0 < h
  · have HV := Lib.hid (show Ar.ok (Ar.sg neg (h * 18446744073709551616 + l)) = false by unfold Ar.ok Ar.Fits Ar.sg; split <;> (simp; omega))
    have HV2 := Lib.hid (show Ar.val (Ar.sg neg (h * 18446744073709551616 + l)) = 0 by unfold Ar.val; rw [if_neg]; unfold Ar.Fits Ar.sg; split <;> omega)
    cases neg
    · go_enter Tryd.func40, Tryd.ntmps40
      go_wp2
      go_ret2
      exact ⟨ret_ib HV2.out.symm HV.out.symm, (Below.refl _ _).alloc (Nat.le_refl _) _⟩
    · go_enter Tryd.func40, Tryd.ntmps40
      go_wp2
      go_ret2
      exact ⟨ret_ib HV2.out.symm HV.out.symm, (Below.refl _ _).alloc (Nat.le_refl _) _⟩
  · obtain rfl : h = 0 := by omega
    cases neg
    · by_cases c2 : 9223372036854775807 < l
      · have HV := Lib.hid (show Ar.ok (Ar.sg false l) = false by simp [Ar.ok, Ar.Fits, Ar.sg]; omega)
        have HV2 := Lib.hid (show Ar.val (Ar.sg false l) = 0 by simp [Ar.val, Ar.Fits, Ar.sg]; omega)
        go_enter Tryd.func40, Tryd.ntmps40
        go_wp2
        go_ret2
        exact ⟨ret_ib HV2.out.symm HV.out.symm, (Below.refl _ _).alloc (Nat.le_refl _) _⟩
      · have HV := Lib.hid (show Ar.ok (Ar.sg false l) = true by simp [Ar.ok, Ar.Fits, Ar.sg]; omega)
        have HV2 := Lib.hid (show Ar.val (Ar.sg false l) = l by simp [Ar.val, Ar.Fits, Ar.sg]; omega)
        go_enter Tryd.func40, Tryd.ntmps40
        go_wp2
        go_ret2
        exact ⟨ret_ib HV2.out.symm HV.out.symm, (Below.refl _ _).alloc (Nat.le_refl _) _⟩
    · by_cases c2 : 9223372036854775808 < l
      · have HV := Lib.hid (show Ar.ok (Ar.sg true l) = false by simp [Ar.ok, Ar.Fits, Ar.sg]; omega)
        have HV2 := Lib.hid (show Ar.val (Ar.sg true l) = 0 by simp [Ar.val, Ar.Fits, Ar.sg]; omega)
        go_enter Tryd.func40, Tryd.ntmps40
        go_wp2
        go_ret2
        exact ⟨ret_ib HV2.out.symm HV.out.symm, (Below.refl _ _).alloc (Nat.le_refl _) _⟩
      · have HV := Lib.hid (show Ar.ok (Ar.sg true l) = true by simp [Ar.ok, Ar.Fits, Ar.sg]; omega)
        have HV2 := Lib.hid (show Ar.val (Ar.sg true l) = -l by simp [Ar.val, Ar.Fits, Ar.sg]; omega)
        go_enter Tryd.func40, Tryd.ntmps40
        go_wp2
        go_ret2
        exact ⟨ret_ib (by rw [HV2.out]; unfold wrap64; omega) HV.out.symm, (Below.refl _ _).alloc (Nat.le_refl _) _⟩
end Go.Proofs.YtaidijbjpogpeaaDoor
