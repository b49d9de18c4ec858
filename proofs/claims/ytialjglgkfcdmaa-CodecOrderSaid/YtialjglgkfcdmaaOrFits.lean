/- Package quittanceref12: fits; package order: only. -/
import Derived.Test.YtialjglgkfcdmaaOrKinds
import Derived.Below
namespace Go.Proofs.Ytialjglgkfcdmaa.Or
open Go.RowKit
/-- A field. -/
structure Fd where
  n : Int
  i : Int
  s : ByteArray
def Fd.val (f : Fd) : Value := .agg #[.int .u64 f.n, .int .i64 f.i, .string f.s]
def Fd.only (c : UInt8) (f : Fd) : Fd := if c.toNat = 110 then ⟨f.n, 0, ⟨#[]⟩⟩ else if c.toNat = 105 then ⟨0, f.i, ⟨#[]⟩⟩ else ⟨0, 0, f.s⟩
theorem below2 (w : World) (o o' : Obj) : Below w.heap.size w ((w.alloc o).alloc o') := ((Below.refl _ w).alloc (Nat.le_refl _) _).alloc (by simp) _
set_option maxHeartbeats 800000 in
theorem only_c (c : UInt8) (f : Fd) (w : World) : Calls Try.prog 71 #[.int .u8 (c.toNat : Int), f.val] w fun e w' => e = .returned (f.only c).val ∧ Below w.heap.size w w' := by
  unfold Fd.val
  have hcs : c.toNat = 110 ∨ (c.toNat ≠ 110 ∧ c.toNat = 105) ∨ (c.toNat ≠ 110 ∧ c.toNat ≠ 105) := by omega
  rcases hcs with h | ⟨h, h2⟩ | ⟨h, h2⟩
  · have HO := Lib.hid (show f.only c = ⟨f.n, 0, ⟨#[]⟩⟩ by unfold Fd.only; rw [if_pos h])
    have d1 : ((c.toNat : Int) == 110) = true := beq_iff_eq.2 (by omega)
    clear h
    go_enter Try.func71, Try.ntmps71
    go_wp2_with fail
    refine bodyPost_ret (v := .agg #[.int .u64 f.n, .int .i64 0, .string ⟨#[]⟩]) (by simp [results, Try.results71, go_sem]) rfl ⟨by rw [HO.out], below2 _ _ _⟩
  · have HO := Lib.hid (show f.only c = ⟨0, f.i, ⟨#[]⟩⟩ by unfold Fd.only; rw [if_neg h, if_pos h2])
    have d1 : ((c.toNat : Int) == 110) = false := beq_eq_false_iff_ne.2 (by omega)
    have d2 : ((c.toNat : Int) == 105) = true := beq_iff_eq.2 (by omega)
    clear h h2
    go_enter Try.func71, Try.ntmps71
    go_wp2_with fail
    refine bodyPost_ret (v := .agg #[.int .u64 0, .int .i64 f.i, .string ⟨#[]⟩]) (by simp [results, Try.results71, go_sem]) rfl ⟨by rw [HO.out], below2 _ _ _⟩
  · have HO := Lib.hid (show f.only c = ⟨0, 0, f.s⟩ by unfold Fd.only; rw [if_neg h, if_neg h2])
    have d1 : ((c.toNat : Int) == 110) = false := beq_eq_false_iff_ne.2 (by omega)
    have d2 : ((c.toNat : Int) == 105) = false := beq_eq_false_iff_ne.2 (by omega)
    clear h h2
    go_enter Try.func71, Try.ntmps71
    go_wp2_with fail
    refine bodyPost_ret (v := .agg #[.int .u64 0, .int .i64 0, .string f.s]) (by simp [results, Try.results71, go_sem]) rfl ⟨by rw [HO.out], below2 _ _ _⟩
def fitsB (c : UInt8) (f : Fd) : Bool := if c.toNat = 110 then decide (f.i = 0) && decide (f.s.size = 0) else if c.toNat = 105 then decide (f.n = 0) && decide (f.s.size = 0) else decide (f.n = 0) && decide (f.i = 0)
theorem size_zero (s : ByteArray) : (s.size = 0 ∧ s.toList.isEmpty = true) ∨ (s.size ≠ 0 ∧ s.toList.isEmpty = false) := by
  rw [ByteArray.toList_eq]
  have e : s.data.toList.length = s.size := by simp
  cases h : s.data.toList with
  | nil => left; rw [h] at e; exact ⟨e.symm, rfl⟩
  | cons x t => right; rw [h] at e; simp at e; exact ⟨by omega, rfl⟩
set_option maxHeartbeats 800000 in
theorem fits_c (c : UInt8) (f : Fd) (w : World) : Calls Try.prog 56 #[.int .u8 (c.toNat : Int), f.val] w fun e w' => e = .returned (.bool (fitsB c f)) ∧ Below w.heap.size w w' := by
  unfold Fd.val
  have hcs : c.toNat = 110 ∨ (c.toNat ≠ 110 ∧ c.toNat = 105) ∨ (c.toNat ≠ 110 ∧ c.toNat ≠ 105) := by omega
  rcases hcs with h | ⟨h, h2⟩ | ⟨h, h2⟩
  · have d1 : ((c.toNat : Int) == 110) = true := beq_iff_eq.2 (by omega)
    by_cases z1 : f.i = 0
    · have y1 : (f.i == 0) = true := beq_iff_eq.2 z1
      rcases size_zero f.s with ⟨e1, e2⟩ | ⟨e1, e2⟩
      · have HO := Lib.hid (show fitsB c f = true by unfold fitsB; rw [if_pos h]; simp [z1, e1])
        clear z1 e1
        go_enter Try.func56, Try.ntmps56
        go_wp2_with fail
        go_ret
        exact ⟨by rw [HO.out]; rfl, (Below.refl _ w).alloc (Nat.le_refl _) _⟩
      · have HO := Lib.hid (show fitsB c f = false by unfold fitsB; rw [if_pos h]; simp [z1, e1])
        clear z1 e1
        go_enter Try.func56, Try.ntmps56
        go_wp2_with fail
        go_ret
        exact ⟨by rw [HO.out]; rfl, (Below.refl _ w).alloc (Nat.le_refl _) _⟩
    · have y1 : (f.i == 0) = false := beq_eq_false_iff_ne.2 z1
      have HO := Lib.hid (show fitsB c f = false by unfold fitsB; rw [if_pos h]; simp [z1])
      clear z1
      go_enter Try.func56, Try.ntmps56
      go_wp2_with fail
      go_ret
      exact ⟨by rw [HO.out]; rfl, (Below.refl _ w).alloc (Nat.le_refl _) _⟩
  · have d1 : ((c.toNat : Int) == 110) = false := beq_eq_false_iff_ne.2 (by omega)
    have d2 : ((c.toNat : Int) == 105) = true := beq_iff_eq.2 (by omega)
    by_cases z1 : f.n = 0
    · have y1 : (f.n == 0) = true := beq_iff_eq.2 z1
      rcases size_zero f.s with ⟨e1, e2⟩ | ⟨e1, e2⟩
      · have HO := Lib.hid (show fitsB c f = true by unfold fitsB; rw [if_neg h, if_pos h2]; simp [z1, e1])
        clear z1 e1
        go_enter Try.func56, Try.ntmps56
        go_wp2_with fail
        go_ret
        exact ⟨by rw [HO.out]; rfl, (Below.refl _ w).alloc (Nat.le_refl _) _⟩
      · have HO := Lib.hid (show fitsB c f = false by unfold fitsB; rw [if_neg h, if_pos h2]; simp [z1, e1])
        clear z1 e1
        go_enter Try.func56, Try.ntmps56
        go_wp2_with fail
        go_ret
        exact ⟨by rw [HO.out]; rfl, (Below.refl _ w).alloc (Nat.le_refl _) _⟩
    · have y1 : (f.n == 0) = false := beq_eq_false_iff_ne.2 z1
      have HO := Lib.hid (show fitsB c f = false by unfold fitsB; rw [if_neg h, if_pos h2]; simp [z1])
      clear z1
      go_enter Try.func56, Try.ntmps56
      go_wp2_with fail
      go_ret
      exact ⟨by rw [HO.out]; rfl, (Below.refl _ w).alloc (Nat.le_refl _) _⟩
  · have d1 : ((c.toNat : Int) == 110) = false := beq_eq_false_iff_ne.2 (by omega)
    have d2 : ((c.toNat : Int) == 105) = false := beq_eq_false_iff_ne.2 (by omega)
    by_cases z1 : f.n = 0
    · have y1 : (f.n == 0) = true := beq_iff_eq.2 z1
      by_cases z2 : f.i = 0
      · have y2 : (f.i == 0) = true := beq_iff_eq.2 z2
        have HO := Lib.hid (show fitsB c f = true by unfold fitsB; rw [if_neg h, if_neg h2]; simp [z1, z2])
        clear z1 z2
        go_enter Try.func56, Try.ntmps56
        go_wp2_with fail
        go_ret
        exact ⟨by rw [HO.out]; rfl, (Below.refl _ w).alloc (Nat.le_refl _) _⟩
      · have y2 : (f.i == 0) = false := beq_eq_false_iff_ne.2 z2
        have HO := Lib.hid (show fitsB c f = false by unfold fitsB; rw [if_neg h, if_neg h2]; simp [z1, z2])
        clear z1 z2
        go_enter Try.func56, Try.ntmps56
        go_wp2_with fail
        go_ret
        exact ⟨by rw [HO.out]; rfl, (Below.refl _ w).alloc (Nat.le_refl _) _⟩
    · have y1 : (f.n == 0) = false := beq_eq_false_iff_ne.2 z1
      have HO := Lib.hid (show fitsB c f = false by unfold fitsB; rw [if_neg h, if_neg h2]; simp [z1])
      clear z1
      go_enter Try.func56, Try.ntmps56
      go_wp2_with fail
      go_ret
      exact ⟨by rw [HO.out]; rfl, (Below.refl _ w).alloc (Nat.le_refl _) _⟩
end Go.Proofs.Ytialjglgkfcdmaa.Or
