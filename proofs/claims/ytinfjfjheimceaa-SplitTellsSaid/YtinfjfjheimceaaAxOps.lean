/- The contracts of package arith's Sub, Neg, Mul. -/
import Derived.Test.YtinfjfjheimceaaAxSigns
namespace Go.Proofs.Ytinfjfjheimceaa
open Go.RowKit

/-- A 64-bit number. -/
def I64 (n : Int) : Prop := -9223372036854775808 ≤ n ∧ n ≤ 9223372036854775807

/-- What an operation answers: the number, where it fits. -/
def Told (n : Int) (w : World) (e : Ending) (w' : World) : Prop := e = .returned (.tuple #[.int .i64 (Ar.val n), .bool (Ar.ok n)]) ∧ Below w.heap.size w w'

theorem ok_in {n : Int} (h1 : -9223372036854775808 ≤ n) (h2 : n ≤ 9223372036854775807) : Ar.ok n = true ∧ Ar.val n = n :=
  ⟨decide_eq_true ⟨h1, h2⟩, if_pos ⟨h1, h2⟩⟩
theorem ok_out {n : Int} (h : n < -9223372036854775808 ∨ 9223372036854775807 < n) : Ar.ok n = false ∧ Ar.val n = 0 := by
  have : ¬ Ar.Fits n := by unfold Ar.Fits; omega
  exact ⟨decide_eq_false this, if_neg this⟩
set_option maxHeartbeats 800000 in
theorem mul_c (a b : Int) (w : World) (ha : I64 a) (hb : I64 b) : Calls Try.prog 15 #[.int .i64 a, .int .i64 b] w (Told (a * b) w) := by
  obtain ⟨a1, a2⟩ := ha
  obtain ⟨b1, b2⟩ := hb
  have ma := Ar.mag_bd a a1 a2
  have mb := Ar.mag_bd b b1 b2
  have pd := Ar.prod_bd (Ar.mag a) (Ar.mag b) ma.1 ma.2 mb.1 mb.2
  have E := Lib.hid (Ar.sg_mul a b)
  go_enter Try.func15, Try.ntmps15
  go_wp2_with fail
  refine (signs2_c a b w.heap.size _ (by simp) (by simp [go_sem]) (by simp [go_sem])).mono ?_
  rintro e w1 ⟨rfl, hb1, hc1, hz1⟩
  simp at hc1 hz1
  go_wp2_with fail
  refine (magnitude_c a _ a1 a2).mono ?_
  rintro e w' ⟨rfl, rfl⟩
  go_wp2_with fail
  refine (magnitude_c b _ b1 b2).mono ?_
  rintro e w' ⟨rfl, rfl⟩
  go_wp2_with fail
  refine (product_c (Ar.mag a) (Ar.mag b) _ (by omega) (by omega) (by omega) (by omega)).mono ?_
  rintro e w2 ⟨rfl, hb2⟩
  have hc2 : w2.cell? ⟨w.heap.size + 1, 0, none⟩ = some (.bool (sgn2 a b)) := by rw [hb2.cell (by simpa using hz1)]; exact hc1
  have hz2 := hb2.size
  go_wp2_with fail
  refine (give_c (sgn2 a b) _ _ (w.heap.size + 1) _ (by omega) hc2 (by omega) (by omega) (by omega) (by omega)).mono ?_
  rintro e w3 ⟨rfl, hb3⟩
  go_wp2_with fail
  go_ret2
  have hs1 := hb1.size
  simp at hs1
  exact ⟨ret_ib (by rw [Ar.words, sgn2, E.out]) (by rw [Ar.words, sgn2, E.out]), ((((Below.refl _ _).alloc (Nat.le_refl _) _).trans (hb1.mono (by simp))).trans (hb2.mono (by omega))).trans (hb3.mono (by omega))⟩
end Go.Proofs.Ytinfjfjheimceaa
