/- The contracts of package arith's MulDiv and Near, joined. -/
import Derived.Test.YtinfjfjheimceaaAxDiv
namespace Go.Proofs.Ytinfjfjheimceaa
open Go.RowKit

theorem ok_or (n : Int) : (Ar.val n = n ∧ Ar.ok n = true) ∨ (Ar.val n = 0 ∧ Ar.ok n = false) := by
  by_cases h : Ar.Fits n
  · exact Or.inl ⟨if_pos h, decide_eq_true h⟩
  · exact Or.inr ⟨if_neg h, decide_eq_false h⟩
/-- What MulDiv answers: the quotient, rounded down, and the rest, where the quotient fits. -/
theorem muldiv_c (a b c : Int) (w : World) (ha : I64 a) (hb : I64 b) (c1 : 1 ≤ c) (c2 : c < 9223372036854775808) :
    (Ar.ok (a * b / c) = true → Calls Try.prog 14 #[.int .i64 a, .int .i64 b, .int .i64 c] w fun e w' => e = .returned (.tuple #[.int .i64 (a * b / c), .int .i64 (a * b % c), .bool true]) ∧ Below w.heap.size w w') ∧
    (Ar.ok (a * b / c) = false → Calls Try.prog 14 #[.int .i64 a, .int .i64 b, .int .i64 c] w fun e w' => e = .returned (.tuple #[.int .i64 0, .int .i64 0, .bool false]) ∧ Below w.heap.size w w') := by
  obtain ⟨a1, a2⟩ := ha
  obtain ⟨b1, b2⟩ := hb
  have ma := Ar.mag_bd a a1 a2
  have mb := Ar.mag_bd b b1 b2
  have pd := Ar.prod_bd (Ar.mag a) (Ar.mag b) ma.1 ma.2 mb.1 mb.2
  have qd := Ar.quo_bd (Ar.mag a * Ar.mag b) c c1 pd.1
  have r0 := Int.emod_nonneg (Ar.mag a * Ar.mag b) (show c ≠ 0 by omega)
  have r1 := Int.emod_lt_of_pos (Ar.mag a * Ar.mag b) (show 0 < c by omega)
  have E := Ar.sg_mul a b
  cases hs : sgn2 a b
  · unfold sgn2 at hs
    rw [hs] at E
    simp only [Ar.sg, Bool.false_eq_true, if_false] at E
    rw [← E]
    refine ⟨fun h => ?_, fun h => ?_⟩
    · rcases ok_or (Ar.mag a * Ar.mag b / c) with hv | hv
      · exact muldiv_pos_true a b c _ _ _ w a1 a2 b1 b2 c1 c2 ma mb pd (Lib.hid rfl) qd.1 (by omega) r0 r1 (Lib.hid hs) (Lib.hid ⟨rfl, rfl⟩) (Lib.hid hv)
      · rw [hv.2] at h; cases h
    · rcases ok_or (Ar.mag a * Ar.mag b / c) with hv | hv
      · rw [hv.2] at h; cases h
      · exact muldiv_pos_false a b c _ _ _ w a1 a2 b1 b2 c1 c2 ma mb pd (Lib.hid rfl) qd.1 (by omega) r0 r1 (Lib.hid hs) (Lib.hid ⟨rfl, rfl⟩) (Lib.hid hv)
  · unfold sgn2 at hs
    rw [hs] at E
    simp only [Ar.sg, if_true] at E
    rw [← E]
    by_cases hr : Ar.mag a * Ar.mag b % c = 0
    · obtain ⟨f1, f2⟩ := Ar.floor_neg0 _ c c1 hr
      rw [f1, f2]
      refine ⟨fun h => ?_, fun h => ?_⟩
      · rcases ok_or (-(Ar.mag a * Ar.mag b / c)) with hv | hv
        · exact muldiv_neg0_true a b c _ _ 0 w a1 a2 b1 b2 c1 c2 ma mb pd (Lib.hid rfl) qd.1 (by omega) (by omega) (by omega) (Lib.hid hs) (Lib.hid ⟨rfl, hr⟩) (Lib.hid hv)
        · rw [hv.2] at h; cases h
      · rcases ok_or (-(Ar.mag a * Ar.mag b / c)) with hv | hv
        · rw [hv.2] at h; cases h
        · exact muldiv_neg0_false a b c _ _ 0 w a1 a2 b1 b2 c1 c2 ma mb pd (Lib.hid rfl) qd.1 (by omega) (by omega) (by omega) (Lib.hid hs) (Lib.hid ⟨rfl, hr⟩) (Lib.hid hv)
    · obtain ⟨f1, f2⟩ := Ar.floor_neg (Ar.mag a * Ar.mag b) c c1 (by omega)
      rw [f1, f2]
      refine ⟨fun h => ?_, fun h => ?_⟩
      · rcases ok_or (-(Ar.mag a * Ar.mag b / c + 1)) with hv | hv
        · exact muldiv_neg1_true a b c _ _ _ w a1 a2 b1 b2 c1 c2 ma mb pd (Lib.hid rfl) qd.1 (by omega) r0 r1 (by omega) (Lib.hid hs) (Lib.hid ⟨rfl, rfl⟩) (Lib.hid hv)
        · rw [hv.2] at h; cases h
      · rcases ok_or (-(Ar.mag a * Ar.mag b / c + 1)) with hv | hv
        · rw [hv.2] at h; cases h
        · exact muldiv_neg1_false a b c _ _ _ w a1 a2 b1 b2 c1 c2 ma mb pd (Lib.hid rfl) qd.1 (by omega) r0 r1 (by omega) (Lib.hid hs) (Lib.hid ⟨rfl, rfl⟩) (Lib.hid hv)

end Go.Proofs.Ytinfjfjheimceaa
