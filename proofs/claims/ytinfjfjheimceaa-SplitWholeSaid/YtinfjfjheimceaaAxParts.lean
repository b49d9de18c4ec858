/- The walk of ArithParts. -/
import Derived.Test.YtinfjfjheimceaaAxRing
import Derived.BigQuiet
import Derived.Deep.QuietTactic
namespace Go.Proofs.Ytinfjfjheimceaa
open Go.RowKit

theorem below_q {w : World} (o : Obj) (n : Nat) : Below w.heap.size w ((w.alloc o).drewN n) := ((Below.refl _ _).alloc (Nat.le_refl _) o).trans ⟨rfl, rfl, rfl, Nat.le_refl _, fun _ _ => rfl⟩
/-- The rest that MulDiv tells. -/
def mdr (P c : Int) : Int := if Ar.ok (P / c) then P % c else 0
theorem muldiv_told (a b c P : Int) (w : World) (ha : I64 a) (hb : I64 b) (c1 : 1 ≤ c) (c2 : c < 9223372036854775808) (hP : a * b = P) :
    Calls Try.prog 14 #[.int .i64 a, .int .i64 b, .int .i64 c] w fun e w' => e = .returned (.tuple #[.int .i64 (Ar.val (P / c)), .int .i64 (mdr P c), .bool (Ar.ok (P / c))]) ∧ Below w.heap.size w w' := by
  subst hP
  rcases ok_or (a * b / c) with ⟨h1, h2⟩ | ⟨h1, h2⟩
  · rw [h1, h2, mdr, h2, if_pos rfl]; exact (muldiv_c a b c w ha hb c1 c2).1 h2
  · rw [h1, h2, mdr, h2, if_neg (by decide)]; exact (muldiv_c a b c w ha hb c1 c2).2 h2
theorem quo_mono (lo hi n c : Int) (h : lo ≤ hi) (n0 : 0 ≤ n) (c1 : 1 ≤ c) : lo * n / c ≤ hi * n / c := Int.ediv_le_ediv (by omega) (Int.mul_le_mul_of_nonneg_right h n0)
theorem quo_parts (lo hi s n c : Int) (hs : lo + hi = s) (c1 : 1 ≤ c) : lo * n / c + hi * n / c = s * n / c ∨ lo * n / c + hi * n / c = s * n / c - 1 := by
  subst hs
  rw [Int.add_mul]
  have e1 := Int.mul_ediv_add_emod (lo * n) c
  have e2 := Int.mul_ediv_add_emod (hi * n) c
  have r1 := Int.emod_nonneg (lo * n) (show c ≠ 0 by omega)
  have r2 := Int.emod_nonneg (hi * n) (show c ≠ 0 by omega)
  have r3 := Int.emod_lt_of_pos (lo * n) (show 0 < c by omega)
  have r4 := Int.emod_lt_of_pos (hi * n) (show 0 < c by omega)
  have e3 : lo * n + hi * n = (lo * n % c + hi * n % c) + c * (lo * n / c + hi * n / c) := by grind
  rw [e3, Int.add_mul_ediv_left _ _ (by omega)]
  by_cases h : lo * n % c + hi * n % c < c
  · have : (lo * n % c + hi * n % c) / c = 0 := Int.ediv_eq_zero_of_lt (by omega) h
    omega
  · have : (lo * n % c + hi * n % c) / c = 1 := by
      have h1 : (lo * n % c + hi * n % c - c) / c = 0 := Int.ediv_eq_zero_of_lt (by omega) (by omega)
      have h2 := Int.add_mul_ediv_left (lo * n % c + hi * n % c - c) 1 (show c ≠ 0 by omega)
      rw [h1, show lo * n % c + hi * n % c - c + c * 1 = lo * n % c + hi * n % c by omega] at h2
      omega
    omega
end Go.Proofs.Ytinfjfjheimceaa
