/- The contract of package arith's Sum. -/
import Derived.Test.YtlmhifdilmnlnaaDoorAmDiv2
import Derived.Test.YtlmhifdilmnlnaaDoorArMath4
import Derived.Deep.RegionWith
namespace Go.Proofs.YtlmhifdilmnlnaaDoor
open Go.RowKit

theorem plus_is (D n : Int) (w : World) (q0 : 0 ≤ D) (q1 : D ≤ 170141183460469231731687303715884105727) (n0 : 0 ≤ n) (n1 : n ≤ 9223372036854775808) :
    Calls Tryd.prog 61 #[.agg #[.int .u64 (D / 18446744073709551616), .int .u64 (D % 18446744073709551616)], .int .u64 n] w fun e w' =>
      e = .returned (.agg #[.int .u64 ((D + n) / 18446744073709551616), .int .u64 ((D + n) % 18446744073709551616)]) ∧ Below w.heap.size w w' := by
  have := plus_c (D / 18446744073709551616) (D % 18446744073709551616) n w (by omega) (by omega) (by omega) (by omega) (by omega) (by omega)
  rwa [show D / 18446744073709551616 + (D % 18446744073709551616 + n) / 18446744073709551616 = (D + n) / 18446744073709551616 by omega, show (D % 18446744073709551616 + n) % 18446744073709551616 = (D + n) % 18446744073709551616 by omega] at this

/-- The two sums in memory. -/
structure Two (n : Nat) (U D : Int) (wr : World) : Prop where
  u0 : wr.cell? ⟨n, 0, none⟩ = some (.int .u64 (U / 18446744073709551616))
  u1 : wr.cell? ⟨n, 1, none⟩ = some (.int .u64 (U % 18446744073709551616))
  d0 : wr.cell? ⟨n + 1, 0, none⟩ = some (.int .u64 (D / 18446744073709551616))
  d1 : wr.cell? ⟨n + 1, 1, none⟩ = some (.int .u64 (D % 18446744073709551616))
  f0 : wr.frozen? ⟨n, 0, none⟩ = false
  f1 : wr.frozen? ⟨n, 1, none⟩ = false
  f2 : wr.frozen? ⟨n + 1, 0, none⟩ = false
  f3 : wr.frozen? ⟨n + 1, 1, none⟩ = false
  sz : n + 1 < wr.heap.size
theorem Two.later {n : Nat} {U D : Int} {w w' : World} (h : Two n U D w) (hb : Below w.heap.size w w') : Two n U D w' := by
  have := h.sz
  have := hb.size
  exact ⟨by rw [hb.cell (by simp; omega)]; exact h.u0, by rw [hb.cell (by simp; omega)]; exact h.u1, by rw [hb.cell (by simp; omega)]; exact h.d0, by rw [hb.cell (by simp; omega)]; exact h.d1,
    by rw [hb.frozen (by simp; omega)]; exact h.f0, by rw [hb.frozen (by simp; omega)]; exact h.f1, by rw [hb.frozen (by simp; omega)]; exact h.f2, by rw [hb.frozen (by simp; omega)]; exact h.f3, by omega⟩

theorem Two.drew {n : Nat} {U D : Int} {w : World} (h : Two n U D w) : Two n U D w.drew := ⟨h.u0, h.u1, h.d0, h.d1, h.f0, h.f1, h.f2, h.f3, h.sz⟩
theorem magnitude_is (x m : Int) (w : World) (b1 : -9223372036854775808 ≤ x) (b2 : x ≤ 9223372036854775807) (hm : Ar.mag x = m) :
    Calls Tryd.prog 59 #[.int .i64 x] w fun e w' => e = .returned (.int .u64 m) ∧ w = w' := by
  subst hm; exact magnitude_c x w b1 b2

end Go.Proofs.YtlmhifdilmnlnaaDoor
