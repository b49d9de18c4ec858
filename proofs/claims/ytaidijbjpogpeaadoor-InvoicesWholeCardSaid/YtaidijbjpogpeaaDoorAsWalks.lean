/- The contracts of package arith's small functions over this translation. -/
import Derived.Test.YtaidijbjpogpeaaDoorRows
import Derived.Test.YtaidijbjpogpeaaDoorArMath
import Derived.WalkKit
import Derived.WalkSpells
import Derived.WalkLawsBesides
import Derived.Lib.Hide
import Derived.Lib.EndianBits
import Derived.Laws.BitsAllLaws
import Derived.Lib.SliceRun
namespace Go.Proofs.YtaidijbjpogpeaaDoor
open Go.RowKit

theorem ret_bool {a b : Bool} (h : a = b) : Ending.returned (.bool a) = .returned (.bool b) := by rw [h]
theorem ret_int {k : IntKind} {a b : Int} (h : a = b) : Ending.returned (.int k a) = .returned (.int k b) := by rw [h]
theorem ret_two {j k : IntKind} {a b c d : Int} (h : a = b) (h' : c = d) : Ending.returned (.tuple #[.int j a, .int k c]) = .returned (.tuple #[.int j b, .int k d]) := by rw [h, h']
theorem ret_ib {j : IntKind} {a b : Int} {c d : Bool} (h : a = b) (h' : c = d) : Ending.returned (.tuple #[.int j a, .bool c]) = .returned (.tuple #[.int j b, .bool d]) := by rw [h, h']
theorem ret_agg {j k : IntKind} {a b c d : Int} (h : a = b) (h' : c = d) : Ending.returned (.agg #[.int j a, .int k c]) = .returned (.agg #[.int j b, .int k d]) := by rw [h, h']

/-- The low half of a word. -/
theorem u64_half (x : Int) (h0 : 0 ≤ x) (h1 : x < 18446744073709551616) : bits .and .u64 x 4294967295 = x % 4294967296 := by
  obtain ⟨n, rfl⟩ := Int.eq_ofNat_of_zero_le h0
  have := u64_and_nat n 4294967295 (by omega) (by omega)
  rw [show ((4294967295 : Nat) : Int) = 4294967295 from rfl] at this
  rw [this, show n &&& 4294967295 = n % 4294967296 from Nat.and_two_pow_sub_one_eq_mod n 32]
  rfl
theorem u64_join (k : Nat) (x y : Int) (hx0 : 0 ≤ x) (hx : x < 18446744073709551616) (hm : x % 2 ^ k = 0) (hy0 : 0 ≤ y) (hy : y < 2 ^ k) (hs : y < 18446744073709551616) : bits .or .u64 x y = x + y := by
  obtain ⟨n, rfl⟩ := Int.eq_ofNat_of_zero_le hx0
  obtain ⟨m, rfl⟩ := Int.eq_ofNat_of_zero_le hy0
  rw [u64_or_nat n m (by omega) (by omega), nat_join k n m (by exact_mod_cast hm) (by exact_mod_cast hy)]
  rfl

set_option maxHeartbeats 400000 in
theorem magnitude_c (n : Int) (w : World) (b1 : -9223372036854775808 ≤ n) (b2 : n ≤ 9223372036854775807) :
    Calls Tryd.prog 36 #[.int .i64 n] w fun e w' => e = .returned (.int .u64 (Ar.mag n)) ∧ w = w' := by
  by_cases h : n < 0
  · have HM := Lib.hid (show Ar.mag n = -n by simp [Ar.mag, h])
    go_enter Tryd.func36, Tryd.ntmps36
    go_wp2
    go_ret
    exact ⟨ret_int (by rw [HM.out]; simp only [IntKind.wrap_u64]; omega), rfl⟩
  · have HM := Lib.hid (show Ar.mag n = n by simp [Ar.mag, h])
    go_enter Tryd.func36, Tryd.ntmps36
    go_wp2
    go_ret
    exact ⟨ret_int (by rw [HM.out]; try simp only [IntKind.wrap_u64]; omega), rfl⟩

theorem product_end (x y : Int) :
    bits .or .u64 (IntKind.u64.wrap (x * 4294967296)) (y % 4294967296) = x % 4294967296 * 4294967296 + y % 4294967296 := by
  rw [IntKind.wrap_u64, u64_join 32 _ _ (by omega) (by omega) (by omega) (by omega) (by omega) (by omega)]
  omega
set_option maxHeartbeats 400000 in
/-- A magnitude and a word more: the sum, where it fits. -/
theorem plus_c (h l n : Int) (w : World) (h0 : 0 ≤ h) (h1 : h < 18446744073709551615) (l0 : 0 ≤ l) (l1 : l < 18446744073709551616) (n0 : 0 ≤ n) (n1 : n < 18446744073709551616) :
    Calls Tryd.prog 35 #[.agg #[.int .u64 h, .int .u64 l], .int .u64 n] w fun e w' => e = .returned (.agg #[.int .u64 (h + (l + n) / 18446744073709551616), .int .u64 ((l + n) % 18446744073709551616)]) ∧ Below w.heap.size w w' := by
  by_cases hc : l + n < 18446744073709551616
  · have hc' : ¬ l + n < n := by omega
    go_enter Tryd.func35, Tryd.ntmps35
    go_wp2
    exact bodyPost_ret (v := .agg #[.int .u64 (h + (l + n) / 18446744073709551616), .int .u64 ((l + n) % 18446744073709551616)]) (by simp [results, Tryd.results35, go_sem]; omega) rfl ⟨rfl, ((Below.refl _ _).alloc (Nat.le_refl _) _).alloc (by simp) _⟩
  · have hw : IntKind.u64.wrap (l + n) = l + n - 18446744073709551616 := by rw [IntKind.wrap_u64]; omega
    have hc' : l + n - 18446744073709551616 < n := by omega
    go_enter Tryd.func35, Tryd.ntmps35
    go_wp2
    exact bodyPost_ret (v := .agg #[.int .u64 (h + (l + n) / 18446744073709551616), .int .u64 ((l + n) % 18446744073709551616)]) (by simp [results, Tryd.results35, go_sem]; omega) rfl ⟨rfl, ((Below.refl _ _).alloc (Nat.le_refl _) _).alloc (by simp) _⟩
set_option maxHeartbeats 400000 in
theorem less_c (h l h' l' : Int) (w : World) (h1 : h < 18446744073709551616) (l0 : 0 ≤ l) (l1 : l < 18446744073709551616) (h0' : 0 ≤ h') (l0' : 0 ≤ l') (l1' : l' < 18446744073709551616)
    (hle : h' * 18446744073709551616 + l' ≤ h * 18446744073709551616 + l) :
    Calls Tryd.prog 39 #[.agg #[.int .u64 h, .int .u64 l], .agg #[.int .u64 h', .int .u64 l']] w fun e w' =>
      e = .returned (.agg #[.int .u64 ((h * 18446744073709551616 + l - (h' * 18446744073709551616 + l')) / 18446744073709551616), .int .u64 ((h * 18446744073709551616 + l - (h' * 18446744073709551616 + l')) % 18446744073709551616)]) ∧ Below w.heap.size w w' := by
  by_cases hc : l < l'
  · have hw : IntKind.u64.wrap (l - l') = l - l' + 18446744073709551616 := by rw [IntKind.wrap_u64]; omega
    go_enter Tryd.func39, Tryd.ntmps39
    go_wp2
    exact bodyPost_ret (v := .agg #[.int .u64 ((h * 18446744073709551616 + l - (h' * 18446744073709551616 + l')) / 18446744073709551616), .int .u64 ((h * 18446744073709551616 + l - (h' * 18446744073709551616 + l')) % 18446744073709551616)]) (by simp [results, Tryd.results39, go_sem]; omega) rfl ⟨rfl, (((Below.refl _ _).alloc (Nat.le_refl _) _).alloc (by simp) _).alloc (by simp; omega) _⟩
  · go_enter Tryd.func39, Tryd.ntmps39
    go_wp2
    exact bodyPost_ret (v := .agg #[.int .u64 ((h * 18446744073709551616 + l - (h' * 18446744073709551616 + l')) / 18446744073709551616), .int .u64 ((h * 18446744073709551616 + l - (h' * 18446744073709551616 + l')) % 18446744073709551616)]) (by simp [results, Tryd.results39, go_sem]; omega) rfl ⟨rfl, (((Below.refl _ _).alloc (Nat.le_refl _) _).alloc (by simp) _).alloc (by simp; omega) _⟩
set_option maxHeartbeats 400000 in
theorem below_c (h l h' l' : Int) (w : World) (b : Bool) (l0 : 0 ≤ l) (l1 : l < 18446744073709551616) (l0' : 0 ≤ l') (l1' : l' < 18446744073709551616)
    (hb : b = decide (h * 18446744073709551616 + l < h' * 18446744073709551616 + l')) :
    Calls Tryd.prog 37 #[.agg #[.int .u64 h, .int .u64 l], .agg #[.int .u64 h', .int .u64 l']] w fun e w' => e = .returned (.bool b) ∧ Below w.heap.size w w' := by
  have HB := Lib.hid hb
  clear hb
  by_cases c1 : h < h'
  · go_enter Tryd.func37, Tryd.ntmps37
    go_wp2
    go_ret
    exact ⟨ret_bool (by rw [HB.out, decide_eq_true (by omega)]), ((Below.refl _ _).alloc (Nat.le_refl _) _).alloc (by simp) _⟩
  by_cases c2 : h = h'
  · subst c2
    by_cases c3 : l < l'
    · go_enter Tryd.func37, Tryd.ntmps37
      go_wp2
      go_ret
      exact ⟨ret_bool (by rw [HB.out, decide_eq_true (by omega)]), ((Below.refl _ _).alloc (Nat.le_refl _) _).alloc (by simp) _⟩
    · go_enter Tryd.func37, Tryd.ntmps37
      go_wp2
      go_ret
      exact ⟨ret_bool (by rw [HB.out, decide_eq_false (by omega)]), ((Below.refl _ _).alloc (Nat.le_refl _) _).alloc (by simp) _⟩
  · go_enter Tryd.func37, Tryd.ntmps37
    go_wp2
    go_ret
    exact ⟨ret_bool (by rw [HB.out, decide_eq_false (by omega)]), ((Below.refl _ _).alloc (Nat.le_refl _) _).alloc (by simp) _⟩
end Go.Proofs.YtaidijbjpogpeaaDoor
