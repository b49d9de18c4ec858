/- Joined: AmWalks AmSigns AmOps AmBy AmDiv AmDiv2 AmSum AmAdd AmHead. -/
import Derived.Test.YtjchecjonkmhgaaDoorRows
import Derived.Test.YtjchecjonkmhgaaDoorSjA
import Derived.WalkKit
import Derived.WalkSpells
import Derived.WalkLawsBesides
import Derived.Lib.Hide
import Derived.Lib.EndianBits
import Derived.Laws.BitsAllLaws
import Derived.Lib.SliceRun
import Derived.RegionTactic
import Derived.Lib.Zigzag
import Derived.ChangeAlike
import Derived.Deep.RegionWith
section
namespace Go.Proofs.YtjchecjonkmhgaaDoor
open Go.RowKit

theorem ret_bool {a b : Bool} (h : a = b) : Ending.returned (.bool a) = .returned (.bool b) := by rw [h]
theorem ret_int {k : IntKind} {a b : Int} (h : a = b) : Ending.returned (.int k a) = .returned (.int k b) := by rw [h]
theorem ret_two {j k : IntKind} {a b c d : Int} (h : a = b) (h' : c = d) : Ending.returned (.tuple #[.int j a, .int k c]) = .returned (.tuple #[.int j b, .int k d]) := by rw [h, h']
theorem ret_ib {j : IntKind} {a b : Int} {c d : Bool} (h : a = b) (h' : c = d) : Ending.returned (.tuple #[.int j a, .bool c]) = .returned (.tuple #[.int j b, .bool d]) := by rw [h, h']
theorem ret_agg {j k : IntKind} {a b c d : Int} (h : a = b) (h' : c = d) : Ending.returned (.agg #[.int j a, .int k c]) = .returned (.agg #[.int j b, .int k d]) := by rw [h, h']

/-- The low half of a word. -/
theorem u64_half (x : Int) (h0 : 0 ≤ x) (h1 : x < 18446744073709551616) : bits .and .u64 x 4294967295 = x % 4294967296 := by
  obtain ⟨n, rfl⟩ := Int.eq_ofNat_of_zero_le h0
  have := u64_and_nat n 4294967295 (by omega) (by omega)
  rw [show ((4294967295 : Nat) : Int) = 4294967295 from rfl] at this
  rw [this, show n &&& 4294967295 = n % 4294967296 from Nat.and_two_pow_sub_one_eq_mod n 32]
  rfl
theorem u64_join (k : Nat) (x y : Int) (hx0 : 0 ≤ x) (hx : x < 18446744073709551616) (hm : x % 2 ^ k = 0) (hy0 : 0 ≤ y) (hy : y < 2 ^ k) (hs : y < 18446744073709551616) : bits .or .u64 x y = x + y := by
  obtain ⟨n, rfl⟩ := Int.eq_ofNat_of_zero_le hx0
  obtain ⟨m, rfl⟩ := Int.eq_ofNat_of_zero_le hy0
  rw [u64_or_nat n m (by omega) (by omega), nat_join k n m (by exact_mod_cast hm) (by exact_mod_cast hy)]
  rfl

set_option maxHeartbeats 400000 in
theorem magnitude_c (n : Int) (w : World) (b1 : -9223372036854775808 ≤ n) (b2 : n ≤ 9223372036854775807) :
    Calls Tryd.prog 44 #[.int .i64 n] w fun e w' => e = .returned (.int .u64 (Ar.mag n)) ∧ w = w' := by
  by_cases h : n < 0
  · have HM := Lib.hid (show Ar.mag n = -n by simp [Ar.mag, h])
    go_enter Tryd.func44, Tryd.ntmps44
    go_wp2
    go_ret
    exact ⟨ret_int (by rw [HM.out]; simp only [IntKind.wrap_u64]; omega), rfl⟩
  · have HM := Lib.hid (show Ar.mag n = n by simp [Ar.mag, h])
    go_enter Tryd.func44, Tryd.ntmps44
    go_wp2
    go_ret
    exact ⟨ret_int (by rw [HM.out]; try simp only [IntKind.wrap_u64]; omega), rfl⟩

theorem product_end (x y : Int) :
    bits .or .u64 (IntKind.u64.wrap (x * 4294967296)) (y % 4294967296) = x % 4294967296 * 4294967296 + y % 4294967296 := by
  rw [IntKind.wrap_u64, u64_join 32 _ _ (by omega) (by omega) (by omega) (by omega) (by omega) (by omega)]
  omega
set_option maxHeartbeats 400000 in
theorem product_c (a b : Int) (w : World) (h1 : 0 ≤ a) (h2 : a < 18446744073709551616) (h3 : 0 ≤ b) (h4 : b < 18446744073709551616) :
    Calls Tryd.prog 87 #[.int .u64 a, .int .u64 b] w fun e w' => e = .returned (.agg #[.int .u64 (a * b / 18446744073709551616), .int .u64 (a * b % 18446744073709551616)]) ∧ Below w.heap.size w w' := by
  obtain ⟨⟨l0, l1⟩, ⟨m0, m1⟩, ⟨o0, o1⟩, q0, e1, e2, q1⟩ := Ar.prod_words a b h1 h2 h3 h4
  have a1 := u64_half a h1 h2
  have a2 := u64_half b h3 h4
  have a3 := u64_half _ l0 l1
  have a4 := u64_half (a / 4294967296 * (b % 4294967296) + a % 4294967296 * (b % 4294967296) / 4294967296) (by omega) m1
  have a5 := product_end (a % 4294967296 * (b / 4294967296) + (a / 4294967296 * (b % 4294967296) + a % 4294967296 * (b % 4294967296) / 4294967296) % 4294967296) (a % 4294967296 * (b % 4294967296))
  have q2 : a / 4294967296 * (b / 4294967296) + (a / 4294967296 * (b % 4294967296) + a % 4294967296 * (b % 4294967296) / 4294967296) / 4294967296 + (a % 4294967296 * (b / 4294967296) + (a / 4294967296 * (b % 4294967296) + a % 4294967296 * (b % 4294967296) / 4294967296) % 4294967296) / 4294967296 < 18446744073709551616 := by omega
  have E := Lib.hid (And.intro e1 e2)
  clear e1 e2 q1
  go_enter Tryd.func87, Tryd.ntmps87
  go_wp2
  exact bodyPost_ret (v := .agg #[.int .u64 _, .int .u64 _]) (by simp [results, Tryd.results87, go_sem]) rfl ⟨ret_agg E.out.1 E.out.2, (Below.refl _ _).alloc (Nat.le_refl _) _⟩

set_option maxHeartbeats 400000 in
/-- A magnitude and a word more: the sum, where it fits. -/
theorem plus_c (h l n : Int) (w : World) (h0 : 0 ≤ h) (h1 : h < 18446744073709551615) (l0 : 0 ≤ l) (l1 : l < 18446744073709551616) (n0 : 0 ≤ n) (n1 : n < 18446744073709551616) :
    Calls Tryd.prog 43 #[.agg #[.int .u64 h, .int .u64 l], .int .u64 n] w fun e w' => e = .returned (.agg #[.int .u64 (h + (l + n) / 18446744073709551616), .int .u64 ((l + n) % 18446744073709551616)]) ∧ Below w.heap.size w w' := by
  by_cases hc : l + n < 18446744073709551616
  · have hc' : ¬ l + n < n := by omega
    go_enter Tryd.func43, Tryd.ntmps43
    go_wp2
    exact bodyPost_ret (v := .agg #[.int .u64 (h + (l + n) / 18446744073709551616), .int .u64 ((l + n) % 18446744073709551616)]) (by simp [results, Tryd.results43, go_sem]; omega) rfl ⟨rfl, ((Below.refl _ _).alloc (Nat.le_refl _) _).alloc (by simp) _⟩
  · have hw : IntKind.u64.wrap (l + n) = l + n - 18446744073709551616 := by rw [IntKind.wrap_u64]; omega
    have hc' : l + n - 18446744073709551616 < n := by omega
    go_enter Tryd.func43, Tryd.ntmps43
    go_wp2
    exact bodyPost_ret (v := .agg #[.int .u64 (h + (l + n) / 18446744073709551616), .int .u64 ((l + n) % 18446744073709551616)]) (by simp [results, Tryd.results43, go_sem]; omega) rfl ⟨rfl, ((Below.refl _ _).alloc (Nat.le_refl _) _).alloc (by simp) _⟩
end Go.Proofs.YtjchecjonkmhgaaDoor
end
section
namespace Go.Proofs.YtjchecjonkmhgaaDoor
open Go.RowKit

theorem makeF : ∀ (fn : Fn) (first cap : Array Value) (w : World), (Instr.makeFunc fn first cap).run Tryd.prog w = .ok (.func fn first cap) w := fun _ _ _ _ => rfl

/-- What 'signs' answers: the sign, and the function that gives it; the sign lies in a new block. -/
def SignRes (neg : Bool) (w : World) (e : Ending) (w' : World) : Prop :=
  e = .returned (.tuple #[.bool neg, .func (.func 62) #[] #[.pointer (some ⟨w.heap.size, 0, none⟩)]]) ∧ Below w.heap.size w w' ∧ w'.cell? ⟨w.heap.size, 0, none⟩ = some (.bool neg) ∧ w.heap.size < w'.heap.size

set_option maxHeartbeats 400000 in
theorem signs2_nn (a b : Int) (x : Nat) (w : World) (hx : x < w.heap.size) (_h0 : w.cell? ⟨x, 0, none⟩ = some (.int .i64 a)) (_h1 : w.cell? ⟨x, 1, none⟩ = some (.int .i64 b)) (_ha : a < 0) (_hb : b < 0) :
    Calls Tryd.prog 46 #[.slice (some ⟨x, 0, none⟩) 2 2] w (SignRes false w) := by
  have hmf := makeF
  go_enter Tryd.func46, Tryd.ntmps46
  go_wp2
  refine wp_loop_rounds 3 ?_
  rw [rounds_succ]
  go_wp2
  rw [rounds_succ]
  go_wp2
  rw [rounds_succ]
  go_wp2
  exact bodyPost_ret (v := .tuple #[.bool false, .func (.func 62) #[] #[.pointer (some ⟨w.heap.size, 0, none⟩)]]) (by simp [results, Tryd.results46, go_sem]) rfl ⟨rfl, (Below.refl _ _).alloc (Nat.le_refl _) _, by simp [go_sem], by simp⟩
set_option maxHeartbeats 400000 in
theorem signs2_np (a b : Int) (x : Nat) (w : World) (hx : x < w.heap.size) (_h0 : w.cell? ⟨x, 0, none⟩ = some (.int .i64 a)) (_h1 : w.cell? ⟨x, 1, none⟩ = some (.int .i64 b)) (_ha : a < 0) (_hb : 0 ≤ b) :
    Calls Tryd.prog 46 #[.slice (some ⟨x, 0, none⟩) 2 2] w (SignRes true w) := by
  have hmf := makeF
  go_enter Tryd.func46, Tryd.ntmps46
  go_wp2
  refine wp_loop_rounds 3 ?_
  rw [rounds_succ]
  go_wp2
  rw [rounds_succ]
  go_wp2
  rw [rounds_succ]
  go_wp2
  exact bodyPost_ret (v := .tuple #[.bool true, .func (.func 62) #[] #[.pointer (some ⟨w.heap.size, 0, none⟩)]]) (by simp [results, Tryd.results46, go_sem]) rfl ⟨rfl, (Below.refl _ _).alloc (Nat.le_refl _) _, by simp [go_sem], by simp⟩
set_option maxHeartbeats 400000 in
theorem signs2_pn (a b : Int) (x : Nat) (w : World) (hx : x < w.heap.size) (_h0 : w.cell? ⟨x, 0, none⟩ = some (.int .i64 a)) (_h1 : w.cell? ⟨x, 1, none⟩ = some (.int .i64 b)) (_ha : 0 ≤ a) (_hb : b < 0) :
    Calls Tryd.prog 46 #[.slice (some ⟨x, 0, none⟩) 2 2] w (SignRes true w) := by
  have hmf := makeF
  go_enter Tryd.func46, Tryd.ntmps46
  go_wp2
  refine wp_loop_rounds 3 ?_
  rw [rounds_succ]
  go_wp2
  rw [rounds_succ]
  go_wp2
  rw [rounds_succ]
  go_wp2
  exact bodyPost_ret (v := .tuple #[.bool true, .func (.func 62) #[] #[.pointer (some ⟨w.heap.size, 0, none⟩)]]) (by simp [results, Tryd.results46, go_sem]) rfl ⟨rfl, (Below.refl _ _).alloc (Nat.le_refl _) _, by simp [go_sem], by simp⟩
set_option maxHeartbeats 400000 in
theorem signs2_pp (a b : Int) (x : Nat) (w : World) (hx : x < w.heap.size) (_h0 : w.cell? ⟨x, 0, none⟩ = some (.int .i64 a)) (_h1 : w.cell? ⟨x, 1, none⟩ = some (.int .i64 b)) (_ha : 0 ≤ a) (_hb : 0 ≤ b) :
    Calls Tryd.prog 46 #[.slice (some ⟨x, 0, none⟩) 2 2] w (SignRes false w) := by
  have hmf := makeF
  go_enter Tryd.func46, Tryd.ntmps46
  go_wp2
  refine wp_loop_rounds 3 ?_
  rw [rounds_succ]
  go_wp2
  rw [rounds_succ]
  go_wp2
  rw [rounds_succ]
  go_wp2
  exact bodyPost_ret (v := .tuple #[.bool false, .func (.func 62) #[] #[.pointer (some ⟨w.heap.size, 0, none⟩)]]) (by simp [results, Tryd.results46, go_sem]) rfl ⟨rfl, (Below.refl _ _).alloc (Nat.le_refl _) _, by simp [go_sem], by simp⟩
set_option maxHeartbeats 400000 in
theorem signs1_n (a : Int) (x : Nat) (w : World) (hx : x < w.heap.size) (_h0 : w.cell? ⟨x, 0, none⟩ = some (.int .i64 a)) (_ha : a < 0) :
    Calls Tryd.prog 46 #[.slice (some ⟨x, 0, none⟩) 1 1] w (SignRes true w) := by
  have hmf := makeF
  go_enter Tryd.func46, Tryd.ntmps46
  go_wp2
  refine wp_loop_rounds 2 ?_
  rw [rounds_succ]
  go_wp2
  rw [rounds_succ]
  go_wp2
  exact bodyPost_ret (v := .tuple #[.bool true, .func (.func 62) #[] #[.pointer (some ⟨w.heap.size, 0, none⟩)]]) (by simp [results, Tryd.results46, go_sem]) rfl ⟨rfl, (Below.refl _ _).alloc (Nat.le_refl _) _, by simp [go_sem], by simp⟩
set_option maxHeartbeats 400000 in
theorem signs1_p (a : Int) (x : Nat) (w : World) (hx : x < w.heap.size) (_h0 : w.cell? ⟨x, 0, none⟩ = some (.int .i64 a)) (_ha : 0 ≤ a) :
    Calls Tryd.prog 46 #[.slice (some ⟨x, 0, none⟩) 1 1] w (SignRes false w) := by
  have hmf := makeF
  go_enter Tryd.func46, Tryd.ntmps46
  go_wp2
  refine wp_loop_rounds 2 ?_
  rw [rounds_succ]
  go_wp2
  rw [rounds_succ]
  go_wp2
  exact bodyPost_ret (v := .tuple #[.bool false, .func (.func 62) #[] #[.pointer (some ⟨w.heap.size, 0, none⟩)]]) (by simp [results, Tryd.results46, go_sem]) rfl ⟨rfl, (Below.refl _ _).alloc (Nat.le_refl _) _, by simp [go_sem], by simp⟩

/-- The sign of a product. -/
def sgn2 (a b : Int) : Bool := xor (decide (a < 0)) (decide (b < 0))
theorem signs2_c (a b : Int) (x : Nat) (w : World) (hx : x < w.heap.size) (h0 : w.cell? ⟨x, 0, none⟩ = some (.int .i64 a)) (h1 : w.cell? ⟨x, 1, none⟩ = some (.int .i64 b)) :
    Calls Tryd.prog 46 #[.slice (some ⟨x, 0, none⟩) 2 2] w (SignRes (sgn2 a b) w) := by
  by_cases ha : a < 0
  · by_cases hb : b < 0
    · rw [show sgn2 a b = false by simp [sgn2, ha, hb]]; exact signs2_nn a b x w hx h0 h1 ha hb
    · rw [show sgn2 a b = true by simp [sgn2, ha, hb]]; exact signs2_np a b x w hx h0 h1 ha (by omega)
  · by_cases hb : b < 0
    · rw [show sgn2 a b = true by simp [sgn2, ha, hb]]; exact signs2_pn a b x w hx h0 h1 (by omega) hb
    · rw [show sgn2 a b = false by simp [sgn2, ha, hb]]; exact signs2_pp a b x w hx h0 h1 (by omega) (by omega)

set_option maxHeartbeats 400000 in
theorem give_c (neg : Bool) (h l : Int) (p : Nat) (w : World) (hp : p < w.heap.size) (hc : w.cell? ⟨p, 0, none⟩ = some (.bool neg)) (h0 : 0 ≤ h) (h1 : h < 18446744073709551616) (l0 : 0 ≤ l) (l1 : l < 18446744073709551616) :
    Calls Tryd.prog 62 #[.agg #[.int .u64 h, .int .u64 l], .pointer (some ⟨p, 0, none⟩)] w fun e w' =>
      e = .returned (.tuple #[.int .i64 (Ar.val (Ar.sg neg (h * 18446744073709551616 + l))), .bool (Ar.ok (Ar.sg neg (h * 18446744073709551616 + l)))]) ∧ Below w.heap.size w w' := by
  by_cases c1 : 0 < h
  · have HV := Lib.hid (show Ar.ok (Ar.sg neg (h * 18446744073709551616 + l)) = false by unfold Ar.ok Ar.Fits Ar.sg; split <;> (simp; omega))
    have HV2 := Lib.hid (show Ar.val (Ar.sg neg (h * 18446744073709551616 + l)) = 0 by unfold Ar.val; rw [if_neg]; unfold Ar.Fits Ar.sg; split <;> omega)
    cases neg
    · go_enter Tryd.func62, Tryd.ntmps62
      go_wp2
      go_ret2
      exact ⟨ret_ib HV2.out.symm HV.out.symm, (Below.refl _ _).alloc (Nat.le_refl _) _⟩
    · go_enter Tryd.func62, Tryd.ntmps62
      go_wp2
      go_ret2
      exact ⟨ret_ib HV2.out.symm HV.out.symm, (Below.refl _ _).alloc (Nat.le_refl _) _⟩
  · obtain rfl : h = 0 := by omega
    cases neg
    · by_cases c2 : 9223372036854775807 < l
      · have HV := Lib.hid (show Ar.ok (Ar.sg false l) = false by simp [Ar.ok, Ar.Fits, Ar.sg]; omega)
        have HV2 := Lib.hid (show Ar.val (Ar.sg false l) = 0 by simp [Ar.val, Ar.Fits, Ar.sg]; omega)
        go_enter Tryd.func62, Tryd.ntmps62
        go_wp2
        go_ret2
        exact ⟨ret_ib HV2.out.symm HV.out.symm, (Below.refl _ _).alloc (Nat.le_refl _) _⟩
      · have HV := Lib.hid (show Ar.ok (Ar.sg false l) = true by simp [Ar.ok, Ar.Fits, Ar.sg]; omega)
        have HV2 := Lib.hid (show Ar.val (Ar.sg false l) = l by simp [Ar.val, Ar.Fits, Ar.sg]; omega)
        go_enter Tryd.func62, Tryd.ntmps62
        go_wp2
        go_ret2
        exact ⟨ret_ib HV2.out.symm HV.out.symm, (Below.refl _ _).alloc (Nat.le_refl _) _⟩
    · by_cases c2 : 9223372036854775808 < l
      · have HV := Lib.hid (show Ar.ok (Ar.sg true l) = false by simp [Ar.ok, Ar.Fits, Ar.sg]; omega)
        have HV2 := Lib.hid (show Ar.val (Ar.sg true l) = 0 by simp [Ar.val, Ar.Fits, Ar.sg]; omega)
        go_enter Tryd.func62, Tryd.ntmps62
        go_wp2
        go_ret2
        exact ⟨ret_ib HV2.out.symm HV.out.symm, (Below.refl _ _).alloc (Nat.le_refl _) _⟩
      · have HV := Lib.hid (show Ar.ok (Ar.sg true l) = true by simp [Ar.ok, Ar.Fits, Ar.sg]; omega)
        have HV2 := Lib.hid (show Ar.val (Ar.sg true l) = -l by simp [Ar.val, Ar.Fits, Ar.sg]; omega)
        go_enter Tryd.func62, Tryd.ntmps62
        go_wp2
        go_ret2
        exact ⟨ret_ib (by rw [HV2.out]; unfold wrap64; omega) HV.out.symm, (Below.refl _ _).alloc (Nat.le_refl _) _⟩
end Go.Proofs.YtjchecjonkmhgaaDoor
end
section
namespace Go.Proofs.YtjchecjonkmhgaaDoor
open Go.RowKit

/-- A 64-bit number. -/
def I64 (n : Int) : Prop := -9223372036854775808 ≤ n ∧ n ≤ 9223372036854775807

/-- What an operation answers: the number, where it fits. -/
def Told (n : Int) (w : World) (e : Ending) (w' : World) : Prop := e = .returned (.tuple #[.int .i64 (Ar.val n), .bool (Ar.ok n)]) ∧ Below w.heap.size w w'

theorem ok_in {n : Int} (h1 : -9223372036854775808 ≤ n) (h2 : n ≤ 9223372036854775807) : Ar.ok n = true ∧ Ar.val n = n :=
  ⟨decide_eq_true ⟨h1, h2⟩, if_pos ⟨h1, h2⟩⟩
theorem ok_out {n : Int} (h : n < -9223372036854775808 ∨ 9223372036854775807 < n) : Ar.ok n = false ∧ Ar.val n = 0 := by
  have : ¬ Ar.Fits n := by unfold Ar.Fits; omega
  exact ⟨decide_eq_false this, if_neg this⟩
end Go.Proofs.YtjchecjonkmhgaaDoor
end
section
namespace Go.Proofs.YtjchecjonkmhgaaDoor
open Go.RowKit

set_option maxHeartbeats 400000 in
theorem by_low (l c : Int) (w : World) (l0 : 0 ≤ l) (l1 : l < 18446744073709551616) (c0 : 1 ≤ c) (c1 : c < 9223372036854775808) :
    Calls Tryd.prog 88 #[.agg #[.int .u64 0, .int .u64 l], .int .u64 c] w fun e w' =>
      e = .returned (.tuple #[.agg #[.int .u64 0, .int .u64 (l / c)], .int .u64 (l % c)]) ∧ Below w.heap.size w w' := by
  go_enter Tryd.func88, Tryd.ntmps88
  go_wp2
  go_region
  all_goals go_wp2
  all_goals exact bodyPost_ret (v := .tuple #[.agg #[.int .u64 0, .int .u64 (l / c)], .int .u64 (l % c)]) (by simp [results, Tryd.results88, go_sem]) rfl ⟨rfl, by repeat (first | exact Below.refl _ _ | refine Below.drew ?_ | refine Below.alloc ?_ (by simp) _)⟩

theorem inv_start' (h l c : Int) (c0 : 1 ≤ c) (l0 : 0 ≤ l) (l1 : l < 18446744073709551616) : Ar.Inv h l c ((63 : Int) + 1).toNat 0 (h % c) := Ar.inv_start h l c c0 l0 l1
set_option maxHeartbeats 800000 in
theorem by_high (h l c : Int) (w : World) (h0 : 1 ≤ h) (h1 : h < 18446744073709551616) (l0 : 0 ≤ l) (l1 : l < 18446744073709551616) (c0 : 1 ≤ c) (c1 : c < 9223372036854775808) :
    Calls Tryd.prog 88 #[.agg #[.int .u64 h, .int .u64 l], .int .u64 c] w fun e w' =>
      e = .returned (.tuple #[.agg #[.int .u64 ((h * 18446744073709551616 + l) / c / 18446744073709551616), .int .u64 ((h * 18446744073709551616 + l) / c % 18446744073709551616)], .int .u64 ((h * 18446744073709551616 + l) % c)]) ∧ Below w.heap.size w w' := by
  go_enter Tryd.func88, Tryd.ntmps88
  go_wp2
  go_region
  go_wp2
  have hs0 := inv_start' h l c c0 l0 l1
  go_loopw [5, 6] (fun s5 s6 wr => ∃ (i r Q : Int), -1 ≤ i ∧ i ≤ 63 ∧ s6 = .int .i64 i ∧ s5 = .int .u64 r ∧ Ar.Inv h l c (i + 1).toNat Q r ∧
      wr.cell? ⟨w.heap.size, 1, none⟩ = some (.int .u64 l) ∧ wr.cell? ⟨w.heap.size + 1, 0, none⟩ = some (.int .u64 (h / c)) ∧ wr.cell? ⟨w.heap.size + 1, 1, none⟩ = some (.int .u64 (Q * 2 ^ (i + 1).toNat)) ∧
      wr.frozen? ⟨w.heap.size + 1, 0, none⟩ = false ∧ wr.frozen? ⟨w.heap.size + 1, 1, none⟩ = false ∧ w.heap.size + 1 < wr.heap.size ∧ Below w.heap.size w wr) (fun _ s6 _ => (intOf s6 + 1).toNat)
  case atStart => exact ⟨63, h % c, 0, by omega, by omega, rfl, rfl, hs0, by simp [go_sem], by simp [go_sem], by simp [go_sem], by simp [go_sem], by simp [go_sem], by simp, by repeat (first | exact Below.refl _ _ | refine Below.drew ?_ | refine Below.alloc ?_ (by simp) _)⟩
  case round =>
    obtain ⟨i, r, Q, i1, i2, rfl, rfl, HI, f1, f2, f3, f4, f5, f6, hb⟩ := hrel
    clear hs0
    by_cases hi : 0 ≤ i
    · obtain ⟨k, rfl⟩ := Int.eq_ofNat_of_zero_le hi
      obtain ⟨q0, q1, q2, q3, q4, q5, q6⟩ := Ar.inv_bits h l c k Q r (by omega) HI
      obtain ⟨s1, s2⟩ := Ar.inv_step h l c k Q r (by omega) HI
      obtain ⟨_, r0, r1, _, _⟩ := id HI
      have b0 : 0 ≤ l / 2 ^ k := Int.ediv_nonneg l0 (by omega)
      have b1 : l / 2 ^ k < 18446744073709551616 := Int.lt_of_le_of_lt (Int.ediv_le_self _ l0) l1
      have e1 := Lib.u64_and1 (l / 2 ^ k) b0 b1
      have e2 := u64_join 1 (r * 2) (l / 2 ^ k % 2) (by omega) (by omega) (by omega) (by omega) (by omega) (by omega)
      have e3 := u64_join (k + 1) (Q * 2 ^ (k + 1)) (2 ^ k) q0 (by omega) q2 (by omega) q4 (by omega)
      have f3' : wr.cell? ⟨w.heap.size + 1, 1, none⟩ = some (.int .u64 (Q * 2 ^ (k + 1))) := f3
      obtain ⟨bit, hbit⟩ : ∃ bit, bit = l / 2 ^ k % 2 := ⟨_, rfl⟩
      have t0 : 0 ≤ bit := by omega
      have t1 : bit ≤ 1 := by omega
      rw [← hbit] at e1 e2 s1 s2
      clear HI f3 hbit
      have t2 : (0 : Int) ≤ 2 ^ k := by omega
      have t3 : (2 : Int) ^ k < 18446744073709551616 := by omega
      generalize Q * 2 ^ (k + 1) = q at *
      by_cases hc : c ≤ r * 2 + bit
      · have S1 := Lib.hid (s1 (by omega))
        have Q6 := Lib.hid q6
        clear s1 s2 q2 q5 q6
        have hk : ((k : Int) - 1 + 1).toNat = k := by omega
        have HK := Lib.hid hk
        clear hk
        go_wp2
        go_region
        go_wp2
        have hk := HK.out
        exact ⟨⟨(k : Int) - 1, 2 * r + bit - c, 2 * Q + 1, by omega, by omega, rfl, by rw [show r * 2 + bit - c = 2 * r + bit - c by omega], by rw [hk]; exact S1.out, by simp [go_sem, f1], by simp [go_sem, f2], by rw [hk, Q6.out]; simp [go_sem, f3'],
          by simp [go_sem, f4], by simp [go_sem, f5], by simp [go_sem, f6], (hb.setCell (by simp) _).drew⟩, by simp [intOf]⟩
      · have S2 := Lib.hid (s2 (by omega))
        have Q5 := Lib.hid q5
        have hk : ((k : Int) - 1 + 1).toNat = k := by omega
        have HK := Lib.hid hk
        clear s1 s2 q2 q5 q6 e3 hk
        go_wp2
        have hk := HK.out
        exact ⟨⟨(k : Int) - 1, 2 * r + bit, 2 * Q, by omega, by omega, rfl, by rw [show r * 2 + bit = 2 * r + bit by omega], by rw [hk]; exact S2.out, f1, f2, by rw [hk, Q5.out]; exact f3', f4, f5, f6, hb⟩, by simp [intOf]⟩
    · obtain rfl : i = -1 := by omega
      have E := Lib.hid (Ar.inv_end h l c Q r c0 HI)
      have f3' : wr.cell? ⟨w.heap.size + 1, 1, none⟩ = some (.int .u64 Q) := by simpa using f3
      clear f3 HI
      go_wp2
      exact bodyPost_ret (v := .tuple #[.agg #[.int .u64 ((h * 18446744073709551616 + l) / c / 18446744073709551616), .int .u64 ((h * 18446744073709551616 + l) / c % 18446744073709551616)], .int .u64 ((h * 18446744073709551616 + l) % c)])
        (by simp [results, Tryd.results88, go_sem, f2, f3', E.out.1, E.out.2.1, E.out.2.2]) rfl ⟨rfl, (hb.setCell (by simp) _).setCell (by simp) _⟩

/-- Division by a number that is from 1 on and below 2^63. -/
theorem by_c (h l c : Int) (w : World) (h0 : 0 ≤ h) (h1 : h < 18446744073709551616) (l0 : 0 ≤ l) (l1 : l < 18446744073709551616) (c0 : 1 ≤ c) (c1 : c < 9223372036854775808) :
    Calls Tryd.prog 88 #[.agg #[.int .u64 h, .int .u64 l], .int .u64 c] w fun e w' =>
      e = .returned (.tuple #[.agg #[.int .u64 ((h * 18446744073709551616 + l) / c / 18446744073709551616), .int .u64 ((h * 18446744073709551616 + l) / c % 18446744073709551616)], .int .u64 ((h * 18446744073709551616 + l) % c)]) ∧ Below w.heap.size w w' := by
  by_cases hh : 1 ≤ h
  · exact by_high h l c w hh h1 l0 l1 c0 c1
  · obtain rfl : h = 0 := by omega
    have d0 : 0 ≤ l / c := Int.ediv_nonneg l0 (by omega)
    have d1 : l / c < 18446744073709551616 := Int.lt_of_le_of_lt (Int.ediv_le_self _ l0) l1
    have := by_low l c w l0 l1 c0 c1
    rwa [show (0 : Int) * 18446744073709551616 + l = l by omega, show l / c / 18446744073709551616 = 0 by omega, show l / c % 18446744073709551616 = l / c by omega]
end Go.Proofs.YtjchecjonkmhgaaDoor
end
section
namespace Go.Proofs.YtjchecjonkmhgaaDoor
open Go.RowKit

theorem signs2_is (a b : Int) (neg : Bool) (h : sgn2 a b = neg) (x : Nat) (w : World) (hx : x < w.heap.size) (h0 : w.cell? ⟨x, 0, none⟩ = some (.int .i64 a)) (h1 : w.cell? ⟨x, 1, none⟩ = some (.int .i64 b)) :
    Calls Tryd.prog 46 #[.slice (some ⟨x, 0, none⟩) 2 2] w (SignRes neg w) := by
  subst h; exact signs2_c a b x w hx h0 h1
/-- Division of a product's words. -/
theorem by_is (P c M Q R : Int) (w : World) (hM : P = M) (hQ : M / c = Q ∧ M % c = R) (p0 : 0 ≤ P) (p1 : P ≤ 85070591730234615865843651857942052864) (c0 : 1 ≤ c) (c1 : c < 9223372036854775808) :
    Calls Tryd.prog 88 #[.agg #[.int .u64 (P / 18446744073709551616), .int .u64 (P % 18446744073709551616)], .int .u64 c] w fun e w' =>
      e = .returned (.tuple #[.agg #[.int .u64 (Q / 18446744073709551616), .int .u64 (Q % 18446744073709551616)], .int .u64 R]) ∧ Below w.heap.size w w' := by
  subst hM
  obtain ⟨rfl, rfl⟩ := hQ
  have := by_c (P / 18446744073709551616) (P % 18446744073709551616) c w (by omega) (by omega) (by omega) (by omega) c0 c1
  rwa [Ar.words] at this
theorem plus1 (Q : Int) (w : World) (q0 : 0 ≤ Q) (q1 : Q ≤ 85070591730234615865843651857942052864) :
    Calls Tryd.prog 43 #[.agg #[.int .u64 (Q / 18446744073709551616), .int .u64 (Q % 18446744073709551616)], .int .u64 1] w fun e w' =>
      e = .returned (.agg #[.int .u64 ((Q + 1) / 18446744073709551616), .int .u64 ((Q + 1) % 18446744073709551616)]) ∧ Below w.heap.size w w' := by
  have := plus_c (Q / 18446744073709551616) (Q % 18446744073709551616) 1 w (by omega) (by omega) (by omega) (by omega) (by omega) (by omega)
  rwa [show Q / 18446744073709551616 + (Q % 18446744073709551616 + 1) / 18446744073709551616 = (Q + 1) / 18446744073709551616 by omega, show (Q % 18446744073709551616 + 1) % 18446744073709551616 = (Q + 1) % 18446744073709551616 by omega] at this
theorem give_is (neg : Bool) (Q n : Int) (p : Nat) (w : World) (hp : p < w.heap.size) (hc : w.cell? ⟨p, 0, none⟩ = some (.bool neg)) (q0 : 0 ≤ Q) (q1 : Q ≤ 85070591730234615865843651857942052865) (hn : Ar.sg neg Q = n) (V : Int) (o : Bool) (hv : Ar.val n = V ∧ Ar.ok n = o) :
    Calls Tryd.prog 62 #[.agg #[.int .u64 (Q / 18446744073709551616), .int .u64 (Q % 18446744073709551616)], .pointer (some ⟨p, 0, none⟩)] w fun e w' =>
      e = .returned (.tuple #[.int .i64 V, .bool o]) ∧ Below w.heap.size w w' := by
  obtain ⟨rfl, rfl⟩ := hv
  subst hn
  have := give_c neg (Q / 18446744073709551616) (Q % 18446744073709551616) p w hp hc (by omega) (by omega) (by omega) (by omega)
  rwa [Ar.words] at this

/-- What MulDiv answers. -/
def Quot (P c : Int) (w : World) (e : Ending) (w' : World) : Prop :=
  (if Ar.ok (P / c) then e = .returned (.tuple #[.int .i64 (P / c), .int .i64 (P % c), .bool true]) else e = .returned (.tuple #[.int .i64 0, .int .i64 0, .bool false])) ∧ Below w.heap.size w w'
theorem ret_iib {j k : IntKind} {a b c d : Int} {x y : Bool} (h : a = b) (h' : c = d) (h'' : x = y) : Ending.returned (.tuple #[.int j a, .int k c, .bool x]) = .returned (.tuple #[.int j b, .int k d, .bool y]) := by rw [h, h', h'']

set_option maxHeartbeats 800000 in
theorem muldiv_0 (a b c : Int) (w : World) (hc : c ≤ 0) :
    Calls Tryd.prog 79 #[.int .i64 a, .int .i64 b, .int .i64 c] w fun e w' => e = .returned (.tuple #[.int .i64 0, .int .i64 0, .bool false]) ∧ w = w' := by
  go_enter Tryd.func79, Tryd.ntmps79
  go_wp2
  go_ret3
  exact ⟨rfl, rfl⟩

set_option maxRecDepth 100000 in
set_option maxHeartbeats 1600000 in
theorem muldiv_pos_true (a b c M Q R : Int) (w : World) (a1 : -9223372036854775808 ≤ a) (a2 : a ≤ 9223372036854775807) (b1 : -9223372036854775808 ≤ b) (b2 : b ≤ 9223372036854775807) (c1 : 1 ≤ c) (c2 : c < 9223372036854775808)
    (ma : 0 ≤ Ar.mag a ∧ Ar.mag a ≤ 9223372036854775808) (mb : 0 ≤ Ar.mag b ∧ Ar.mag b ≤ 9223372036854775808) (pd : 0 ≤ Ar.mag a * Ar.mag b ∧ Ar.mag a * Ar.mag b ≤ 85070591730234615865843651857942052864)
    (hM : Hid (Ar.mag a * Ar.mag b = M)) (q0 : 0 ≤ Q) (q1 : Q ≤ 85070591730234615865843651857942052864) (_r0 : 0 ≤ R) (_r1 : R < c)
    (hn : Hid (sgn2 a b = false)) (hQ : Hid (M / c = Q ∧ M % c = R)) (hv : Hid (Ar.val (Ar.sg false Q) = (Ar.sg false Q) ∧ Ar.ok (Ar.sg false Q) = true)) :
    Calls Tryd.prog 79 #[.int .i64 a, .int .i64 b, .int .i64 c] w fun e w' => e = .returned (.tuple #[.int .i64 (Ar.sg false Q), .int .i64 R, .bool true]) ∧ Below w.heap.size w w' := by
  go_enter Tryd.func79, Tryd.ntmps79
  go_wp2_with fail
  refine (signs2_is a b false hn.out w.heap.size _ (by simp) (by simp [go_sem]) (by simp [go_sem])).mono ?_
  rintro e w1 ⟨rfl, hb1, hc1, hz1⟩
  simp at hc1 hz1
  go_wp2_with fail
  refine (magnitude_c a _ a1 a2).mono ?_
  rintro e w' ⟨rfl, rfl⟩
  go_wp2_with fail
  refine (magnitude_c b _ b1 b2).mono ?_
  rintro e w' ⟨rfl, rfl⟩
  go_wp2_with fail
  refine (product_c (Ar.mag a) (Ar.mag b) _ (by omega) (by omega) (by omega) (by omega)).mono ?_
  rintro e w2 ⟨rfl, hb2⟩
  have hc2 : w2.cell? ⟨w.heap.size + 1, 0, none⟩ = some (.bool false) := by rw [hb2.cell (by simpa using hz1)]; exact hc1
  have hz2 := hb2.size
  have hs1 := hb1.size
  simp at hs1
  have B2 : Below w.heap.size w w2 := (((Below.refl _ _).alloc (Nat.le_refl _) _).trans (hb1.mono (by simp))).trans (hb2.mono (by omega))
  go_wp2_with fail
  refine (by_is (Ar.mag a * Ar.mag b) c M Q R _ hM.out hQ.out pd.1 pd.2 c1 c2).mono ?_
  rintro e w3 ⟨rfl, hb3⟩
  have hc3 : w3.cell? ⟨w.heap.size + 1, 0, none⟩ = some (.bool false) := by rw [hb3.cell (by simp; omega)]; exact hc2
  have hz3 := hb3.size
  have B3 : Below w.heap.size w w3 := B2.trans (hb3.mono (by omega))
  clear hc1 hc2 hb1 hb2 hb3 B2
  go_wp2_with fail
  refine (give_is false Q (Ar.sg false Q) (w.heap.size + 1) _ (by simp; omega) (by rw [World.cell?_alloc_past _ _ _ (by omega)]; exact hc3) q0 (by omega) rfl (Ar.sg false Q) true hv.out).mono ?_
  rintro e w4 ⟨rfl, hb4⟩
  go_wp2_with fail
  go_ret3
  exact ⟨rfl, (B3.alloc (by omega) _).trans (hb4.mono (by simp; omega))⟩

set_option maxRecDepth 100000 in
set_option maxHeartbeats 1600000 in
theorem muldiv_neg0_true (a b c M Q R : Int) (w : World) (a1 : -9223372036854775808 ≤ a) (a2 : a ≤ 9223372036854775807) (b1 : -9223372036854775808 ≤ b) (b2 : b ≤ 9223372036854775807) (c1 : 1 ≤ c) (c2 : c < 9223372036854775808)
    (ma : 0 ≤ Ar.mag a ∧ Ar.mag a ≤ 9223372036854775808) (mb : 0 ≤ Ar.mag b ∧ Ar.mag b ≤ 9223372036854775808) (pd : 0 ≤ Ar.mag a * Ar.mag b ∧ Ar.mag a * Ar.mag b ≤ 85070591730234615865843651857942052864)
    (hM : Hid (Ar.mag a * Ar.mag b = M)) (q0 : 0 ≤ Q) (q1 : Q ≤ 85070591730234615865843651857942052864) (_r0 : 0 ≤ R) (_r1 : R < c)
    (hn : Hid (sgn2 a b = true)) (hQ : Hid (M / c = Q ∧ M % c = 0)) (hv : Hid (Ar.val (Ar.sg true Q) = (Ar.sg true Q) ∧ Ar.ok (Ar.sg true Q) = true)) :
    Calls Tryd.prog 79 #[.int .i64 a, .int .i64 b, .int .i64 c] w fun e w' => e = .returned (.tuple #[.int .i64 (Ar.sg true Q), .int .i64 0, .bool true]) ∧ Below w.heap.size w w' := by
  go_enter Tryd.func79, Tryd.ntmps79
  go_wp2_with fail
  refine (signs2_is a b true hn.out w.heap.size _ (by simp) (by simp [go_sem]) (by simp [go_sem])).mono ?_
  rintro e w1 ⟨rfl, hb1, hc1, hz1⟩
  simp at hc1 hz1
  go_wp2_with fail
  refine (magnitude_c a _ a1 a2).mono ?_
  rintro e w' ⟨rfl, rfl⟩
  go_wp2_with fail
  refine (magnitude_c b _ b1 b2).mono ?_
  rintro e w' ⟨rfl, rfl⟩
  go_wp2_with fail
  refine (product_c (Ar.mag a) (Ar.mag b) _ (by omega) (by omega) (by omega) (by omega)).mono ?_
  rintro e w2 ⟨rfl, hb2⟩
  have hc2 : w2.cell? ⟨w.heap.size + 1, 0, none⟩ = some (.bool true) := by rw [hb2.cell (by simpa using hz1)]; exact hc1
  have hz2 := hb2.size
  have hs1 := hb1.size
  simp at hs1
  have B2 : Below w.heap.size w w2 := (((Below.refl _ _).alloc (Nat.le_refl _) _).trans (hb1.mono (by simp))).trans (hb2.mono (by omega))
  go_wp2_with fail
  refine (by_is (Ar.mag a * Ar.mag b) c M Q 0 _ hM.out hQ.out pd.1 pd.2 c1 c2).mono ?_
  rintro e w3 ⟨rfl, hb3⟩
  have hc3 : w3.cell? ⟨w.heap.size + 1, 0, none⟩ = some (.bool true) := by rw [hb3.cell (by simp; omega)]; exact hc2
  have hz3 := hb3.size
  have B3 : Below w.heap.size w w3 := B2.trans (hb3.mono (by omega))
  clear hc1 hc2 hb1 hb2 hb3 B2
  go_wp2_with fail
  refine (give_is true Q (Ar.sg true Q) (w.heap.size + 1) _ (by simp; omega) (by rw [World.cell?_alloc_past _ _ _ (by omega)]; exact hc3) q0 (by omega) rfl (Ar.sg true Q) true hv.out).mono ?_
  rintro e w4 ⟨rfl, hb4⟩
  go_wp2_with fail
  go_ret3
  exact ⟨rfl, (B3.alloc (by omega) _).trans (hb4.mono (by simp; omega))⟩

set_option maxRecDepth 100000 in
set_option maxHeartbeats 1600000 in
theorem muldiv_neg1_true (a b c M Q R : Int) (w : World) (a1 : -9223372036854775808 ≤ a) (a2 : a ≤ 9223372036854775807) (b1 : -9223372036854775808 ≤ b) (b2 : b ≤ 9223372036854775807) (c1 : 1 ≤ c) (c2 : c < 9223372036854775808)
    (ma : 0 ≤ Ar.mag a ∧ Ar.mag a ≤ 9223372036854775808) (mb : 0 ≤ Ar.mag b ∧ Ar.mag b ≤ 9223372036854775808) (pd : 0 ≤ Ar.mag a * Ar.mag b ∧ Ar.mag a * Ar.mag b ≤ 85070591730234615865843651857942052864)
    (hM : Hid (Ar.mag a * Ar.mag b = M)) (q0 : 0 ≤ Q) (q1 : Q ≤ 85070591730234615865843651857942052864) (_r0 : 0 ≤ R) (_r1 : R < c) (_r2 : 0 < R)
    (hn : Hid (sgn2 a b = true)) (hQ : Hid (M / c = Q ∧ M % c = R)) (hv : Hid (Ar.val (Ar.sg true (Q + 1)) = (Ar.sg true (Q + 1)) ∧ Ar.ok (Ar.sg true (Q + 1)) = true)) :
    Calls Tryd.prog 79 #[.int .i64 a, .int .i64 b, .int .i64 c] w fun e w' => e = .returned (.tuple #[.int .i64 (Ar.sg true (Q + 1)), .int .i64 (c - R), .bool true]) ∧ Below w.heap.size w w' := by
  go_enter Tryd.func79, Tryd.ntmps79
  go_wp2_with fail
  refine (signs2_is a b true hn.out w.heap.size _ (by simp) (by simp [go_sem]) (by simp [go_sem])).mono ?_
  rintro e w1 ⟨rfl, hb1, hc1, hz1⟩
  simp at hc1 hz1
  go_wp2_with fail
  refine (magnitude_c a _ a1 a2).mono ?_
  rintro e w' ⟨rfl, rfl⟩
  go_wp2_with fail
  refine (magnitude_c b _ b1 b2).mono ?_
  rintro e w' ⟨rfl, rfl⟩
  go_wp2_with fail
  refine (product_c (Ar.mag a) (Ar.mag b) _ (by omega) (by omega) (by omega) (by omega)).mono ?_
  rintro e w2 ⟨rfl, hb2⟩
  have hc2 : w2.cell? ⟨w.heap.size + 1, 0, none⟩ = some (.bool true) := by rw [hb2.cell (by simpa using hz1)]; exact hc1
  have hz2 := hb2.size
  have hs1 := hb1.size
  simp at hs1
  have B2 : Below w.heap.size w w2 := (((Below.refl _ _).alloc (Nat.le_refl _) _).trans (hb1.mono (by simp))).trans (hb2.mono (by omega))
  go_wp2_with fail
  refine (by_is (Ar.mag a * Ar.mag b) c M Q R _ hM.out hQ.out pd.1 pd.2 c1 c2).mono ?_
  rintro e w3 ⟨rfl, hb3⟩
  have hc3 : w3.cell? ⟨w.heap.size + 1, 0, none⟩ = some (.bool true) := by rw [hb3.cell (by simp; omega)]; exact hc2
  have hz3 := hb3.size
  have B3 : Below w.heap.size w w3 := B2.trans (hb3.mono (by omega))
  clear hc1 hc2 hb1 hb2 hb3 B2
  go_wp2_with fail
  refine (plus1 Q _ q0 q1).mono ?_
  rintro e w4 ⟨rfl, hb4⟩
  have hz4 := hb4.size
  simp at hz4
  have hc4 : w4.cell? ⟨w.heap.size + 1, 0, none⟩ = some (.bool true) := by rw [hb4.cell (by simp; omega), World.cell?_alloc_past _ _ _ (by omega)]; exact hc3
  have g0 : w4.cell? ⟨w3.heap.size, 0, none⟩ = some (.int .u64 (Q / 18446744073709551616)) := by rw [hb4.cell (by simp)]; simp [go_sem]
  have g1 : w4.cell? ⟨w3.heap.size, 1, none⟩ = some (.int .u64 (Q % 18446744073709551616)) := by rw [hb4.cell (by simp)]; simp [go_sem]
  have g2 : w4.frozen? ⟨w3.heap.size, 0, none⟩ = false := by rw [hb4.frozen (by simp)]; simp [go_sem]
  have g3 : w4.frozen? ⟨w3.heap.size, 1, none⟩ = false := by rw [hb4.frozen (by simp)]; simp [go_sem]
  have B4 : Below w.heap.size w w4 := (B3.alloc (by omega) _).trans (hb4.mono (by simp; omega))
  clear hb4
  go_wp2_with fail
  refine (give_is true (Q + 1) (Ar.sg true (Q + 1)) (w.heap.size + 1) _ (by simp; omega) (by simp [go_sem, hc4]) (by omega) (by omega) rfl (Ar.sg true (Q + 1)) true hv.out).mono ?_
  rintro e w5 ⟨rfl, hb5⟩
  go_wp2_with fail
  go_ret3
  exact ⟨rfl, ((B4.setCell (by simp; omega) _).setCell (by simp; omega) _).trans (hb5.mono (by simp; omega))⟩

set_option maxRecDepth 100000 in
set_option maxHeartbeats 1600000 in
theorem muldiv_pos_false (a b c M Q R : Int) (w : World) (a1 : -9223372036854775808 ≤ a) (a2 : a ≤ 9223372036854775807) (b1 : -9223372036854775808 ≤ b) (b2 : b ≤ 9223372036854775807) (c1 : 1 ≤ c) (c2 : c < 9223372036854775808)
    (ma : 0 ≤ Ar.mag a ∧ Ar.mag a ≤ 9223372036854775808) (mb : 0 ≤ Ar.mag b ∧ Ar.mag b ≤ 9223372036854775808) (pd : 0 ≤ Ar.mag a * Ar.mag b ∧ Ar.mag a * Ar.mag b ≤ 85070591730234615865843651857942052864)
    (hM : Hid (Ar.mag a * Ar.mag b = M)) (q0 : 0 ≤ Q) (q1 : Q ≤ 85070591730234615865843651857942052864) (_r0 : 0 ≤ R) (_r1 : R < c)
    (hn : Hid (sgn2 a b = false)) (hQ : Hid (M / c = Q ∧ M % c = R)) (hv : Hid (Ar.val (Ar.sg false Q) = 0 ∧ Ar.ok (Ar.sg false Q) = false)) :
    Calls Tryd.prog 79 #[.int .i64 a, .int .i64 b, .int .i64 c] w fun e w' => e = .returned (.tuple #[.int .i64 0, .int .i64 0, .bool false]) ∧ Below w.heap.size w w' := by
  go_enter Tryd.func79, Tryd.ntmps79
  go_wp2_with fail
  refine (signs2_is a b false hn.out w.heap.size _ (by simp) (by simp [go_sem]) (by simp [go_sem])).mono ?_
  rintro e w1 ⟨rfl, hb1, hc1, hz1⟩
  simp at hc1 hz1
  go_wp2_with fail
  refine (magnitude_c a _ a1 a2).mono ?_
  rintro e w' ⟨rfl, rfl⟩
  go_wp2_with fail
  refine (magnitude_c b _ b1 b2).mono ?_
  rintro e w' ⟨rfl, rfl⟩
  go_wp2_with fail
  refine (product_c (Ar.mag a) (Ar.mag b) _ (by omega) (by omega) (by omega) (by omega)).mono ?_
  rintro e w2 ⟨rfl, hb2⟩
  have hc2 : w2.cell? ⟨w.heap.size + 1, 0, none⟩ = some (.bool false) := by rw [hb2.cell (by simpa using hz1)]; exact hc1
  have hz2 := hb2.size
  have hs1 := hb1.size
  simp at hs1
  have B2 : Below w.heap.size w w2 := (((Below.refl _ _).alloc (Nat.le_refl _) _).trans (hb1.mono (by simp))).trans (hb2.mono (by omega))
  go_wp2_with fail
  refine (by_is (Ar.mag a * Ar.mag b) c M Q R _ hM.out hQ.out pd.1 pd.2 c1 c2).mono ?_
  rintro e w3 ⟨rfl, hb3⟩
  have hc3 : w3.cell? ⟨w.heap.size + 1, 0, none⟩ = some (.bool false) := by rw [hb3.cell (by simp; omega)]; exact hc2
  have hz3 := hb3.size
  have B3 : Below w.heap.size w w3 := B2.trans (hb3.mono (by omega))
  clear hc1 hc2 hb1 hb2 hb3 B2
  go_wp2_with fail
  refine (give_is false Q (Ar.sg false Q) (w.heap.size + 1) _ (by simp; omega) (by rw [World.cell?_alloc_past _ _ _ (by omega)]; exact hc3) q0 (by omega) rfl 0 false hv.out).mono ?_
  rintro e w4 ⟨rfl, hb4⟩
  go_wp2_with fail
  go_ret3
  exact ⟨rfl, (B3.alloc (by omega) _).trans (hb4.mono (by simp; omega))⟩

set_option maxRecDepth 100000 in
set_option maxHeartbeats 1600000 in
theorem muldiv_neg0_false (a b c M Q R : Int) (w : World) (a1 : -9223372036854775808 ≤ a) (a2 : a ≤ 9223372036854775807) (b1 : -9223372036854775808 ≤ b) (b2 : b ≤ 9223372036854775807) (c1 : 1 ≤ c) (c2 : c < 9223372036854775808)
    (ma : 0 ≤ Ar.mag a ∧ Ar.mag a ≤ 9223372036854775808) (mb : 0 ≤ Ar.mag b ∧ Ar.mag b ≤ 9223372036854775808) (pd : 0 ≤ Ar.mag a * Ar.mag b ∧ Ar.mag a * Ar.mag b ≤ 85070591730234615865843651857942052864)
    (hM : Hid (Ar.mag a * Ar.mag b = M)) (q0 : 0 ≤ Q) (q1 : Q ≤ 85070591730234615865843651857942052864) (_r0 : 0 ≤ R) (_r1 : R < c)
    (hn : Hid (sgn2 a b = true)) (hQ : Hid (M / c = Q ∧ M % c = 0)) (hv : Hid (Ar.val (Ar.sg true Q) = 0 ∧ Ar.ok (Ar.sg true Q) = false)) :
    Calls Tryd.prog 79 #[.int .i64 a, .int .i64 b, .int .i64 c] w fun e w' => e = .returned (.tuple #[.int .i64 0, .int .i64 0, .bool false]) ∧ Below w.heap.size w w' := by
  go_enter Tryd.func79, Tryd.ntmps79
  go_wp2_with fail
  refine (signs2_is a b true hn.out w.heap.size _ (by simp) (by simp [go_sem]) (by simp [go_sem])).mono ?_
  rintro e w1 ⟨rfl, hb1, hc1, hz1⟩
  simp at hc1 hz1
  go_wp2_with fail
  refine (magnitude_c a _ a1 a2).mono ?_
  rintro e w' ⟨rfl, rfl⟩
  go_wp2_with fail
  refine (magnitude_c b _ b1 b2).mono ?_
  rintro e w' ⟨rfl, rfl⟩
  go_wp2_with fail
  refine (product_c (Ar.mag a) (Ar.mag b) _ (by omega) (by omega) (by omega) (by omega)).mono ?_
  rintro e w2 ⟨rfl, hb2⟩
  have hc2 : w2.cell? ⟨w.heap.size + 1, 0, none⟩ = some (.bool true) := by rw [hb2.cell (by simpa using hz1)]; exact hc1
  have hz2 := hb2.size
  have hs1 := hb1.size
  simp at hs1
  have B2 : Below w.heap.size w w2 := (((Below.refl _ _).alloc (Nat.le_refl _) _).trans (hb1.mono (by simp))).trans (hb2.mono (by omega))
  go_wp2_with fail
  refine (by_is (Ar.mag a * Ar.mag b) c M Q 0 _ hM.out hQ.out pd.1 pd.2 c1 c2).mono ?_
  rintro e w3 ⟨rfl, hb3⟩
  have hc3 : w3.cell? ⟨w.heap.size + 1, 0, none⟩ = some (.bool true) := by rw [hb3.cell (by simp; omega)]; exact hc2
  have hz3 := hb3.size
  have B3 : Below w.heap.size w w3 := B2.trans (hb3.mono (by omega))
  clear hc1 hc2 hb1 hb2 hb3 B2
  go_wp2_with fail
  refine (give_is true Q (Ar.sg true Q) (w.heap.size + 1) _ (by simp; omega) (by rw [World.cell?_alloc_past _ _ _ (by omega)]; exact hc3) q0 (by omega) rfl 0 false hv.out).mono ?_
  rintro e w4 ⟨rfl, hb4⟩
  go_wp2_with fail
  go_ret3
  exact ⟨rfl, (B3.alloc (by omega) _).trans (hb4.mono (by simp; omega))⟩

set_option maxRecDepth 100000 in
set_option maxHeartbeats 1600000 in
theorem muldiv_neg1_false (a b c M Q R : Int) (w : World) (a1 : -9223372036854775808 ≤ a) (a2 : a ≤ 9223372036854775807) (b1 : -9223372036854775808 ≤ b) (b2 : b ≤ 9223372036854775807) (c1 : 1 ≤ c) (c2 : c < 9223372036854775808)
    (ma : 0 ≤ Ar.mag a ∧ Ar.mag a ≤ 9223372036854775808) (mb : 0 ≤ Ar.mag b ∧ Ar.mag b ≤ 9223372036854775808) (pd : 0 ≤ Ar.mag a * Ar.mag b ∧ Ar.mag a * Ar.mag b ≤ 85070591730234615865843651857942052864)
    (hM : Hid (Ar.mag a * Ar.mag b = M)) (q0 : 0 ≤ Q) (q1 : Q ≤ 85070591730234615865843651857942052864) (_r0 : 0 ≤ R) (_r1 : R < c) (_r2 : 0 < R)
    (hn : Hid (sgn2 a b = true)) (hQ : Hid (M / c = Q ∧ M % c = R)) (hv : Hid (Ar.val (Ar.sg true (Q + 1)) = 0 ∧ Ar.ok (Ar.sg true (Q + 1)) = false)) :
    Calls Tryd.prog 79 #[.int .i64 a, .int .i64 b, .int .i64 c] w fun e w' => e = .returned (.tuple #[.int .i64 0, .int .i64 0, .bool false]) ∧ Below w.heap.size w w' := by
  go_enter Tryd.func79, Tryd.ntmps79
  go_wp2_with fail
  refine (signs2_is a b true hn.out w.heap.size _ (by simp) (by simp [go_sem]) (by simp [go_sem])).mono ?_
  rintro e w1 ⟨rfl, hb1, hc1, hz1⟩
  simp at hc1 hz1
  go_wp2_with fail
  refine (magnitude_c a _ a1 a2).mono ?_
  rintro e w' ⟨rfl, rfl⟩
  go_wp2_with fail
  refine (magnitude_c b _ b1 b2).mono ?_
  rintro e w' ⟨rfl, rfl⟩
  go_wp2_with fail
  refine (product_c (Ar.mag a) (Ar.mag b) _ (by omega) (by omega) (by omega) (by omega)).mono ?_
  rintro e w2 ⟨rfl, hb2⟩
  have hc2 : w2.cell? ⟨w.heap.size + 1, 0, none⟩ = some (.bool true) := by rw [hb2.cell (by simpa using hz1)]; exact hc1
  have hz2 := hb2.size
  have hs1 := hb1.size
  simp at hs1
  have B2 : Below w.heap.size w w2 := (((Below.refl _ _).alloc (Nat.le_refl _) _).trans (hb1.mono (by simp))).trans (hb2.mono (by omega))
  go_wp2_with fail
  refine (by_is (Ar.mag a * Ar.mag b) c M Q R _ hM.out hQ.out pd.1 pd.2 c1 c2).mono ?_
  rintro e w3 ⟨rfl, hb3⟩
  have hc3 : w3.cell? ⟨w.heap.size + 1, 0, none⟩ = some (.bool true) := by rw [hb3.cell (by simp; omega)]; exact hc2
  have hz3 := hb3.size
  have B3 : Below w.heap.size w w3 := B2.trans (hb3.mono (by omega))
  clear hc1 hc2 hb1 hb2 hb3 B2
  go_wp2_with fail
  refine (plus1 Q _ q0 q1).mono ?_
  rintro e w4 ⟨rfl, hb4⟩
  have hz4 := hb4.size
  simp at hz4
  have hc4 : w4.cell? ⟨w.heap.size + 1, 0, none⟩ = some (.bool true) := by rw [hb4.cell (by simp; omega), World.cell?_alloc_past _ _ _ (by omega)]; exact hc3
  have g0 : w4.cell? ⟨w3.heap.size, 0, none⟩ = some (.int .u64 (Q / 18446744073709551616)) := by rw [hb4.cell (by simp)]; simp [go_sem]
  have g1 : w4.cell? ⟨w3.heap.size, 1, none⟩ = some (.int .u64 (Q % 18446744073709551616)) := by rw [hb4.cell (by simp)]; simp [go_sem]
  have g2 : w4.frozen? ⟨w3.heap.size, 0, none⟩ = false := by rw [hb4.frozen (by simp)]; simp [go_sem]
  have g3 : w4.frozen? ⟨w3.heap.size, 1, none⟩ = false := by rw [hb4.frozen (by simp)]; simp [go_sem]
  have B4 : Below w.heap.size w w4 := (B3.alloc (by omega) _).trans (hb4.mono (by simp; omega))
  clear hb4
  go_wp2_with fail
  refine (give_is true (Q + 1) (Ar.sg true (Q + 1)) (w.heap.size + 1) _ (by simp; omega) (by simp [go_sem, hc4]) (by omega) (by omega) rfl 0 false hv.out).mono ?_
  rintro e w5 ⟨rfl, hb5⟩
  go_wp2_with fail
  go_ret3
  exact ⟨rfl, ((B4.setCell (by simp; omega) _).setCell (by simp; omega) _).trans (hb5.mono (by simp; omega))⟩

end Go.Proofs.YtjchecjonkmhgaaDoor
end
section
namespace Go.Proofs.YtjchecjonkmhgaaDoor
open Go.RowKit

theorem ok_or (n : Int) : (Ar.val n = n ∧ Ar.ok n = true) ∨ (Ar.val n = 0 ∧ Ar.ok n = false) := by
  by_cases h : Ar.Fits n
  · exact Or.inl ⟨if_pos h, decide_eq_true h⟩
  · exact Or.inr ⟨if_neg h, decide_eq_false h⟩
/-- What MulDiv answers: the quotient, rounded down, and the rest, where the quotient fits. -/
theorem muldiv_c (a b c : Int) (w : World) (ha : I64 a) (hb : I64 b) (c1 : 1 ≤ c) (c2 : c < 9223372036854775808) :
    (Ar.ok (a * b / c) = true → Calls Tryd.prog 79 #[.int .i64 a, .int .i64 b, .int .i64 c] w fun e w' => e = .returned (.tuple #[.int .i64 (a * b / c), .int .i64 (a * b % c), .bool true]) ∧ Below w.heap.size w w') ∧
    (Ar.ok (a * b / c) = false → Calls Tryd.prog 79 #[.int .i64 a, .int .i64 b, .int .i64 c] w fun e w' => e = .returned (.tuple #[.int .i64 0, .int .i64 0, .bool false]) ∧ Below w.heap.size w w') := by
  obtain ⟨a1, a2⟩ := ha
  obtain ⟨b1, b2⟩ := hb
  have ma := Ar.mag_bd a a1 a2
  have mb := Ar.mag_bd b b1 b2
  have pd := Ar.prod_bd (Ar.mag a) (Ar.mag b) ma.1 ma.2 mb.1 mb.2
  have qd := Ar.quo_bd (Ar.mag a * Ar.mag b) c c1 pd.1
  have r0 := Int.emod_nonneg (Ar.mag a * Ar.mag b) (show c ≠ 0 by omega)
  have r1 := Int.emod_lt_of_pos (Ar.mag a * Ar.mag b) (show 0 < c by omega)
  have E := Ar.sg_mul a b
  cases hs : sgn2 a b
  · unfold sgn2 at hs
    rw [hs] at E
    simp only [Ar.sg, Bool.false_eq_true, if_false] at E
    rw [← E]
    refine ⟨fun h => ?_, fun h => ?_⟩
    · rcases ok_or (Ar.mag a * Ar.mag b / c) with hv | hv
      · exact muldiv_pos_true a b c _ _ _ w a1 a2 b1 b2 c1 c2 ma mb pd (Lib.hid rfl) qd.1 (by omega) r0 r1 (Lib.hid hs) (Lib.hid ⟨rfl, rfl⟩) (Lib.hid hv)
      · rw [hv.2] at h; cases h
    · rcases ok_or (Ar.mag a * Ar.mag b / c) with hv | hv
      · rw [hv.2] at h; cases h
      · exact muldiv_pos_false a b c _ _ _ w a1 a2 b1 b2 c1 c2 ma mb pd (Lib.hid rfl) qd.1 (by omega) r0 r1 (Lib.hid hs) (Lib.hid ⟨rfl, rfl⟩) (Lib.hid hv)
  · unfold sgn2 at hs
    rw [hs] at E
    simp only [Ar.sg, if_true] at E
    rw [← E]
    by_cases hr : Ar.mag a * Ar.mag b % c = 0
    · obtain ⟨f1, f2⟩ := Ar.floor_neg0 _ c c1 hr
      rw [f1, f2]
      refine ⟨fun h => ?_, fun h => ?_⟩
      · rcases ok_or (-(Ar.mag a * Ar.mag b / c)) with hv | hv
        · exact muldiv_neg0_true a b c _ _ 0 w a1 a2 b1 b2 c1 c2 ma mb pd (Lib.hid rfl) qd.1 (by omega) (by omega) (by omega) (Lib.hid hs) (Lib.hid ⟨rfl, hr⟩) (Lib.hid hv)
        · rw [hv.2] at h; cases h
      · rcases ok_or (-(Ar.mag a * Ar.mag b / c)) with hv | hv
        · rw [hv.2] at h; cases h
        · exact muldiv_neg0_false a b c _ _ 0 w a1 a2 b1 b2 c1 c2 ma mb pd (Lib.hid rfl) qd.1 (by omega) (by omega) (by omega) (Lib.hid hs) (Lib.hid ⟨rfl, hr⟩) (Lib.hid hv)
    · obtain ⟨f1, f2⟩ := Ar.floor_neg (Ar.mag a * Ar.mag b) c c1 (by omega)
      rw [f1, f2]
      refine ⟨fun h => ?_, fun h => ?_⟩
      · rcases ok_or (-(Ar.mag a * Ar.mag b / c + 1)) with hv | hv
        · exact muldiv_neg1_true a b c _ _ _ w a1 a2 b1 b2 c1 c2 ma mb pd (Lib.hid rfl) qd.1 (by omega) r0 r1 (by omega) (Lib.hid hs) (Lib.hid ⟨rfl, rfl⟩) (Lib.hid hv)
        · rw [hv.2] at h; cases h
      · rcases ok_or (-(Ar.mag a * Ar.mag b / c + 1)) with hv | hv
        · rw [hv.2] at h; cases h
        · exact muldiv_neg1_false a b c _ _ _ w a1 a2 b1 b2 c1 c2 ma mb pd (Lib.hid rfl) qd.1 (by omega) r0 r1 (by omega) (Lib.hid hs) (Lib.hid ⟨rfl, rfl⟩) (Lib.hid hv)

end Go.Proofs.YtjchecjonkmhgaaDoor
end
section
namespace Go.Proofs.YtjchecjonkmhgaaDoor
open Go.RowKit

theorem plus_is (D n : Int) (w : World) (q0 : 0 ≤ D) (q1 : D ≤ 170141183460469231731687303715884105727) (n0 : 0 ≤ n) (n1 : n ≤ 9223372036854775808) :
    Calls Tryd.prog 43 #[.agg #[.int .u64 (D / 18446744073709551616), .int .u64 (D % 18446744073709551616)], .int .u64 n] w fun e w' =>
      e = .returned (.agg #[.int .u64 ((D + n) / 18446744073709551616), .int .u64 ((D + n) % 18446744073709551616)]) ∧ Below w.heap.size w w' := by
  have := plus_c (D / 18446744073709551616) (D % 18446744073709551616) n w (by omega) (by omega) (by omega) (by omega) (by omega) (by omega)
  rwa [show D / 18446744073709551616 + (D % 18446744073709551616 + n) / 18446744073709551616 = (D + n) / 18446744073709551616 by omega, show (D % 18446744073709551616 + n) % 18446744073709551616 = (D + n) % 18446744073709551616 by omega] at this

/-- The two sums in memory. -/
structure Two (n : Nat) (U D : Int) (wr : World) : Prop where
  u0 : wr.cell? ⟨n, 0, none⟩ = some (.int .u64 (U / 18446744073709551616))
  u1 : wr.cell? ⟨n, 1, none⟩ = some (.int .u64 (U % 18446744073709551616))
  d0 : wr.cell? ⟨n + 1, 0, none⟩ = some (.int .u64 (D / 18446744073709551616))
  d1 : wr.cell? ⟨n + 1, 1, none⟩ = some (.int .u64 (D % 18446744073709551616))
  f0 : wr.frozen? ⟨n, 0, none⟩ = false
  f1 : wr.frozen? ⟨n, 1, none⟩ = false
  f2 : wr.frozen? ⟨n + 1, 0, none⟩ = false
  f3 : wr.frozen? ⟨n + 1, 1, none⟩ = false
  sz : n + 1 < wr.heap.size
theorem Two.later {n : Nat} {U D : Int} {w w' : World} (h : Two n U D w) (hb : Below w.heap.size w w') : Two n U D w' := by
  have := h.sz
  have := hb.size
  exact ⟨by rw [hb.cell (by simp; omega)]; exact h.u0, by rw [hb.cell (by simp; omega)]; exact h.u1, by rw [hb.cell (by simp; omega)]; exact h.d0, by rw [hb.cell (by simp; omega)]; exact h.d1,
    by rw [hb.frozen (by simp; omega)]; exact h.f0, by rw [hb.frozen (by simp; omega)]; exact h.f1, by rw [hb.frozen (by simp; omega)]; exact h.f2, by rw [hb.frozen (by simp; omega)]; exact h.f3, by omega⟩

theorem Two.drew {n : Nat} {U D : Int} {w : World} (h : Two n U D w) : Two n U D w.drew := ⟨h.u0, h.u1, h.d0, h.d1, h.f0, h.f1, h.f2, h.f3, h.sz⟩
theorem magnitude_is (x m : Int) (w : World) (b1 : -9223372036854775808 ≤ x) (b2 : x ≤ 9223372036854775807) (hm : Ar.mag x = m) :
    Calls Tryd.prog 44 #[.int .i64 x] w fun e w' => e = .returned (.int .u64 m) ∧ w = w' := by
  subst hm; exact magnitude_c x w b1 b2

end Go.Proofs.YtjchecjonkmhgaaDoor
end
section
namespace Go.Proofs.YtjchecjonkmhgaaDoor
open Go.RowKit

end Go.Proofs.YtjchecjonkmhgaaDoor
end
section
namespace Go.Proofs.YtjchecjonkmhgaaDoor
open Go.RowKit

theorem told_in {P : Program} {f : FuncId} {args : Array Value} {n m : Int} {w : World} (h : Calls P f args w (Told n w)) (hm : n = m) (h1 : -9223372036854775808 ≤ m) (h2 : m ≤ 9223372036854775807) :
    Calls P f args w fun e w' => e = .returned (.tuple #[.int .i64 m, .bool true]) ∧ Below w.heap.size w w' :=
  h.mono fun e w' ⟨he, hb⟩ => by subst hm; exact ⟨by rw [he, (ok_in h1 h2).1, (ok_in h1 h2).2], hb⟩
theorem told_out {P : Program} {f : FuncId} {args : Array Value} {n : Int} {w : World} (h : Calls P f args w (Told n w)) (hn : n < -9223372036854775808 ∨ 9223372036854775807 < n) :
    Calls P f args w fun e w' => e = .returned (.tuple #[.int .i64 0, .bool false]) ∧ Below w.heap.size w w' :=
  h.mono fun e w' ⟨he, hb⟩ => ⟨by rw [he, (ok_out hn).1, (ok_out hn).2], hb⟩
theorem muldiv_in (a b c q r : Int) (w : World) (ha : I64 a) (hb : I64 b) (c1 : 1 ≤ c) (c2 : c < 9223372036854775808) (hq : a * b / c = q) (hr : a * b % c = r) (q1 : -9223372036854775808 ≤ q) (q2 : q ≤ 9223372036854775807) :
    Calls Tryd.prog 79 #[.int .i64 a, .int .i64 b, .int .i64 c] w fun e w' => e = .returned (.tuple #[.int .i64 q, .int .i64 r, .bool true]) ∧ Below w.heap.size w w' := by
  subst hq hr; exact (muldiv_c a b c w ha hb c1 c2).1 (ok_in q1 q2).1
theorem muldiv_out (a b c : Int) (w : World) (ha : I64 a) (hb : I64 b) (c1 : 1 ≤ c) (c2 : c < 9223372036854775808) (hq : a * b / c < -9223372036854775808 ∨ 9223372036854775807 < a * b / c) :
    Calls Tryd.prog 79 #[.int .i64 a, .int .i64 b, .int .i64 c] w fun e w' => e = .returned (.tuple #[.int .i64 0, .int .i64 0, .bool false]) ∧ Below w.heap.size w w' :=
  (muldiv_c a b c w ha hb c1 c2).2 (ok_out hq).1
theorem i64_lit {n : Int} (h1 : -9223372036854775808 ≤ n) (h2 : n ≤ 9223372036854775807) : I64 n := ⟨h1, h2⟩

end Go.Proofs.YtjchecjonkmhgaaDoor
end
