/- Joined: ArWalks ArSigns ArOps. -/
import Derived.Test.YtnblilonjpfdnaaRows
import Derived.Test.YtnblilonjpfdnaaJaA
import Derived.WalkKit
import Derived.WalkSpells
import Derived.WalkLawsBesides
import Derived.Lib.Hide
import Derived.Lib.EndianBits
import Derived.Laws.BitsAllLaws
import Derived.Lib.SliceRun
section
namespace Go.Proofs.Ytnblilonjpfdnaa
open Go.RowKit

theorem ret_bool {a b : Bool} (h : a = b) : Ending.returned (.bool a) = .returned (.bool b) := by rw [h]
theorem ret_int {k : IntKind} {a b : Int} (h : a = b) : Ending.returned (.int k a) = .returned (.int k b) := by rw [h]
theorem ret_two {j k : IntKind} {a b c d : Int} (h : a = b) (h' : c = d) : Ending.returned (.tuple #[.int j a, .int k c]) = .returned (.tuple #[.int j b, .int k d]) := by rw [h, h']
theorem ret_ib {j : IntKind} {a b : Int} {c d : Bool} (h : a = b) (h' : c = d) : Ending.returned (.tuple #[.int j a, .bool c]) = .returned (.tuple #[.int j b, .bool d]) := by rw [h, h']
theorem ret_agg {j k : IntKind} {a b c d : Int} (h : a = b) (h' : c = d) : Ending.returned (.agg #[.int j a, .int k c]) = .returned (.agg #[.int j b, .int k d]) := by rw [h, h']

/-- The low half of a word. -/
theorem u64_half (x : Int) (h0 : 0 ≤ x) (h1 : x < 18446744073709551616) : bits .and .u64 x 4294967295 = x % 4294967296 := by
  obtain ⟨n, rfl⟩ := Int.eq_ofNat_of_zero_le h0
  have := u64_and_nat n 4294967295 (by omega) (by omega)
  rw [show ((4294967295 : Nat) : Int) = 4294967295 from rfl] at this
  rw [this, show n &&& 4294967295 = n % 4294967296 from Nat.and_two_pow_sub_one_eq_mod n 32]
  rfl
theorem u64_join (k : Nat) (x y : Int) (hx0 : 0 ≤ x) (hx : x < 18446744073709551616) (hm : x % 2 ^ k = 0) (hy0 : 0 ≤ y) (hy : y < 2 ^ k) (hs : y < 18446744073709551616) : bits .or .u64 x y = x + y := by
  obtain ⟨n, rfl⟩ := Int.eq_ofNat_of_zero_le hx0
  obtain ⟨m, rfl⟩ := Int.eq_ofNat_of_zero_le hy0
  rw [u64_or_nat n m (by omega) (by omega), nat_join k n m (by exact_mod_cast hm) (by exact_mod_cast hy)]
  rfl

set_option maxHeartbeats 400000 in
theorem magnitude_c (n : Int) (w : World) (b1 : -9223372036854775808 ≤ n) (b2 : n ≤ 9223372036854775807) :
    Calls Try.prog 76 #[.int .i64 n] w fun e w' => e = .returned (.int .u64 (Ar.mag n)) ∧ w = w' := by
  by_cases h : n < 0
  · have HM := Lib.hid (show Ar.mag n = -n by simp [Ar.mag, h])
    go_enter Try.func76, Try.ntmps76
    go_wp2
    go_ret
    exact ⟨ret_int (by rw [HM.out]; simp only [IntKind.wrap_u64]; omega), rfl⟩
  · have HM := Lib.hid (show Ar.mag n = n by simp [Ar.mag, h])
    go_enter Try.func76, Try.ntmps76
    go_wp2
    go_ret
    exact ⟨ret_int (by rw [HM.out]; try simp only [IntKind.wrap_u64]; omega), rfl⟩

theorem product_end (x y : Int) :
    bits .or .u64 (IntKind.u64.wrap (x * 4294967296)) (y % 4294967296) = x % 4294967296 * 4294967296 + y % 4294967296 := by
  rw [IntKind.wrap_u64, u64_join 32 _ _ (by omega) (by omega) (by omega) (by omega) (by omega) (by omega)]
  omega
set_option maxHeartbeats 400000 in
/-- A magnitude and a word more: the sum, where it fits. -/
theorem plus_c (h l n : Int) (w : World) (h0 : 0 ≤ h) (h1 : h < 18446744073709551615) (l0 : 0 ≤ l) (l1 : l < 18446744073709551616) (n0 : 0 ≤ n) (n1 : n < 18446744073709551616) :
    Calls Try.prog 75 #[.agg #[.int .u64 h, .int .u64 l], .int .u64 n] w fun e w' => e = .returned (.agg #[.int .u64 (h + (l + n) / 18446744073709551616), .int .u64 ((l + n) % 18446744073709551616)]) ∧ Below w.heap.size w w' := by
  by_cases hc : l + n < 18446744073709551616
  · have hc' : ¬ l + n < n := by omega
    go_enter Try.func75, Try.ntmps75
    go_wp2
    exact bodyPost_ret (v := .agg #[.int .u64 (h + (l + n) / 18446744073709551616), .int .u64 ((l + n) % 18446744073709551616)]) (by simp [results, Try.results75, go_sem]; omega) rfl ⟨rfl, ((Below.refl _ _).alloc (Nat.le_refl _) _).alloc (by simp) _⟩
  · have hw : IntKind.u64.wrap (l + n) = l + n - 18446744073709551616 := by rw [IntKind.wrap_u64]; omega
    have hc' : l + n - 18446744073709551616 < n := by omega
    go_enter Try.func75, Try.ntmps75
    go_wp2
    exact bodyPost_ret (v := .agg #[.int .u64 (h + (l + n) / 18446744073709551616), .int .u64 ((l + n) % 18446744073709551616)]) (by simp [results, Try.results75, go_sem]; omega) rfl ⟨rfl, ((Below.refl _ _).alloc (Nat.le_refl _) _).alloc (by simp) _⟩
set_option maxHeartbeats 400000 in
theorem less_c (h l h' l' : Int) (w : World) (h1 : h < 18446744073709551616) (l0 : 0 ≤ l) (l1 : l < 18446744073709551616) (h0' : 0 ≤ h') (l0' : 0 ≤ l') (l1' : l' < 18446744073709551616)
    (hle : h' * 18446744073709551616 + l' ≤ h * 18446744073709551616 + l) :
    Calls Try.prog 79 #[.agg #[.int .u64 h, .int .u64 l], .agg #[.int .u64 h', .int .u64 l']] w fun e w' =>
      e = .returned (.agg #[.int .u64 ((h * 18446744073709551616 + l - (h' * 18446744073709551616 + l')) / 18446744073709551616), .int .u64 ((h * 18446744073709551616 + l - (h' * 18446744073709551616 + l')) % 18446744073709551616)]) ∧ Below w.heap.size w w' := by
  by_cases hc : l < l'
  · have hw : IntKind.u64.wrap (l - l') = l - l' + 18446744073709551616 := by rw [IntKind.wrap_u64]; omega
    go_enter Try.func79, Try.ntmps79
    go_wp2
    exact bodyPost_ret (v := .agg #[.int .u64 ((h * 18446744073709551616 + l - (h' * 18446744073709551616 + l')) / 18446744073709551616), .int .u64 ((h * 18446744073709551616 + l - (h' * 18446744073709551616 + l')) % 18446744073709551616)]) (by simp [results, Try.results79, go_sem]; omega) rfl ⟨rfl, (((Below.refl _ _).alloc (Nat.le_refl _) _).alloc (by simp) _).alloc (by simp; omega) _⟩
  · go_enter Try.func79, Try.ntmps79
    go_wp2
    exact bodyPost_ret (v := .agg #[.int .u64 ((h * 18446744073709551616 + l - (h' * 18446744073709551616 + l')) / 18446744073709551616), .int .u64 ((h * 18446744073709551616 + l - (h' * 18446744073709551616 + l')) % 18446744073709551616)]) (by simp [results, Try.results79, go_sem]; omega) rfl ⟨rfl, (((Below.refl _ _).alloc (Nat.le_refl _) _).alloc (by simp) _).alloc (by simp; omega) _⟩
set_option maxHeartbeats 400000 in
theorem below_c (h l h' l' : Int) (w : World) (b : Bool) (l0 : 0 ≤ l) (l1 : l < 18446744073709551616) (l0' : 0 ≤ l') (l1' : l' < 18446744073709551616)
    (hb : b = decide (h * 18446744073709551616 + l < h' * 18446744073709551616 + l')) :
    Calls Try.prog 77 #[.agg #[.int .u64 h, .int .u64 l], .agg #[.int .u64 h', .int .u64 l']] w fun e w' => e = .returned (.bool b) ∧ Below w.heap.size w w' := by
  have HB := Lib.hid hb
  clear hb
  by_cases c1 : h < h'
  · go_enter Try.func77, Try.ntmps77
    go_wp2
    go_ret
    exact ⟨ret_bool (by rw [HB.out, decide_eq_true (by omega)]), ((Below.refl _ _).alloc (Nat.le_refl _) _).alloc (by simp) _⟩
  by_cases c2 : h = h'
  · subst c2
    by_cases c3 : l < l'
    · go_enter Try.func77, Try.ntmps77
      go_wp2
      go_ret
      exact ⟨ret_bool (by rw [HB.out, decide_eq_true (by omega)]), ((Below.refl _ _).alloc (Nat.le_refl _) _).alloc (by simp) _⟩
    · go_enter Try.func77, Try.ntmps77
      go_wp2
      go_ret
      exact ⟨ret_bool (by rw [HB.out, decide_eq_false (by omega)]), ((Below.refl _ _).alloc (Nat.le_refl _) _).alloc (by simp) _⟩
  · go_enter Try.func77, Try.ntmps77
    go_wp2
    go_ret
    exact ⟨ret_bool (by rw [HB.out, decide_eq_false (by omega)]), ((Below.refl _ _).alloc (Nat.le_refl _) _).alloc (by simp) _⟩
end Go.Proofs.Ytnblilonjpfdnaa
end
section
namespace Go.Proofs.Ytnblilonjpfdnaa
open Go.RowKit

theorem makeF : ∀ (fn : Fn) (first cap : Array Value) (w : World), (Instr.makeFunc fn first cap).run Try.prog w = .ok (.func fn first cap) w := fun _ _ _ _ => rfl

/-- What 'signs' answers: the sign, and the function that gives it; the sign lies in a new block. -/
def SignRes (neg : Bool) (w : World) (e : Ending) (w' : World) : Prop :=
  e = .returned (.tuple #[.bool neg, .func (.func 89) #[] #[.pointer (some ⟨w.heap.size, 0, none⟩)]]) ∧ Below w.heap.size w w' ∧ w'.cell? ⟨w.heap.size, 0, none⟩ = some (.bool neg) ∧ w.heap.size < w'.heap.size

set_option maxHeartbeats 400000 in
theorem signs2_nn (a b : Int) (x : Nat) (w : World) (hx : x < w.heap.size) (_h0 : w.cell? ⟨x, 0, none⟩ = some (.int .i64 a)) (_h1 : w.cell? ⟨x, 1, none⟩ = some (.int .i64 b)) (_ha : a < 0) (_hb : b < 0) :
    Calls Try.prog 78 #[.slice (some ⟨x, 0, none⟩) 2 2] w (SignRes false w) := by
  have hmf := makeF
  go_enter Try.func78, Try.ntmps78
  go_wp2
  refine wp_loop_rounds 3 ?_
  rw [rounds_succ]
  go_wp2
  rw [rounds_succ]
  go_wp2
  rw [rounds_succ]
  go_wp2
  exact bodyPost_ret (v := .tuple #[.bool false, .func (.func 89) #[] #[.pointer (some ⟨w.heap.size, 0, none⟩)]]) (by simp [results, Try.results78, go_sem]) rfl ⟨rfl, (Below.refl _ _).alloc (Nat.le_refl _) _, by simp [go_sem], by simp⟩
set_option maxHeartbeats 400000 in
theorem signs2_np (a b : Int) (x : Nat) (w : World) (hx : x < w.heap.size) (_h0 : w.cell? ⟨x, 0, none⟩ = some (.int .i64 a)) (_h1 : w.cell? ⟨x, 1, none⟩ = some (.int .i64 b)) (_ha : a < 0) (_hb : 0 ≤ b) :
    Calls Try.prog 78 #[.slice (some ⟨x, 0, none⟩) 2 2] w (SignRes true w) := by
  have hmf := makeF
  go_enter Try.func78, Try.ntmps78
  go_wp2
  refine wp_loop_rounds 3 ?_
  rw [rounds_succ]
  go_wp2
  rw [rounds_succ]
  go_wp2
  rw [rounds_succ]
  go_wp2
  exact bodyPost_ret (v := .tuple #[.bool true, .func (.func 89) #[] #[.pointer (some ⟨w.heap.size, 0, none⟩)]]) (by simp [results, Try.results78, go_sem]) rfl ⟨rfl, (Below.refl _ _).alloc (Nat.le_refl _) _, by simp [go_sem], by simp⟩
set_option maxHeartbeats 400000 in
theorem signs2_pn (a b : Int) (x : Nat) (w : World) (hx : x < w.heap.size) (_h0 : w.cell? ⟨x, 0, none⟩ = some (.int .i64 a)) (_h1 : w.cell? ⟨x, 1, none⟩ = some (.int .i64 b)) (_ha : 0 ≤ a) (_hb : b < 0) :
    Calls Try.prog 78 #[.slice (some ⟨x, 0, none⟩) 2 2] w (SignRes true w) := by
  have hmf := makeF
  go_enter Try.func78, Try.ntmps78
  go_wp2
  refine wp_loop_rounds 3 ?_
  rw [rounds_succ]
  go_wp2
  rw [rounds_succ]
  go_wp2
  rw [rounds_succ]
  go_wp2
  exact bodyPost_ret (v := .tuple #[.bool true, .func (.func 89) #[] #[.pointer (some ⟨w.heap.size, 0, none⟩)]]) (by simp [results, Try.results78, go_sem]) rfl ⟨rfl, (Below.refl _ _).alloc (Nat.le_refl _) _, by simp [go_sem], by simp⟩
set_option maxHeartbeats 400000 in
theorem signs2_pp (a b : Int) (x : Nat) (w : World) (hx : x < w.heap.size) (_h0 : w.cell? ⟨x, 0, none⟩ = some (.int .i64 a)) (_h1 : w.cell? ⟨x, 1, none⟩ = some (.int .i64 b)) (_ha : 0 ≤ a) (_hb : 0 ≤ b) :
    Calls Try.prog 78 #[.slice (some ⟨x, 0, none⟩) 2 2] w (SignRes false w) := by
  have hmf := makeF
  go_enter Try.func78, Try.ntmps78
  go_wp2
  refine wp_loop_rounds 3 ?_
  rw [rounds_succ]
  go_wp2
  rw [rounds_succ]
  go_wp2
  rw [rounds_succ]
  go_wp2
  exact bodyPost_ret (v := .tuple #[.bool false, .func (.func 89) #[] #[.pointer (some ⟨w.heap.size, 0, none⟩)]]) (by simp [results, Try.results78, go_sem]) rfl ⟨rfl, (Below.refl _ _).alloc (Nat.le_refl _) _, by simp [go_sem], by simp⟩
set_option maxHeartbeats 400000 in
theorem signs1_n (a : Int) (x : Nat) (w : World) (hx : x < w.heap.size) (_h0 : w.cell? ⟨x, 0, none⟩ = some (.int .i64 a)) (_ha : a < 0) :
    Calls Try.prog 78 #[.slice (some ⟨x, 0, none⟩) 1 1] w (SignRes true w) := by
  have hmf := makeF
  go_enter Try.func78, Try.ntmps78
  go_wp2
  refine wp_loop_rounds 2 ?_
  rw [rounds_succ]
  go_wp2
  rw [rounds_succ]
  go_wp2
  exact bodyPost_ret (v := .tuple #[.bool true, .func (.func 89) #[] #[.pointer (some ⟨w.heap.size, 0, none⟩)]]) (by simp [results, Try.results78, go_sem]) rfl ⟨rfl, (Below.refl _ _).alloc (Nat.le_refl _) _, by simp [go_sem], by simp⟩
set_option maxHeartbeats 400000 in
theorem signs1_p (a : Int) (x : Nat) (w : World) (hx : x < w.heap.size) (_h0 : w.cell? ⟨x, 0, none⟩ = some (.int .i64 a)) (_ha : 0 ≤ a) :
    Calls Try.prog 78 #[.slice (some ⟨x, 0, none⟩) 1 1] w (SignRes false w) := by
  have hmf := makeF
  go_enter Try.func78, Try.ntmps78
  go_wp2
  refine wp_loop_rounds 2 ?_
  rw [rounds_succ]
  go_wp2
  rw [rounds_succ]
  go_wp2
  exact bodyPost_ret (v := .tuple #[.bool false, .func (.func 89) #[] #[.pointer (some ⟨w.heap.size, 0, none⟩)]]) (by simp [results, Try.results78, go_sem]) rfl ⟨rfl, (Below.refl _ _).alloc (Nat.le_refl _) _, by simp [go_sem], by simp⟩

/-- The sign of a product. -/
def sgn2 (a b : Int) : Bool := xor (decide (a < 0)) (decide (b < 0))
theorem signs2_c (a b : Int) (x : Nat) (w : World) (hx : x < w.heap.size) (h0 : w.cell? ⟨x, 0, none⟩ = some (.int .i64 a)) (h1 : w.cell? ⟨x, 1, none⟩ = some (.int .i64 b)) :
    Calls Try.prog 78 #[.slice (some ⟨x, 0, none⟩) 2 2] w (SignRes (sgn2 a b) w) := by
  by_cases ha : a < 0
  · by_cases hb : b < 0
    · rw [show sgn2 a b = false by simp [sgn2, ha, hb]]; exact signs2_nn a b x w hx h0 h1 ha hb
    · rw [show sgn2 a b = true by simp [sgn2, ha, hb]]; exact signs2_np a b x w hx h0 h1 ha (by omega)
  · by_cases hb : b < 0
    · rw [show sgn2 a b = true by simp [sgn2, ha, hb]]; exact signs2_pn a b x w hx h0 h1 (by omega) hb
    · rw [show sgn2 a b = false by simp [sgn2, ha, hb]]; exact signs2_pp a b x w hx h0 h1 (by omega) (by omega)

set_option maxHeartbeats 400000 in
theorem give_c (neg : Bool) (h l : Int) (p : Nat) (w : World) (hp : p < w.heap.size) (hc : w.cell? ⟨p, 0, none⟩ = some (.bool neg)) (h0 : 0 ≤ h) (h1 : h < 18446744073709551616) (l0 : 0 ≤ l) (l1 : l < 18446744073709551616) :
    Calls Try.prog 89 #[.agg #[.int .u64 h, .int .u64 l], .pointer (some ⟨p, 0, none⟩)] w fun e w' =>
      e = .returned (.tuple #[.int .i64 (Ar.val (Ar.sg neg (h * 18446744073709551616 + l))), .bool (Ar.ok (Ar.sg neg (h * 18446744073709551616 + l)))]) ∧ Below w.heap.size w w' := by
  by_cases c1 : 0 < h
  · have HV := Lib.hid (show Ar.ok (Ar.sg neg (h * 18446744073709551616 + l)) = false by unfold Ar.ok Ar.Fits Ar.sg; split <;> (simp; omega))
    have HV2 := Lib.hid (show Ar.val (Ar.sg neg (h * 18446744073709551616 + l)) = 0 by unfold Ar.val; rw [if_neg]; unfold Ar.Fits Ar.sg; split <;> omega)
    cases neg
    · go_enter Try.func89, Try.ntmps89
      go_wp2
      go_ret2
      exact ⟨ret_ib HV2.out.symm HV.out.symm, (Below.refl _ _).alloc (Nat.le_refl _) _⟩
    · go_enter Try.func89, Try.ntmps89
      go_wp2
      go_ret2
      exact ⟨ret_ib HV2.out.symm HV.out.symm, (Below.refl _ _).alloc (Nat.le_refl _) _⟩
  · obtain rfl : h = 0 := by omega
    cases neg
    · by_cases c2 : 9223372036854775807 < l
      · have HV := Lib.hid (show Ar.ok (Ar.sg false l) = false by simp [Ar.ok, Ar.Fits, Ar.sg]; omega)
        have HV2 := Lib.hid (show Ar.val (Ar.sg false l) = 0 by simp [Ar.val, Ar.Fits, Ar.sg]; omega)
        go_enter Try.func89, Try.ntmps89
        go_wp2
        go_ret2
        exact ⟨ret_ib HV2.out.symm HV.out.symm, (Below.refl _ _).alloc (Nat.le_refl _) _⟩
      · have HV := Lib.hid (show Ar.ok (Ar.sg false l) = true by simp [Ar.ok, Ar.Fits, Ar.sg]; omega)
        have HV2 := Lib.hid (show Ar.val (Ar.sg false l) = l by simp [Ar.val, Ar.Fits, Ar.sg]; omega)
        go_enter Try.func89, Try.ntmps89
        go_wp2
        go_ret2
        exact ⟨ret_ib HV2.out.symm HV.out.symm, (Below.refl _ _).alloc (Nat.le_refl _) _⟩
    · by_cases c2 : 9223372036854775808 < l
      · have HV := Lib.hid (show Ar.ok (Ar.sg true l) = false by simp [Ar.ok, Ar.Fits, Ar.sg]; omega)
        have HV2 := Lib.hid (show Ar.val (Ar.sg true l) = 0 by simp [Ar.val, Ar.Fits, Ar.sg]; omega)
        go_enter Try.func89, Try.ntmps89
        go_wp2
        go_ret2
        exact ⟨ret_ib HV2.out.symm HV.out.symm, (Below.refl _ _).alloc (Nat.le_refl _) _⟩
      · have HV := Lib.hid (show Ar.ok (Ar.sg true l) = true by simp [Ar.ok, Ar.Fits, Ar.sg]; omega)
        have HV2 := Lib.hid (show Ar.val (Ar.sg true l) = -l by simp [Ar.val, Ar.Fits, Ar.sg]; omega)
        go_enter Try.func89, Try.ntmps89
        go_wp2
        go_ret2
        exact ⟨ret_ib (by rw [HV2.out]; unfold wrap64; omega) HV.out.symm, (Below.refl _ _).alloc (Nat.le_refl _) _⟩
end Go.Proofs.Ytnblilonjpfdnaa
end
section
namespace Go.Proofs.Ytnblilonjpfdnaa
open Go.RowKit

/-- A 64-bit number. -/
def I64 (n : Int) : Prop := -9223372036854775808 ≤ n ∧ n ≤ 9223372036854775807

/-- What an operation answers: the number, where it fits. -/
def Told (n : Int) (w : World) (e : Ending) (w' : World) : Prop := e = .returned (.tuple #[.int .i64 (Ar.val n), .bool (Ar.ok n)]) ∧ Below w.heap.size w w'

theorem ok_in {n : Int} (h1 : -9223372036854775808 ≤ n) (h2 : n ≤ 9223372036854775807) : Ar.ok n = true ∧ Ar.val n = n :=
  ⟨decide_eq_true ⟨h1, h2⟩, if_pos ⟨h1, h2⟩⟩
theorem ok_out {n : Int} (h : n < -9223372036854775808 ∨ 9223372036854775807 < n) : Ar.ok n = false ∧ Ar.val n = 0 := by
  have : ¬ Ar.Fits n := by unfold Ar.Fits; omega
  exact ⟨decide_eq_false this, if_neg this⟩
end Go.Proofs.Ytnblilonjpfdnaa
end
