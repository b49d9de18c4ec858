/- The contracts of package arith's MulDiv, Near. -/
import Derived.Test.YtinfjfjheimceaaAxOps
import Derived.Test.YtinfjfjheimceaaAxBy
import Derived.Test.YtinfjfjheimceaaArMath3
namespace Go.Proofs.Ytinfjfjheimceaa
open Go.RowKit

theorem signs2_is (a b : Int) (neg : Bool) (h : sgn2 a b = neg) (x : Nat) (w : World) (hx : x < w.heap.size) (h0 : w.cell? ⟨x, 0, none⟩ = some (.int .i64 a)) (h1 : w.cell? ⟨x, 1, none⟩ = some (.int .i64 b)) :
    Calls Try.prog 26 #[.slice (some ⟨x, 0, none⟩) 2 2] w (SignRes neg w) := by
  subst h; exact signs2_c a b x w hx h0 h1
/-- Division of a product's words. -/
theorem by_is (P c M Q R : Int) (w : World) (hM : P = M) (hQ : M / c = Q ∧ M % c = R) (p0 : 0 ≤ P) (p1 : P ≤ 85070591730234615865843651857942052864) (c0 : 1 ≤ c) (c1 : c < 9223372036854775808) :
    Calls Try.prog 29 #[.agg #[.int .u64 (P / 18446744073709551616), .int .u64 (P % 18446744073709551616)], .int .u64 c] w fun e w' =>
      e = .returned (.tuple #[.agg #[.int .u64 (Q / 18446744073709551616), .int .u64 (Q % 18446744073709551616)], .int .u64 R]) ∧ Below w.heap.size w w' := by
  subst hM
  obtain ⟨rfl, rfl⟩ := hQ
  have := by_c (P / 18446744073709551616) (P % 18446744073709551616) c w (by omega) (by omega) (by omega) (by omega) c0 c1
  rwa [Ar.words] at this
theorem plus1 (Q : Int) (w : World) (q0 : 0 ≤ Q) (q1 : Q ≤ 85070591730234615865843651857942052864) :
    Calls Try.prog 23 #[.agg #[.int .u64 (Q / 18446744073709551616), .int .u64 (Q % 18446744073709551616)], .int .u64 1] w fun e w' =>
      e = .returned (.agg #[.int .u64 ((Q + 1) / 18446744073709551616), .int .u64 ((Q + 1) % 18446744073709551616)]) ∧ Below w.heap.size w w' := by
  have := plus_c (Q / 18446744073709551616) (Q % 18446744073709551616) 1 w (by omega) (by omega) (by omega) (by omega) (by omega) (by omega)
  rwa [show Q / 18446744073709551616 + (Q % 18446744073709551616 + 1) / 18446744073709551616 = (Q + 1) / 18446744073709551616 by omega, show (Q % 18446744073709551616 + 1) % 18446744073709551616 = (Q + 1) % 18446744073709551616 by omega] at this
theorem give_is (neg : Bool) (Q n : Int) (p : Nat) (w : World) (hp : p < w.heap.size) (hc : w.cell? ⟨p, 0, none⟩ = some (.bool neg)) (q0 : 0 ≤ Q) (q1 : Q ≤ 85070591730234615865843651857942052865) (hn : Ar.sg neg Q = n) (V : Int) (o : Bool) (hv : Ar.val n = V ∧ Ar.ok n = o) :
    Calls Try.prog 33 #[.agg #[.int .u64 (Q / 18446744073709551616), .int .u64 (Q % 18446744073709551616)], .pointer (some ⟨p, 0, none⟩)] w fun e w' =>
      e = .returned (.tuple #[.int .i64 V, .bool o]) ∧ Below w.heap.size w w' := by
  obtain ⟨rfl, rfl⟩ := hv
  subst hn
  have := give_c neg (Q / 18446744073709551616) (Q % 18446744073709551616) p w hp hc (by omega) (by omega) (by omega) (by omega)
  rwa [Ar.words] at this

/-- What MulDiv answers. -/
def Quot (P c : Int) (w : World) (e : Ending) (w' : World) : Prop :=
  (if Ar.ok (P / c) then e = .returned (.tuple #[.int .i64 (P / c), .int .i64 (P % c), .bool true]) else e = .returned (.tuple #[.int .i64 0, .int .i64 0, .bool false])) ∧ Below w.heap.size w w'
theorem ret_iib {j k : IntKind} {a b c d : Int} {x y : Bool} (h : a = b) (h' : c = d) (h'' : x = y) : Ending.returned (.tuple #[.int j a, .int k c, .bool x]) = .returned (.tuple #[.int j b, .int k d, .bool y]) := by rw [h, h', h'']

set_option maxHeartbeats 800000 in
theorem muldiv_0 (a b c : Int) (w : World) (hc : c ≤ 0) :
    Calls Try.prog 14 #[.int .i64 a, .int .i64 b, .int .i64 c] w fun e w' => e = .returned (.tuple #[.int .i64 0, .int .i64 0, .bool false]) ∧ w = w' := by
  go_enter Try.func14, Try.ntmps14
  go_wp2
  go_ret3
  exact ⟨rfl, rfl⟩

set_option maxRecDepth 100000 in
set_option maxHeartbeats 1600000 in
theorem muldiv_pos_true (a b c M Q R : Int) (w : World) (a1 : -9223372036854775808 ≤ a) (a2 : a ≤ 9223372036854775807) (b1 : -9223372036854775808 ≤ b) (b2 : b ≤ 9223372036854775807) (c1 : 1 ≤ c) (c2 : c < 9223372036854775808)
    (ma : 0 ≤ Ar.mag a ∧ Ar.mag a ≤ 9223372036854775808) (mb : 0 ≤ Ar.mag b ∧ Ar.mag b ≤ 9223372036854775808) (pd : 0 ≤ Ar.mag a * Ar.mag b ∧ Ar.mag a * Ar.mag b ≤ 85070591730234615865843651857942052864)
    (hM : Hid (Ar.mag a * Ar.mag b = M)) (q0 : 0 ≤ Q) (q1 : Q ≤ 85070591730234615865843651857942052864) (_r0 : 0 ≤ R) (_r1 : R < c)
    (hn : Hid (sgn2 a b = false)) (hQ : Hid (M / c = Q ∧ M % c = R)) (hv : Hid (Ar.val (Ar.sg false Q) = (Ar.sg false Q) ∧ Ar.ok (Ar.sg false Q) = true)) :
    Calls Try.prog 14 #[.int .i64 a, .int .i64 b, .int .i64 c] w fun e w' => e = .returned (.tuple #[.int .i64 (Ar.sg false Q), .int .i64 R, .bool true]) ∧ Below w.heap.size w w' := by
  go_enter Try.func14, Try.ntmps14
  go_wp2_with fail
  refine (signs2_is a b false hn.out w.heap.size _ (by simp) (by simp [go_sem]) (by simp [go_sem])).mono ?_
  rintro e w1 ⟨rfl, hb1, hc1, hz1⟩
  simp at hc1 hz1
  go_wp2_with fail
  refine (magnitude_c a _ a1 a2).mono ?_
  rintro e w' ⟨rfl, rfl⟩
  go_wp2_with fail
  refine (magnitude_c b _ b1 b2).mono ?_
  rintro e w' ⟨rfl, rfl⟩
  go_wp2_with fail
  refine (product_c (Ar.mag a) (Ar.mag b) _ (by omega) (by omega) (by omega) (by omega)).mono ?_
  rintro e w2 ⟨rfl, hb2⟩
  have hc2 : w2.cell? ⟨w.heap.size + 1, 0, none⟩ = some (.bool false) := by rw [hb2.cell (by simpa using hz1)]; exact hc1
  have hz2 := hb2.size
  have hs1 := hb1.size
  simp at hs1
  have B2 : Below w.heap.size w w2 := (((Below.refl _ _).alloc (Nat.le_refl _) _).trans (hb1.mono (by simp))).trans (hb2.mono (by omega))
  go_wp2_with fail
  refine (by_is (Ar.mag a * Ar.mag b) c M Q R _ hM.out hQ.out pd.1 pd.2 c1 c2).mono ?_
  rintro e w3 ⟨rfl, hb3⟩
  have hc3 : w3.cell? ⟨w.heap.size + 1, 0, none⟩ = some (.bool false) := by rw [hb3.cell (by simp; omega)]; exact hc2
  have hz3 := hb3.size
  have B3 : Below w.heap.size w w3 := B2.trans (hb3.mono (by omega))
  clear hc1 hc2 hb1 hb2 hb3 B2
  go_wp2_with fail
  refine (give_is false Q (Ar.sg false Q) (w.heap.size + 1) _ (by simp; omega) (by rw [World.cell?_alloc_past _ _ _ (by omega)]; exact hc3) q0 (by omega) rfl (Ar.sg false Q) true hv.out).mono ?_
  rintro e w4 ⟨rfl, hb4⟩
  go_wp2_with fail
  go_ret3
  exact ⟨rfl, (B3.alloc (by omega) _).trans (hb4.mono (by simp; omega))⟩

set_option maxRecDepth 100000 in
set_option maxHeartbeats 1600000 in
theorem muldiv_neg0_true (a b c M Q R : Int) (w : World) (a1 : -9223372036854775808 ≤ a) (a2 : a ≤ 9223372036854775807) (b1 : -9223372036854775808 ≤ b) (b2 : b ≤ 9223372036854775807) (c1 : 1 ≤ c) (c2 : c < 9223372036854775808)
    (ma : 0 ≤ Ar.mag a ∧ Ar.mag a ≤ 9223372036854775808) (mb : 0 ≤ Ar.mag b ∧ Ar.mag b ≤ 9223372036854775808) (pd : 0 ≤ Ar.mag a * Ar.mag b ∧ Ar.mag a * Ar.mag b ≤ 85070591730234615865843651857942052864)
    (hM : Hid (Ar.mag a * Ar.mag b = M)) (q0 : 0 ≤ Q) (q1 : Q ≤ 85070591730234615865843651857942052864) (_r0 : 0 ≤ R) (_r1 : R < c)
    (hn : Hid (sgn2 a b = true)) (hQ : Hid (M / c = Q ∧ M % c = 0)) (hv : Hid (Ar.val (Ar.sg true Q) = (Ar.sg true Q) ∧ Ar.ok (Ar.sg true Q) = true)) :
    Calls Try.prog 14 #[.int .i64 a, .int .i64 b, .int .i64 c] w fun e w' => e = .returned (.tuple #[.int .i64 (Ar.sg true Q), .int .i64 0, .bool true]) ∧ Below w.heap.size w w' := by
  go_enter Try.func14, Try.ntmps14
  go_wp2_with fail
  refine (signs2_is a b true hn.out w.heap.size _ (by simp) (by simp [go_sem]) (by simp [go_sem])).mono ?_
  rintro e w1 ⟨rfl, hb1, hc1, hz1⟩
  simp at hc1 hz1
  go_wp2_with fail
  refine (magnitude_c a _ a1 a2).mono ?_
  rintro e w' ⟨rfl, rfl⟩
  go_wp2_with fail
  refine (magnitude_c b _ b1 b2).mono ?_
  rintro e w' ⟨rfl, rfl⟩
  go_wp2_with fail
  refine (product_c (Ar.mag a) (Ar.mag b) _ (by omega) (by omega) (by omega) (by omega)).mono ?_
  rintro e w2 ⟨rfl, hb2⟩
  have hc2 : w2.cell? ⟨w.heap.size + 1, 0, none⟩ = some (.bool true) := by rw [hb2.cell (by simpa using hz1)]; exact hc1
  have hz2 := hb2.size
  have hs1 := hb1.size
  simp at hs1
  have B2 : Below w.heap.size w w2 := (((Below.refl _ _).alloc (Nat.le_refl _) _).trans (hb1.mono (by simp))).trans (hb2.mono (by omega))
  go_wp2_with fail
  refine (by_is (Ar.mag a * Ar.mag b) c M Q 0 _ hM.out hQ.out pd.1 pd.2 c1 c2).mono ?_
  rintro e w3 ⟨rfl, hb3⟩
  have hc3 : w3.cell? ⟨w.heap.size + 1, 0, none⟩ = some (.bool true) := by rw [hb3.cell (by simp; omega)]; exact hc2
  have hz3 := hb3.size
  have B3 : Below w.heap.size w w3 := B2.trans (hb3.mono (by omega))
  clear hc1 hc2 hb1 hb2 hb3 B2
  go_wp2_with fail
  refine (give_is true Q (Ar.sg true Q) (w.heap.size + 1) _ (by simp; omega) (by rw [World.cell?_alloc_past _ _ _ (by omega)]; exact hc3) q0 (by omega) rfl (Ar.sg true Q) true hv.out).mono ?_
  rintro e w4 ⟨rfl, hb4⟩
  go_wp2_with fail
  go_ret3
  exact ⟨rfl, (B3.alloc (by omega) _).trans (hb4.mono (by simp; omega))⟩

set_option maxRecDepth 100000 in
set_option maxHeartbeats 1600000 in
theorem muldiv_neg1_true (a b c M Q R : Int) (w : World) (a1 : -9223372036854775808 ≤ a) (a2 : a ≤ 9223372036854775807) (b1 : -9223372036854775808 ≤ b) (b2 : b ≤ 9223372036854775807) (c1 : 1 ≤ c) (c2 : c < 9223372036854775808)
    (ma : 0 ≤ Ar.mag a ∧ Ar.mag a ≤ 9223372036854775808) (mb : 0 ≤ Ar.mag b ∧ Ar.mag b ≤ 9223372036854775808) (pd : 0 ≤ Ar.mag a * Ar.mag b ∧ Ar.mag a * Ar.mag b ≤ 85070591730234615865843651857942052864)
    (hM : Hid (Ar.mag a * Ar.mag b = M)) (q0 : 0 ≤ Q) (q1 : Q ≤ 85070591730234615865843651857942052864) (_r0 : 0 ≤ R) (_r1 : R < c) (_r2 : 0 < R)
    (hn : Hid (sgn2 a b = true)) (hQ : Hid (M / c = Q ∧ M % c = R)) (hv : Hid (Ar.val (Ar.sg true (Q + 1)) = (Ar.sg true (Q + 1)) ∧ Ar.ok (Ar.sg true (Q + 1)) = true)) :
    Calls Try.prog 14 #[.int .i64 a, .int .i64 b, .int .i64 c] w fun e w' => e = .returned (.tuple #[.int .i64 (Ar.sg true (Q + 1)), .int .i64 (c - R), .bool true]) ∧ Below w.heap.size w w' := by
  go_enter Try.func14, Try.ntmps14
  go_wp2_with fail
  refine (signs2_is a b true hn.out w.heap.size _ (by simp) (by simp [go_sem]) (by simp [go_sem])).mono ?_
  rintro e w1 ⟨rfl, hb1, hc1, hz1⟩
  simp at hc1 hz1
  go_wp2_with fail
  refine (magnitude_c a _ a1 a2).mono ?_
  rintro e w' ⟨rfl, rfl⟩
  go_wp2_with fail
  refine (magnitude_c b _ b1 b2).mono ?_
  rintro e w' ⟨rfl, rfl⟩
  go_wp2_with fail
  refine (product_c (Ar.mag a) (Ar.mag b) _ (by omega) (by omega) (by omega) (by omega)).mono ?_
  rintro e w2 ⟨rfl, hb2⟩
  have hc2 : w2.cell? ⟨w.heap.size + 1, 0, none⟩ = some (.bool true) := by rw [hb2.cell (by simpa using hz1)]; exact hc1
  have hz2 := hb2.size
  have hs1 := hb1.size
  simp at hs1
  have B2 : Below w.heap.size w w2 := (((Below.refl _ _).alloc (Nat.le_refl _) _).trans (hb1.mono (by simp))).trans (hb2.mono (by omega))
  go_wp2_with fail
  refine (by_is (Ar.mag a * Ar.mag b) c M Q R _ hM.out hQ.out pd.1 pd.2 c1 c2).mono ?_
  rintro e w3 ⟨rfl, hb3⟩
  have hc3 : w3.cell? ⟨w.heap.size + 1, 0, none⟩ = some (.bool true) := by rw [hb3.cell (by simp; omega)]; exact hc2
  have hz3 := hb3.size
  have B3 : Below w.heap.size w w3 := B2.trans (hb3.mono (by omega))
  clear hc1 hc2 hb1 hb2 hb3 B2
  go_wp2_with fail
  refine (plus1 Q _ q0 q1).mono ?_
  rintro e w4 ⟨rfl, hb4⟩
  have hz4 := hb4.size
  simp at hz4
  have hc4 : w4.cell? ⟨w.heap.size + 1, 0, none⟩ = some (.bool true) := by rw [hb4.cell (by simp; omega), World.cell?_alloc_past _ _ _ (by omega)]; exact hc3
  have g0 : w4.cell? ⟨w3.heap.size, 0, none⟩ = some (.int .u64 (Q / 18446744073709551616)) := by rw [hb4.cell (by simp)]; simp [go_sem]
  have g1 : w4.cell? ⟨w3.heap.size, 1, none⟩ = some (.int .u64 (Q % 18446744073709551616)) := by rw [hb4.cell (by simp)]; simp [go_sem]
  have g2 : w4.frozen? ⟨w3.heap.size, 0, none⟩ = false := by rw [hb4.frozen (by simp)]; simp [go_sem]
  have g3 : w4.frozen? ⟨w3.heap.size, 1, none⟩ = false := by rw [hb4.frozen (by simp)]; simp [go_sem]
  have B4 : Below w.heap.size w w4 := (B3.alloc (by omega) _).trans (hb4.mono (by simp; omega))
  clear hb4
  go_wp2_with fail
  refine (give_is true (Q + 1) (Ar.sg true (Q + 1)) (w.heap.size + 1) _ (by simp; omega) (by simp [go_sem, hc4]) (by omega) (by omega) rfl (Ar.sg true (Q + 1)) true hv.out).mono ?_
  rintro e w5 ⟨rfl, hb5⟩
  go_wp2_with fail
  go_ret3
  exact ⟨rfl, ((B4.setCell (by simp; omega) _).setCell (by simp; omega) _).trans (hb5.mono (by simp; omega))⟩

set_option maxRecDepth 100000 in
set_option maxHeartbeats 1600000 in
theorem muldiv_pos_false (a b c M Q R : Int) (w : World) (a1 : -9223372036854775808 ≤ a) (a2 : a ≤ 9223372036854775807) (b1 : -9223372036854775808 ≤ b) (b2 : b ≤ 9223372036854775807) (c1 : 1 ≤ c) (c2 : c < 9223372036854775808)
    (ma : 0 ≤ Ar.mag a ∧ Ar.mag a ≤ 9223372036854775808) (mb : 0 ≤ Ar.mag b ∧ Ar.mag b ≤ 9223372036854775808) (pd : 0 ≤ Ar.mag a * Ar.mag b ∧ Ar.mag a * Ar.mag b ≤ 85070591730234615865843651857942052864)
    (hM : Hid (Ar.mag a * Ar.mag b = M)) (q0 : 0 ≤ Q) (q1 : Q ≤ 85070591730234615865843651857942052864) (_r0 : 0 ≤ R) (_r1 : R < c)
    (hn : Hid (sgn2 a b = false)) (hQ : Hid (M / c = Q ∧ M % c = R)) (hv : Hid (Ar.val (Ar.sg false Q) = 0 ∧ Ar.ok (Ar.sg false Q) = false)) :
    Calls Try.prog 14 #[.int .i64 a, .int .i64 b, .int .i64 c] w fun e w' => e = .returned (.tuple #[.int .i64 0, .int .i64 0, .bool false]) ∧ Below w.heap.size w w' := by
  go_enter Try.func14, Try.ntmps14
  go_wp2_with fail
  refine (signs2_is a b false hn.out w.heap.size _ (by simp) (by simp [go_sem]) (by simp [go_sem])).mono ?_
  rintro e w1 ⟨rfl, hb1, hc1, hz1⟩
  simp at hc1 hz1
  go_wp2_with fail
  refine (magnitude_c a _ a1 a2).mono ?_
  rintro e w' ⟨rfl, rfl⟩
  go_wp2_with fail
  refine (magnitude_c b _ b1 b2).mono ?_
  rintro e w' ⟨rfl, rfl⟩
  go_wp2_with fail
  refine (product_c (Ar.mag a) (Ar.mag b) _ (by omega) (by omega) (by omega) (by omega)).mono ?_
  rintro e w2 ⟨rfl, hb2⟩
  have hc2 : w2.cell? ⟨w.heap.size + 1, 0, none⟩ = some (.bool false) := by rw [hb2.cell (by simpa using hz1)]; exact hc1
  have hz2 := hb2.size
  have hs1 := hb1.size
  simp at hs1
  have B2 : Below w.heap.size w w2 := (((Below.refl _ _).alloc (Nat.le_refl _) _).trans (hb1.mono (by simp))).trans (hb2.mono (by omega))
  go_wp2_with fail
  refine (by_is (Ar.mag a * Ar.mag b) c M Q R _ hM.out hQ.out pd.1 pd.2 c1 c2).mono ?_
  rintro e w3 ⟨rfl, hb3⟩
  have hc3 : w3.cell? ⟨w.heap.size + 1, 0, none⟩ = some (.bool false) := by rw [hb3.cell (by simp; omega)]; exact hc2
  have hz3 := hb3.size
  have B3 : Below w.heap.size w w3 := B2.trans (hb3.mono (by omega))
  clear hc1 hc2 hb1 hb2 hb3 B2
  go_wp2_with fail
  refine (give_is false Q (Ar.sg false Q) (w.heap.size + 1) _ (by simp; omega) (by rw [World.cell?_alloc_past _ _ _ (by omega)]; exact hc3) q0 (by omega) rfl 0 false hv.out).mono ?_
  rintro e w4 ⟨rfl, hb4⟩
  go_wp2_with fail
  go_ret3
  exact ⟨rfl, (B3.alloc (by omega) _).trans (hb4.mono (by simp; omega))⟩

set_option maxRecDepth 100000 in
set_option maxHeartbeats 1600000 in
theorem muldiv_neg0_false (a b c M Q R : Int) (w : World) (a1 : -9223372036854775808 ≤ a) (a2 : a ≤ 9223372036854775807) (b1 : -9223372036854775808 ≤ b) (b2 : b ≤ 9223372036854775807) (c1 : 1 ≤ c) (c2 : c < 9223372036854775808)
    (ma : 0 ≤ Ar.mag a ∧ Ar.mag a ≤ 9223372036854775808) (mb : 0 ≤ Ar.mag b ∧ Ar.mag b ≤ 9223372036854775808) (pd : 0 ≤ Ar.mag a * Ar.mag b ∧ Ar.mag a * Ar.mag b ≤ 85070591730234615865843651857942052864)
    (hM : Hid (Ar.mag a * Ar.mag b = M)) (q0 : 0 ≤ Q) (q1 : Q ≤ 85070591730234615865843651857942052864) (_r0 : 0 ≤ R) (_r1 : R < c)
    (hn : Hid (sgn2 a b = true)) (hQ : Hid (M / c = Q ∧ M % c = 0)) (hv : Hid (Ar.val (Ar.sg true Q) = 0 ∧ Ar.ok (Ar.sg true Q) = false)) :
    Calls Try.prog 14 #[.int .i64 a, .int .i64 b, .int .i64 c] w fun e w' => e = .returned (.tuple #[.int .i64 0, .int .i64 0, .bool false]) ∧ Below w.heap.size w w' := by
  go_enter Try.func14, Try.ntmps14
  go_wp2_with fail
  refine (signs2_is a b true hn.out w.heap.size _ (by simp) (by simp [go_sem]) (by simp [go_sem])).mono ?_
  rintro e w1 ⟨rfl, hb1, hc1, hz1⟩
  simp at hc1 hz1
  go_wp2_with fail
  refine (magnitude_c a _ a1 a2).mono ?_
  rintro e w' ⟨rfl, rfl⟩
  go_wp2_with fail
  refine (magnitude_c b _ b1 b2).mono ?_
  rintro e w' ⟨rfl, rfl⟩
  go_wp2_with fail
  refine (product_c (Ar.mag a) (Ar.mag b) _ (by omega) (by omega) (by omega) (by omega)).mono ?_
  rintro e w2 ⟨rfl, hb2⟩
  have hc2 : w2.cell? ⟨w.heap.size + 1, 0, none⟩ = some (.bool true) := by rw [hb2.cell (by simpa using hz1)]; exact hc1
  have hz2 := hb2.size
  have hs1 := hb1.size
  simp at hs1
  have B2 : Below w.heap.size w w2 := (((Below.refl _ _).alloc (Nat.le_refl _) _).trans (hb1.mono (by simp))).trans (hb2.mono (by omega))
  go_wp2_with fail
  refine (by_is (Ar.mag a * Ar.mag b) c M Q 0 _ hM.out hQ.out pd.1 pd.2 c1 c2).mono ?_
  rintro e w3 ⟨rfl, hb3⟩
  have hc3 : w3.cell? ⟨w.heap.size + 1, 0, none⟩ = some (.bool true) := by rw [hb3.cell (by simp; omega)]; exact hc2
  have hz3 := hb3.size
  have B3 : Below w.heap.size w w3 := B2.trans (hb3.mono (by omega))
  clear hc1 hc2 hb1 hb2 hb3 B2
  go_wp2_with fail
  refine (give_is true Q (Ar.sg true Q) (w.heap.size + 1) _ (by simp; omega) (by rw [World.cell?_alloc_past _ _ _ (by omega)]; exact hc3) q0 (by omega) rfl 0 false hv.out).mono ?_
  rintro e w4 ⟨rfl, hb4⟩
  go_wp2_with fail
  go_ret3
  exact ⟨rfl, (B3.alloc (by omega) _).trans (hb4.mono (by simp; omega))⟩

set_option maxRecDepth 100000 in
set_option maxHeartbeats 1600000 in
theorem muldiv_neg1_false (a b c M Q R : Int) (w : World) (a1 : -9223372036854775808 ≤ a) (a2 : a ≤ 9223372036854775807) (b1 : -9223372036854775808 ≤ b) (b2 : b ≤ 9223372036854775807) (c1 : 1 ≤ c) (c2 : c < 9223372036854775808)
    (ma : 0 ≤ Ar.mag a ∧ Ar.mag a ≤ 9223372036854775808) (mb : 0 ≤ Ar.mag b ∧ Ar.mag b ≤ 9223372036854775808) (pd : 0 ≤ Ar.mag a * Ar.mag b ∧ Ar.mag a * Ar.mag b ≤ 85070591730234615865843651857942052864)
    (hM : Hid (Ar.mag a * Ar.mag b = M)) (q0 : 0 ≤ Q) (q1 : Q ≤ 85070591730234615865843651857942052864) (_r0 : 0 ≤ R) (_r1 : R < c) (_r2 : 0 < R)
    (hn : Hid (sgn2 a b = true)) (hQ : Hid (M / c = Q ∧ M % c = R)) (hv : Hid (Ar.val (Ar.sg true (Q + 1)) = 0 ∧ Ar.ok (Ar.sg true (Q + 1)) = false)) :
    Calls Try.prog 14 #[.int .i64 a, .int .i64 b, .int .i64 c] w fun e w' => e = .returned (.tuple #[.int .i64 0, .int .i64 0, .bool false]) ∧ Below w.heap.size w w' := by
  go_enter Try.func14, Try.ntmps14
  go_wp2_with fail
  refine (signs2_is a b true hn.out w.heap.size _ (by simp) (by simp [go_sem]) (by simp [go_sem])).mono ?_
  rintro e w1 ⟨rfl, hb1, hc1, hz1⟩
  simp at hc1 hz1
  go_wp2_with fail
  refine (magnitude_c a _ a1 a2).mono ?_
  rintro e w' ⟨rfl, rfl⟩
  go_wp2_with fail
  refine (magnitude_c b _ b1 b2).mono ?_
  rintro e w' ⟨rfl, rfl⟩
  go_wp2_with fail
  refine (product_c (Ar.mag a) (Ar.mag b) _ (by omega) (by omega) (by omega) (by omega)).mono ?_
  rintro e w2 ⟨rfl, hb2⟩
  have hc2 : w2.cell? ⟨w.heap.size + 1, 0, none⟩ = some (.bool true) := by rw [hb2.cell (by simpa using hz1)]; exact hc1
  have hz2 := hb2.size
  have hs1 := hb1.size
  simp at hs1
  have B2 : Below w.heap.size w w2 := (((Below.refl _ _).alloc (Nat.le_refl _) _).trans (hb1.mono (by simp))).trans (hb2.mono (by omega))
  go_wp2_with fail
  refine (by_is (Ar.mag a * Ar.mag b) c M Q R _ hM.out hQ.out pd.1 pd.2 c1 c2).mono ?_
  rintro e w3 ⟨rfl, hb3⟩
  have hc3 : w3.cell? ⟨w.heap.size + 1, 0, none⟩ = some (.bool true) := by rw [hb3.cell (by simp; omega)]; exact hc2
  have hz3 := hb3.size
  have B3 : Below w.heap.size w w3 := B2.trans (hb3.mono (by omega))
  clear hc1 hc2 hb1 hb2 hb3 B2
  go_wp2_with fail
  refine (plus1 Q _ q0 q1).mono ?_
  rintro e w4 ⟨rfl, hb4⟩
  have hz4 := hb4.size
  simp at hz4
  have hc4 : w4.cell? ⟨w.heap.size + 1, 0, none⟩ = some (.bool true) := by rw [hb4.cell (by simp; omega), World.cell?_alloc_past _ _ _ (by omega)]; exact hc3
  have g0 : w4.cell? ⟨w3.heap.size, 0, none⟩ = some (.int .u64 (Q / 18446744073709551616)) := by rw [hb4.cell (by simp)]; simp [go_sem]
  have g1 : w4.cell? ⟨w3.heap.size, 1, none⟩ = some (.int .u64 (Q % 18446744073709551616)) := by rw [hb4.cell (by simp)]; simp [go_sem]
  have g2 : w4.frozen? ⟨w3.heap.size, 0, none⟩ = false := by rw [hb4.frozen (by simp)]; simp [go_sem]
  have g3 : w4.frozen? ⟨w3.heap.size, 1, none⟩ = false := by rw [hb4.frozen (by simp)]; simp [go_sem]
  have B4 : Below w.heap.size w w4 := (B3.alloc (by omega) _).trans (hb4.mono (by simp; omega))
  clear hb4
  go_wp2_with fail
  refine (give_is true (Q + 1) (Ar.sg true (Q + 1)) (w.heap.size + 1) _ (by simp; omega) (by simp [go_sem, hc4]) (by omega) (by omega) rfl 0 false hv.out).mono ?_
  rintro e w5 ⟨rfl, hb5⟩
  go_wp2_with fail
  go_ret3
  exact ⟨rfl, ((B4.setCell (by simp; omega) _).setCell (by simp; omega) _).trans (hb5.mono (by simp; omega))⟩

end Go.Proofs.Ytinfjfjheimceaa
