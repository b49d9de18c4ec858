/- Joined: ArAdd ArHead ArRing ArSumLaw. -/
import Derived.Test.YtnblilonjpfdnaaJaC
import Derived.OpenShut
import Derived.IntWalk
section
namespace Go.Proofs.Ytnblilonjpfdnaa
open Go.RowKit

theorem sum2 (a b : Int) (w : World) (ha : I64 a) (hb : I64 b) :
    Calls Try.prog 41 #[.slice (some ⟨w.heap.size, 0, none⟩) 2 2] (w.alloc (.cells #[.int .i64 a, .int .i64 b] 2)) (Told (a + b) (w.alloc (.cells #[.int .i64 a, .int .i64 b] 2))) := by
  have h := sum_c w.heap.size 0 2 2 [a, b] (w.alloc (.cells #[.int .i64 a, .int .i64 b] 2)) (by simp) (by simp) (by omega) (by intro x hx; simp at hx; rcases hx with rfl | rfl <;> assumption)
    (by intro j hj; have : j = 0 ∨ j = 1 := by simp at hj; omega
        rcases this with rfl | rfl <;> simp [go_sem])
  rwa [show ([a, b].take 2).sum = a + b by simp; try omega] at h
theorem sum3 (a b c : Int) (w : World) (ha : I64 a) (hb : I64 b) (hc : I64 c) :
    Calls Try.prog 41 #[.slice (some ⟨w.heap.size, 0, none⟩) 3 3] (w.alloc (.cells #[.int .i64 a, .int .i64 b, .int .i64 c] 2)) (Told (a + b + c) (w.alloc (.cells #[.int .i64 a, .int .i64 b, .int .i64 c] 2))) := by
  have h := sum_c w.heap.size 0 3 3 [a, b, c] (w.alloc (.cells #[.int .i64 a, .int .i64 b, .int .i64 c] 2)) (by simp) (by simp) (by omega) (by intro x hx; simp at hx; rcases hx with rfl | rfl | rfl <;> assumption)
    (by intro j hj; have : j = 0 ∨ j = 1 ∨ j = 2 := by simp at hj; omega
        rcases this with rfl | rfl | rfl <;> simp [go_sem])
  rwa [show ([a, b, c].take 3).sum = a + b + c by simp; try omega] at h
theorem sum4 (a b c d : Int) (w : World) (ha : I64 a) (hb : I64 b) (hc : I64 c) (hd : I64 d) :
    Calls Try.prog 41 #[.slice (some ⟨w.heap.size, 0, none⟩) 4 4] (w.alloc (.cells #[.int .i64 a, .int .i64 b, .int .i64 c, .int .i64 d] 2)) (Told (a + b + c + d) (w.alloc (.cells #[.int .i64 a, .int .i64 b, .int .i64 c, .int .i64 d] 2))) := by
  have h := sum_c w.heap.size 0 4 4 [a, b, c, d] (w.alloc (.cells #[.int .i64 a, .int .i64 b, .int .i64 c, .int .i64 d] 2)) (by simp) (by simp) (by omega) (by intro x hx; simp at hx; rcases hx with rfl | rfl | rfl | rfl <;> assumption)
    (by intro j hj; have : j = 0 ∨ j = 1 ∨ j = 2 ∨ j = 3 := by simp at hj; omega
        rcases this with rfl | rfl | rfl | rfl <;> simp [go_sem])
  rwa [show ([a, b, c, d].take 4).sum = a + b + c + d by simp; try omega] at h

end Go.Proofs.Ytnblilonjpfdnaa
end
section
namespace Go.Proofs.Ytnblilonjpfdnaa
open Go.RowKit

theorem told_in {P : Program} {f : FuncId} {args : Array Value} {n m : Int} {w : World} (h : Calls P f args w (Told n w)) (hm : n = m) (h1 : -9223372036854775808 ≤ m) (h2 : m ≤ 9223372036854775807) :
    Calls P f args w fun e w' => e = .returned (.tuple #[.int .i64 m, .bool true]) ∧ Below w.heap.size w w' :=
  h.mono fun e w' ⟨he, hb⟩ => by subst hm; exact ⟨by rw [he, (ok_in h1 h2).1, (ok_in h1 h2).2], hb⟩
theorem told_out {P : Program} {f : FuncId} {args : Array Value} {n : Int} {w : World} (h : Calls P f args w (Told n w)) (hn : n < -9223372036854775808 ∨ 9223372036854775807 < n) :
    Calls P f args w fun e w' => e = .returned (.tuple #[.int .i64 0, .bool false]) ∧ Below w.heap.size w w' :=
  h.mono fun e w' ⟨he, hb⟩ => ⟨by rw [he, (ok_out hn).1, (ok_out hn).2], hb⟩
theorem sum3_in (a b c n : Int) (w : World) (ha : I64 a) (hb : I64 b) (hc : I64 c) (hn : a + b + c = n) (h1 : -9223372036854775808 ≤ n) (h2 : n ≤ 9223372036854775807) :
    Calls Try.prog 41 #[.slice (some ⟨w.heap.size, 0, none⟩) 3 3] (w.alloc (.cells #[.int .i64 a, .int .i64 b, .int .i64 c] 2)) fun e w' => e = .returned (.tuple #[.int .i64 n, .bool true]) ∧ Below w.heap.size w w' :=
  (told_in (sum3 a b c w ha hb hc) hn h1 h2).mono fun e w' ⟨he, hb⟩ => ⟨he, ((Below.refl _ _).alloc (Nat.le_refl _) _).trans (hb.mono (by simp))⟩
theorem i64_lit {n : Int} (h1 : -9223372036854775808 ≤ n) (h2 : n ≤ 9223372036854775807) : I64 n := ⟨h1, h2⟩

end Go.Proofs.Ytnblilonjpfdnaa
end
section
namespace Go.Proofs.Ytnblilonjpfdnaa
open Go.RowKit

theorem val_i64 (n : Int) : I64 (Ar.val n) := by
  unfold Ar.val
  by_cases h : Ar.Fits n
  · rw [if_pos h]; exact h
  · rw [if_neg h]; exact ⟨by omega, by omega⟩
theorem told_eq {P : Program} {f : FuncId} {args : Array Value} {n m : Int} {w : World} (h : Calls P f args w (Told n w)) (hm : n = m) : Calls P f args w (Told m w) := by subst hm; exact h
theorem zero_i64 : I64 0 := ⟨by omega, by omega⟩
theorem sum3_told (a b c n : Int) (w : World) (ha : I64 a) (hb : I64 b) (hc : I64 c) (hn : a + b + c = n) :
    Calls Try.prog 41 #[.slice (some ⟨w.heap.size, 0, none⟩) 3 3] (w.alloc (.cells #[.int .i64 a, .int .i64 b, .int .i64 c] 2)) (Told n w) := by
  subst hn
  exact (sum3 a b c w ha hb hc).mono fun e w' ⟨he, hb⟩ => ⟨he, ((Below.refl _ _).alloc (Nat.le_refl _) _).trans (hb.mono (by simp))⟩
theorem i64_of {n : Int} (h : Ar.Fits n) : I64 n := h
end Go.Proofs.Ytnblilonjpfdnaa
end
section
namespace Go.Proofs.Ytnblilonjpfdnaa
open Go.RowKit

theorem i64_half (x : Int) : bits .and .i64 x 4294967295 = x % 4294967296 := by
  have e1 : (BitVec.ofInt 64 x).toNat = (x % 18446744073709551616).toNat := by rw [BitVec.toNat_ofInt]; rfl
  have e2 : (BitVec.ofInt 64 (4294967295 : Int)).toNat = 4294967295 := by decide
  show IntKind.i64.wrap ((BitVec.ofInt 64 x &&& BitVec.ofInt 64 4294967295).toNat : Int) = _
  rw [BitVec.toNat_and, e1, e2, show ∀ n : Nat, n &&& 4294967295 = n % 4294967296 from fun n => Nat.and_two_pow_sub_one_eq_mod n 32, IntKind.wrap_i64]
  omega
/-- The halves' sums. -/
def hiS (l : List Int) : Int := (l.map fun x => x / 4294967296).sum
def loS (l : List Int) : Int := (l.map fun x => x % 4294967296).sum
theorem halves (l : List Int) : l.sum = hiS l * 4294967296 + loS l := by
  induction l with
  | nil => rfl
  | cons x l ih => simp only [hiS, loS, List.map_cons, List.sum_cons] at *; omega
theorem halves_bd (l : List Int) (h : ∀ x ∈ l, -9223372036854775808 ≤ x ∧ x ≤ 9223372036854775807) : 0 ≤ loS l ∧ loS l ≤ l.length * 4294967296 ∧ -(l.length * 2147483648 : Int) ≤ hiS l ∧ hiS l ≤ l.length * 2147483648 := by
  induction l with
  | nil => simp [hiS, loS]
  | cons x l ih =>
    have := ih (fun y hy => h y (by simp [hy]))
    have := h x (by simp)
    simp only [hiS, loS, List.map_cons, List.sum_cons, List.length_cons] at *
    omega
theorem hiS_snoc (l : List Int) (x : Int) : hiS (l ++ [x]) = hiS l + x / 4294967296 := by simp [hiS]
theorem loS_snoc (l : List Int) (x : Int) : loS (l ++ [x]) = loS l + x % 4294967296 := by simp [loS]

set_option maxHeartbeats 800000 in
theorem rsum_c (b off len cap : Nat) (zs : List Int) (w : World) (hl : len ≤ zs.length) (hm : len ≤ 300) (hz : ∀ x ∈ zs, -9223372036854775808 ≤ x ∧ x ≤ 9223372036854775807)
    (hc : ∀ j, j < zs.length → w.cell? ⟨b, off + j, none⟩ = some (.int .i64 (zs.getD j 0))) :
    Calls Try.prog 80 #[.slice (some ⟨b, off, none⟩) len cap] w (Told (zs.take len).sum w) := by
  go_enter Try.func80, Try.ntmps80
  go_wp2
  go_loop [4, 5, 6] (fun h l s => ∃ k : Nat, k ≤ len ∧ s = .int .i64 k ∧ h = .int .i64 (hiS (zs.take k)) ∧ l = .int .i64 (loS (zs.take k))) (fun _ _ s => len - (intOf s).toNat)
  case atStart => exact ⟨0, by omega, rfl, rfl, rfl⟩
  case round =>
    obtain ⟨k, hk, rfl, rfl, rfl⟩ := hrel
    have hsn := halves_bd (zs.take k) (fun x hx => hz x (List.mem_of_mem_take hx))
    have hlen : (zs.take k).length ≤ k := List.length_take_le _ _
    have h300 : ((zs.take k).length : Int) ≤ 300 := by omega
    obtain ⟨l0, l1, h0, h1⟩ := hsn
    have l2 : loS (zs.take k) ≤ 1288490188800 := by omega
    have h2 : -644245094400 ≤ hiS (zs.take k) := by omega
    have h3 : hiS (zs.take k) ≤ 644245094400 := by omega
    clear l1 h0 h1 hlen h300
    by_cases hlt : k < len
    · have hcell := hc k (by omega)
      have hbd := hz (zs.getD k 0) (by simp [show k < zs.length by omega])
      have hts := Ar.take_snoc zs k (by omega)
      have HP := Lib.hid (show hiS (zs.take (k + 1)) = hiS (zs.take k) + zs.getD k 0 / 4294967296 by rw [hts, hiS_snoc])
      have HN := Lib.hid (show loS (zs.take (k + 1)) = loS (zs.take k) + zs.getD k 0 % 4294967296 by rw [hts, loS_snoc])
      have hh := i64_half (zs.getD k 0)
      clear hts hc hz
      generalize zs.getD k 0 = x at *
      obtain ⟨x1, x2⟩ := hbd
      generalize hiS (zs.take k) = H at *
      generalize loS (zs.take k) = L at *
      go_wp2
      go_round
      case rel => exact ⟨k + 1, by omega, by go_num, by rw [HP.out], by rw [HN.out]⟩
      case measure => simp [intOf]; omega
    · obtain rfl : k = len := by omega
      have HE := Lib.hid (halves (zs.take k))
      clear hc hz hlt
      generalize hiS (zs.take k) = H at *
      generalize loS (zs.take k) = L at *
      generalize (zs.take k).sum = S at *
      have hh := i64_half L
      by_cases c1 : H + L / 4294967296 < -2147483648
      · have E := Lib.hid (ok_out (n := S) (Or.inl (by have := HE.out; omega)))
        go_wp2
        go_ret2
        exact ⟨ret_ib E.out.2.symm E.out.1.symm, Below.refl _ _⟩
      by_cases c2 : 2147483648 ≤ H + L / 4294967296
      · have E := Lib.hid (ok_out (n := S) (Or.inr (by have := HE.out; omega)))
        go_wp2
        go_ret2
        exact ⟨ret_ib E.out.2.symm E.out.1.symm, Below.refl _ _⟩
      · have E := Lib.hid (ok_in (n := S) (by have := HE.out; omega) (by have := HE.out; omega))
        go_wp2
        go_ret2
        exact ⟨ret_ib (by rw [E.out.2]; have := HE.out; omega) E.out.1.symm, Below.refl _ _⟩

theorem rsum_0 (a : Option Addr) (cap : Nat) (w : World) : Calls Try.prog 80 #[.slice a 0 cap] w fun e w' => e = .returned (.tuple #[.int .i64 0, .bool true]) ∧ Below w.heap.size w w' := by
  have hh := i64_half 0
  go_enter Try.func80, Try.ntmps80
  go_wp2
  refine wp_loop_rounds 1 ?_
  rw [rounds_succ]
  go_wp2
  go_ret2
  exact ⟨rfl, Below.refl _ _⟩
set_option maxHeartbeats 800000 in
theorem sum_0 (a : Option Addr) (cap : Nat) (w : World) : Calls Try.prog 41 #[.slice a 0 cap] w fun e w' => e = .returned (.tuple #[.int .i64 0, .bool true]) ∧ Below w.heap.size w w' := by
  have HS := Lib.hid (show Two w.heap.size 0 0 ((w.alloc (.cells #[.int .u64 0, .int .u64 0] 124)).alloc (.cells #[.int .u64 0, .int .u64 0] 124)) by constructor <;> simp [go_sem])
  have hmf := makeF
  go_enter Try.func41, Try.ntmps41
  go_wp2
  refine wp_loop_rounds 1 ?_
  rw [rounds_succ]
  go_wp2_with fail
  refine (below_c 0 0 0 0 _ false (by omega) (by omega) (by omega) (by omega) (by decide)).mono ?_
  rintro e w1 ⟨rfl, b1⟩
  have z1 := b1.size
  simp at z1
  have B1 : Below w.heap.size w w1 := (((Below.refl _ _).alloc (Nat.le_refl _) _).alloc (by simp) _).trans (b1.mono (by simp; omega))
  have T1 := HS.out.later b1
  have c0 : w1.cell? ⟨w.heap.size, 0, none⟩ = some (.int .u64 0) := T1.u0
  have c1 : w1.cell? ⟨w.heap.size, 1, none⟩ = some (.int .u64 0) := T1.u1
  have c2 : w1.cell? ⟨w.heap.size + 1, 0, none⟩ = some (.int .u64 0) := T1.d0
  have c3 : w1.cell? ⟨w.heap.size + 1, 1, none⟩ = some (.int .u64 0) := T1.d1
  clear T1 HS
  clear b1
  go_wp2_with fail
  refine (signs1_p 1 w1.heap.size _ (by simp) (by simp [go_sem]) (by omega)).mono ?_
  rintro e w2 ⟨rfl, b2, d1, d2⟩
  simp at d1 d2
  have B2 : Below w.heap.size w w2 := (B1.alloc (by omega) _).trans (b2.mono (by simp; omega))
  have e0 : w2.cell? ⟨w.heap.size, 0, none⟩ = some (.int .u64 0) := by rw [b2.cell (by simp; omega), World.cell?_alloc_past _ _ _ (by omega)]; exact c0
  have e1 : w2.cell? ⟨w.heap.size, 1, none⟩ = some (.int .u64 0) := by rw [b2.cell (by simp; omega), World.cell?_alloc_past _ _ _ (by omega)]; exact c1
  have e2 : w2.cell? ⟨w.heap.size + 1, 0, none⟩ = some (.int .u64 0) := by rw [b2.cell (by simp; omega), World.cell?_alloc_past _ _ _ (by omega)]; exact c2
  have e3 : w2.cell? ⟨w.heap.size + 1, 1, none⟩ = some (.int .u64 0) := by rw [b2.cell (by simp; omega), World.cell?_alloc_past _ _ _ (by omega)]; exact c3
  clear b2 c0 c1 c2 c3
  go_wp2_with fail
  refine (less_is 0 0 _ (by omega) (by omega) (by omega)).mono ?_
  rintro e w3 ⟨rfl, b3⟩
  have B3 := B2.trans (b3.mono B2.size)
  have d3 : w3.cell? ⟨w1.heap.size + 1, 0, none⟩ = some (.bool false) := by rw [b3.cell (by simpa using d2)]; exact d1
  have z3 := b3.size
  clear b3
  go_wp2_with fail
  refine (give_is false 0 0 (w1.heap.size + 1) _ (by omega) d3 (by omega) (by omega) rfl 0 true (by decide)).mono ?_
  rintro e w4 ⟨rfl, b4⟩
  have B4 := B3.trans (b4.mono B3.size)
  go_wp2_with fail
  go_ret2
  exact ⟨rfl, B4⟩

/-- A slice of integers that came in. -/
def IsRow (k : IntKind) (w : World) (a : Option Addr) (len cap : Nat) (zs : List Int) : Prop :=
  (a = none ∧ len = 0 ∧ cap = 0 ∧ zs = []) ∨
  ∃ x, a = some x ∧ len ≤ cap ∧ cap ≤ maxLen ∧ zs.length = cap ∧ (∀ i, i < zs.length → w.cell? (x.add i) = some (.int k (zs.getD i 0))) ∧ ∀ n ∈ zs, (Lit.int k n).wf = true
theorem cells_later {w w' : World} (hb : Below w.heap.size w w') {b off : Nat} {zs : List Int} {k : IntKind} (hc : ∀ j, j < zs.length → w.cell? ⟨b, off + j, none⟩ = some (.int k (zs.getD j 0))) :
    ∀ j, j < zs.length → w'.cell? ⟨b, off + j, none⟩ = some (.int k (zs.getD j 0)) := fun j hj => by
  rw [hb.cell (World.block_lt_of_cell? _ _ (hc j hj))]; exact hc j hj

end Go.Proofs.Ytnblilonjpfdnaa
end
