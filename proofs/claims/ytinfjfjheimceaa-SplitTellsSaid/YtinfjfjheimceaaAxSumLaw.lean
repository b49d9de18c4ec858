/- The document's sum, sums of no number, and the walk of ArithSum. -/
import Derived.Test.YtinfjfjheimceaaAxRing
import Derived.OpenShut
import Derived.IntWalk
namespace Go.Proofs.Ytinfjfjheimceaa
open Go.RowKit

theorem i64_half (x : Int) : bits .and .i64 x 4294967295 = x % 4294967296 := by
  have e1 : (BitVec.ofInt 64 x).toNat = (x % 18446744073709551616).toNat := by rw [BitVec.toNat_ofInt]; rfl
  have e2 : (BitVec.ofInt 64 (4294967295 : Int)).toNat = 4294967295 := by decide
  show IntKind.i64.wrap ((BitVec.ofInt 64 x &&& BitVec.ofInt 64 4294967295).toNat : Int) = _
  rw [BitVec.toNat_and, e1, e2, show ∀ n : Nat, n &&& 4294967295 = n % 4294967296 from fun n => Nat.and_two_pow_sub_one_eq_mod n 32, IntKind.wrap_i64]
  omega
/-- The halves' sums. -/
def hiS (l : List Int) : Int := (l.map fun x => x / 4294967296).sum
def loS (l : List Int) : Int := (l.map fun x => x % 4294967296).sum
theorem halves (l : List Int) : l.sum = hiS l * 4294967296 + loS l := by
  induction l with
  | nil => rfl
  | cons x l ih => simp only [hiS, loS, List.map_cons, List.sum_cons] at *; omega
theorem halves_bd (l : List Int) (h : ∀ x ∈ l, -9223372036854775808 ≤ x ∧ x ≤ 9223372036854775807) : 0 ≤ loS l ∧ loS l ≤ l.length * 4294967296 ∧ -(l.length * 2147483648 : Int) ≤ hiS l ∧ hiS l ≤ l.length * 2147483648 := by
  induction l with
  | nil => simp [hiS, loS]
  | cons x l ih =>
    have := ih (fun y hy => h y (by simp [hy]))
    have := h x (by simp)
    simp only [hiS, loS, List.map_cons, List.sum_cons, List.length_cons] at *
    omega
theorem hiS_snoc (l : List Int) (x : Int) : hiS (l ++ [x]) = hiS l + x / 4294967296 := by simp [hiS]
theorem loS_snoc (l : List Int) (x : Int) : loS (l ++ [x]) = loS l + x % 4294967296 := by simp [loS]

set_option maxHeartbeats 800000 in
theorem sum_0 (a : Option Addr) (cap : Nat) (w : World) : Calls Try.prog 13 #[.slice a 0 cap] w fun e w' => e = .returned (.tuple #[.int .i64 0, .bool true]) ∧ Below w.heap.size w w' := by
  have HS := Lib.hid (show Two w.heap.size 0 0 ((w.alloc (.cells #[.int .u64 0, .int .u64 0] 52)).alloc (.cells #[.int .u64 0, .int .u64 0] 52)) by constructor <;> simp [go_sem])
  have hmf := makeF
  go_enter Try.func13, Try.ntmps13
  go_wp2
  refine wp_loop_rounds 1 ?_
  rw [rounds_succ]
  go_wp2_with fail
  refine (below_c 0 0 0 0 _ false (by omega) (by omega) (by omega) (by omega) (by decide)).mono ?_
  rintro e w1 ⟨rfl, b1⟩
  have z1 := b1.size
  simp at z1
  have B1 : Below w.heap.size w w1 := (((Below.refl _ _).alloc (Nat.le_refl _) _).alloc (by simp) _).trans (b1.mono (by simp; omega))
  have T1 := HS.out.later b1
  have c0 : w1.cell? ⟨w.heap.size, 0, none⟩ = some (.int .u64 0) := T1.u0
  have c1 : w1.cell? ⟨w.heap.size, 1, none⟩ = some (.int .u64 0) := T1.u1
  have c2 : w1.cell? ⟨w.heap.size + 1, 0, none⟩ = some (.int .u64 0) := T1.d0
  have c3 : w1.cell? ⟨w.heap.size + 1, 1, none⟩ = some (.int .u64 0) := T1.d1
  clear T1 HS
  clear b1
  go_wp2_with fail
  refine (signs1_p 1 w1.heap.size _ (by simp) (by simp [go_sem]) (by omega)).mono ?_
  rintro e w2 ⟨rfl, b2, d1, d2⟩
  simp at d1 d2
  have B2 : Below w.heap.size w w2 := (B1.alloc (by omega) _).trans (b2.mono (by simp; omega))
  have e0 : w2.cell? ⟨w.heap.size, 0, none⟩ = some (.int .u64 0) := by rw [b2.cell (by simp; omega), World.cell?_alloc_past _ _ _ (by omega)]; exact c0
  have e1 : w2.cell? ⟨w.heap.size, 1, none⟩ = some (.int .u64 0) := by rw [b2.cell (by simp; omega), World.cell?_alloc_past _ _ _ (by omega)]; exact c1
  have e2 : w2.cell? ⟨w.heap.size + 1, 0, none⟩ = some (.int .u64 0) := by rw [b2.cell (by simp; omega), World.cell?_alloc_past _ _ _ (by omega)]; exact c2
  have e3 : w2.cell? ⟨w.heap.size + 1, 1, none⟩ = some (.int .u64 0) := by rw [b2.cell (by simp; omega), World.cell?_alloc_past _ _ _ (by omega)]; exact c3
  clear b2 c0 c1 c2 c3
  go_wp2_with fail
  refine (less_is 0 0 _ (by omega) (by omega) (by omega)).mono ?_
  rintro e w3 ⟨rfl, b3⟩
  have B3 := B2.trans (b3.mono B2.size)
  have d3 : w3.cell? ⟨w1.heap.size + 1, 0, none⟩ = some (.bool false) := by rw [b3.cell (by simpa using d2)]; exact d1
  have z3 := b3.size
  clear b3
  go_wp2_with fail
  refine (give_is false 0 0 (w1.heap.size + 1) _ (by omega) d3 (by omega) (by omega) rfl 0 true (by decide)).mono ?_
  rintro e w4 ⟨rfl, b4⟩
  have B4 := B3.trans (b4.mono B3.size)
  go_wp2_with fail
  go_ret2
  exact ⟨rfl, B4⟩

/-- A slice of integers that came in. -/
def IsRow (k : IntKind) (w : World) (a : Option Addr) (len cap : Nat) (zs : List Int) : Prop :=
  (a = none ∧ len = 0 ∧ cap = 0 ∧ zs = []) ∨
  ∃ x, a = some x ∧ len ≤ cap ∧ cap ≤ maxLen ∧ zs.length = cap ∧ (∀ i, i < zs.length → w.cell? (x.add i) = some (.int k (zs.getD i 0))) ∧ ∀ n ∈ zs, (Lit.int k n).wf = true
theorem cells_later {w w' : World} (hb : Below w.heap.size w w') {b off : Nat} {zs : List Int} {k : IntKind} (hc : ∀ j, j < zs.length → w.cell? ⟨b, off + j, none⟩ = some (.int k (zs.getD j 0))) :
    ∀ j, j < zs.length → w'.cell? ⟨b, off + j, none⟩ = some (.int k (zs.getD j 0)) := fun j hj => by
  rw [hb.cell (World.block_lt_of_cell? _ _ (hc j hj))]; exact hc j hj

end Go.Proofs.Ytinfjfjheimceaa
