/- The document's sum, sums of no number, and the walk of ArithSum. -/
import Derived.Test.YtehofpmkplkaaaaArRing
import Derived.OpenShut
import Derived.IntWalk
namespace Go.Proofs.Ytehofpmkplkaaaa
open Go.RowKit

theorem i64_half (x : Int) : bits .and .i64 x 4294967295 = x % 4294967296 := by
  have e1 : (BitVec.ofInt 64 x).toNat = (x % 18446744073709551616).toNat := by rw [BitVec.toNat_ofInt]; rfl
  have e2 : (BitVec.ofInt 64 (4294967295 : Int)).toNat = 4294967295 := by decide
  show IntKind.i64.wrap ((BitVec.ofInt 64 x &&& BitVec.ofInt 64 4294967295).toNat : Int) = _
  rw [BitVec.toNat_and, e1, e2, show ∀ n : Nat, n &&& 4294967295 = n % 4294967296 from fun n => Nat.and_two_pow_sub_one_eq_mod n 32, IntKind.wrap_i64]
  omega
/-- The halves' sums. -/
def hiS (l : List Int) : Int := (l.map fun x => x / 4294967296).sum
def loS (l : List Int) : Int := (l.map fun x => x % 4294967296).sum
theorem halves (l : List Int) : l.sum = hiS l * 4294967296 + loS l := by
  induction l with
  | nil => rfl
  | cons x l ih => simp only [hiS, loS, List.map_cons, List.sum_cons] at *; omega
theorem halves_bd (l : List Int) (h : ∀ x ∈ l, -9223372036854775808 ≤ x ∧ x ≤ 9223372036854775807) : 0 ≤ loS l ∧ loS l ≤ l.length * 4294967296 ∧ -(l.length * 2147483648 : Int) ≤ hiS l ∧ hiS l ≤ l.length * 2147483648 := by
  induction l with
  | nil => simp [hiS, loS]
  | cons x l ih =>
    have := ih (fun y hy => h y (by simp [hy]))
    have := h x (by simp)
    simp only [hiS, loS, List.map_cons, List.sum_cons, List.length_cons] at *
    omega
theorem hiS_snoc (l : List Int) (x : Int) : hiS (l ++ [x]) = hiS l + x / 4294967296 := by simp [hiS]
theorem loS_snoc (l : List Int) (x : Int) : loS (l ++ [x]) = loS l + x % 4294967296 := by simp [loS]

set_option maxHeartbeats 800000 in
theorem rsum_c (b off len cap : Nat) (zs : List Int) (w : World) (hl : len ≤ zs.length) (hm : len ≤ 300) (hz : ∀ x ∈ zs, -9223372036854775808 ≤ x ∧ x ≤ 9223372036854775807)
    (hc : ∀ j, j < zs.length → w.cell? ⟨b, off + j, none⟩ = some (.int .i64 (zs.getD j 0))) :
    Calls Try.prog 44 #[.slice (some ⟨b, off, none⟩) len cap] w (Told (zs.take len).sum w) := by
  go_enter Try.func44, Try.ntmps44
  go_wp2
  go_loop [4, 5, 6] (fun h l s => ∃ k : Nat, k ≤ len ∧ s = .int .i64 k ∧ h = .int .i64 (hiS (zs.take k)) ∧ l = .int .i64 (loS (zs.take k))) (fun _ _ s => len - (intOf s).toNat)
  case atStart => exact ⟨0, by omega, rfl, rfl, rfl⟩
  case round =>
    obtain ⟨k, hk, rfl, rfl, rfl⟩ := hrel
    have hsn := halves_bd (zs.take k) (fun x hx => hz x (List.mem_of_mem_take hx))
    have hlen : (zs.take k).length ≤ k := List.length_take_le _ _
    have h300 : ((zs.take k).length : Int) ≤ 300 := by omega
    obtain ⟨l0, l1, h0, h1⟩ := hsn
    have l2 : loS (zs.take k) ≤ 1288490188800 := by omega
    have h2 : -644245094400 ≤ hiS (zs.take k) := by omega
    have h3 : hiS (zs.take k) ≤ 644245094400 := by omega
    clear l1 h0 h1 hlen h300
    by_cases hlt : k < len
    · have hcell := hc k (by omega)
      have hbd := hz (zs.getD k 0) (by simp [show k < zs.length by omega])
      have hts := Ar.take_snoc zs k (by omega)
      have HP := Lib.hid (show hiS (zs.take (k + 1)) = hiS (zs.take k) + zs.getD k 0 / 4294967296 by rw [hts, hiS_snoc])
      have HN := Lib.hid (show loS (zs.take (k + 1)) = loS (zs.take k) + zs.getD k 0 % 4294967296 by rw [hts, loS_snoc])
      have hh := i64_half (zs.getD k 0)
      clear hts hc hz
      generalize zs.getD k 0 = x at *
      obtain ⟨x1, x2⟩ := hbd
      generalize hiS (zs.take k) = H at *
      generalize loS (zs.take k) = L at *
      go_wp2
      go_round
      case rel => exact ⟨k + 1, by omega, by go_num, by rw [HP.out], by rw [HN.out]⟩
      case measure => simp [intOf]; omega
    · obtain rfl : k = len := by omega
      have HE := Lib.hid (halves (zs.take k))
      clear hc hz hlt
      generalize hiS (zs.take k) = H at *
      generalize loS (zs.take k) = L at *
      generalize (zs.take k).sum = S at *
      have hh := i64_half L
      by_cases c1 : H + L / 4294967296 < -2147483648
      · have E := Lib.hid (ok_out (n := S) (Or.inl (by have := HE.out; omega)))
        go_wp2
        go_ret2
        exact ⟨ret_ib E.out.2.symm E.out.1.symm, Below.refl _ _⟩
      by_cases c2 : 2147483648 ≤ H + L / 4294967296
      · have E := Lib.hid (ok_out (n := S) (Or.inr (by have := HE.out; omega)))
        go_wp2
        go_ret2
        exact ⟨ret_ib E.out.2.symm E.out.1.symm, Below.refl _ _⟩
      · have E := Lib.hid (ok_in (n := S) (by have := HE.out; omega) (by have := HE.out; omega))
        go_wp2
        go_ret2
        exact ⟨ret_ib (by rw [E.out.2]; have := HE.out; omega) E.out.1.symm, Below.refl _ _⟩

theorem rsum_0 (a : Option Addr) (cap : Nat) (w : World) : Calls Try.prog 44 #[.slice a 0 cap] w fun e w' => e = .returned (.tuple #[.int .i64 0, .bool true]) ∧ Below w.heap.size w w' := by
  have hh := i64_half 0
  go_enter Try.func44, Try.ntmps44
  go_wp2
  refine wp_loop_rounds 1 ?_
  rw [rounds_succ]
  go_wp2
  go_ret2
  exact ⟨rfl, Below.refl _ _⟩
set_option maxHeartbeats 800000 in
theorem sum_0 (a : Option Addr) (cap : Nat) (w : World) : Calls Try.prog 43 #[.slice a 0 cap] w fun e w' => e = .returned (.tuple #[.int .i64 0, .bool true]) ∧ Below w.heap.size w w' := by
  have HS := Lib.hid (show Two w.heap.size 0 0 ((w.alloc (.cells #[.int .u64 0, .int .u64 0] 76)).alloc (.cells #[.int .u64 0, .int .u64 0] 76)) by constructor <;> simp [go_sem])
  have hmf := makeF
  go_enter Try.func43, Try.ntmps43
  go_wp2
  refine wp_loop_rounds 1 ?_
  rw [rounds_succ]
  go_wp2_with fail
  refine (below_c 0 0 0 0 _ false (by omega) (by omega) (by omega) (by omega) (by decide)).mono ?_
  rintro e w1 ⟨rfl, b1⟩
  have z1 := b1.size
  simp at z1
  have B1 : Below w.heap.size w w1 := (((Below.refl _ _).alloc (Nat.le_refl _) _).alloc (by simp) _).trans (b1.mono (by simp; omega))
  have T1 := HS.out.later b1
  have c0 : w1.cell? ⟨w.heap.size, 0, none⟩ = some (.int .u64 0) := T1.u0
  have c1 : w1.cell? ⟨w.heap.size, 1, none⟩ = some (.int .u64 0) := T1.u1
  have c2 : w1.cell? ⟨w.heap.size + 1, 0, none⟩ = some (.int .u64 0) := T1.d0
  have c3 : w1.cell? ⟨w.heap.size + 1, 1, none⟩ = some (.int .u64 0) := T1.d1
  clear T1 HS
  clear b1
  go_wp2_with fail
  refine (signs1_p 1 w1.heap.size _ (by simp) (by simp [go_sem]) (by omega)).mono ?_
  rintro e w2 ⟨rfl, b2, d1, d2⟩
  simp at d1 d2
  have B2 : Below w.heap.size w w2 := (B1.alloc (by omega) _).trans (b2.mono (by simp; omega))
  have e0 : w2.cell? ⟨w.heap.size, 0, none⟩ = some (.int .u64 0) := by rw [b2.cell (by simp; omega), World.cell?_alloc_past _ _ _ (by omega)]; exact c0
  have e1 : w2.cell? ⟨w.heap.size, 1, none⟩ = some (.int .u64 0) := by rw [b2.cell (by simp; omega), World.cell?_alloc_past _ _ _ (by omega)]; exact c1
  have e2 : w2.cell? ⟨w.heap.size + 1, 0, none⟩ = some (.int .u64 0) := by rw [b2.cell (by simp; omega), World.cell?_alloc_past _ _ _ (by omega)]; exact c2
  have e3 : w2.cell? ⟨w.heap.size + 1, 1, none⟩ = some (.int .u64 0) := by rw [b2.cell (by simp; omega), World.cell?_alloc_past _ _ _ (by omega)]; exact c3
  clear b2 c0 c1 c2 c3
  go_wp2_with fail
  refine (less_is 0 0 _ (by omega) (by omega) (by omega)).mono ?_
  rintro e w3 ⟨rfl, b3⟩
  have B3 := B2.trans (b3.mono B2.size)
  have d3 : w3.cell? ⟨w1.heap.size + 1, 0, none⟩ = some (.bool false) := by rw [b3.cell (by simpa using d2)]; exact d1
  have z3 := b3.size
  clear b3
  go_wp2_with fail
  refine (give_is false 0 0 (w1.heap.size + 1) _ (by omega) d3 (by omega) (by omega) rfl 0 true (by decide)).mono ?_
  rintro e w4 ⟨rfl, b4⟩
  have B4 := B3.trans (b4.mono B3.size)
  go_wp2_with fail
  go_ret2
  exact ⟨rfl, B4⟩

/-- A slice of integers that came in. -/
def IsRow (k : IntKind) (w : World) (a : Option Addr) (len cap : Nat) (zs : List Int) : Prop :=
  (a = none ∧ len = 0 ∧ cap = 0 ∧ zs = []) ∨
  ∃ x, a = some x ∧ len ≤ cap ∧ cap ≤ maxLen ∧ zs.length = cap ∧ (∀ i, i < zs.length → w.cell? (x.add i) = some (.int k (zs.getD i 0))) ∧ ∀ n ∈ zs, (Lit.int k n).wf = true
theorem cells_later {w w' : World} (hb : Below w.heap.size w w') {b off : Nat} {zs : List Int} {k : IntKind} (hc : ∀ j, j < zs.length → w.cell? ⟨b, off + j, none⟩ = some (.int k (zs.getD j 0))) :
    ∀ j, j < zs.length → w'.cell? ⟨b, off + j, none⟩ = some (.int k (zs.getD j 0)) := fun j hj => by
  rw [hb.cell (World.block_lt_of_cell? _ _ (hc j hj))]; exact hc j hj

set_option maxHeartbeats 800000 in
theorem sumlaw_c (a : Option Addr) (len cap : Nat) (zs : List Int) (w : World) (hr : IsRow .i64 w a len cap zs) :
    Calls Try.prog 10 #[.slice a len cap] w fun e w' => e = .returned (.bool true) ∧ Below w.heap.size w w' := by
  have hmax : len ≤ 9223372036854775807 := by
    rcases hr with ⟨_, rfl, _⟩ | ⟨x, _, hl, hm, _⟩
    · omega
    · unfold maxLen at hm; omega
  by_cases hbig : 300 < len
  · clear hr
    go_enter Try.func10, Try.ntmps10
    go_wp2_with fail
    refine (head_c _).mono ?_
    rintro e w1 ⟨rfl, b1⟩
    go_wp2_with fail
    go_ret
    exact ⟨rfl, b1⟩
  by_cases h0 : len = 0
  · subst h0
    clear hr hbig
    go_enter Try.func10, Try.ntmps10
    go_wp2_with fail
    refine (sum_0 a cap _).mono ?_
    rintro e w1 ⟨rfl, b1⟩
    go_wp2_with fail
    refine (rsum_0 a cap _).mono ?_
    rintro e w2 ⟨rfl, b2⟩
    have B2 := b1.trans (b2.mono b1.size)
    go_wp2_with fail
    refine (head_c _).mono ?_
    rintro e w3 ⟨rfl, b3⟩
    have B3 := B2.trans (b3.mono B2.size)
    go_wp2_with fail
    go_ret
    exact ⟨rfl, B3⟩
  · have h300 : len ≤ 300 := by omega
    have h1 : 1 ≤ len := by omega
    rcases hr with ⟨_, hl, _, _⟩ | ⟨x, rfl, hl, hm, hz, hcell, hwz⟩
    · omega
    obtain ⟨b, off, rfl, hc⟩ := ints_at hcell (by omega)
    have hbd : ∀ x ∈ zs, -9223372036854775808 ≤ x ∧ x ≤ 9223372036854775807 := fun x hx => bounds_i64 (hwz x hx)
    have hblk : b < w.heap.size := World.block_lt_of_cell? _ _ (hc 0 (by omega))
    have K1 := Lib.hid (sum_c b off len cap zs w hblk (by omega) (by omega) hbd hc)
    have K2 := Lib.hid (fun w' (hb : Below w.heap.size w w') => rsum_c b off len cap zs w' (by omega) h300 hbd (cells_later hb hc))
    clear hbig h0 hcell hwz hc hbd hz
    go_enter Try.func10, Try.ntmps10
    go_wp2_with fail
    refine K1.out.mono ?_
    rintro e w1 ⟨rfl, b1⟩
    go_wp2_with fail
    refine (K2.out _ b1).mono ?_
    rintro e w2 ⟨rfl, b2⟩
    have B2 := b1.trans (b2.mono b1.size)
    go_wp2_with fail
    refine (head_c _).mono ?_
    rintro e w3 ⟨rfl, b3⟩
    have B3 := B2.trans (b3.mono B2.size)
    go_wp2_with fail
    go_ret
    exact ⟨rfl, B3⟩
end Go.Proofs.Ytehofpmkplkaaaa
