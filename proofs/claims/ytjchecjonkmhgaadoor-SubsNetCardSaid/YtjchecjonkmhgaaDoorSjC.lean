/- Joined: AmRing AmParts AmBits AmRow AmRefBits AmRefNum AmRefMul AmUpon AmDivs. -/
import Derived.Test.YtjchecjonkmhgaaDoorSjB
import Derived.BigQuiet
import Derived.Deep.QuietTactic
import Derived.Test.YtjchecjonkmhgaaDoorSjA
import Derived.Test.YtjchecjonkmhgaaDoorCmRow
import Derived.Deep.RegionHeld3
section
namespace Go.Proofs.YtjchecjonkmhgaaDoor
open Go.RowKit

theorem val_i64 (n : Int) : I64 (Ar.val n) := by
  unfold Ar.val
  by_cases h : Ar.Fits n
  · rw [if_pos h]; exact h
  · rw [if_neg h]; exact ⟨by omega, by omega⟩
theorem told_eq {P : Program} {f : FuncId} {args : Array Value} {n m : Int} {w : World} (h : Calls P f args w (Told n w)) (hm : n = m) : Calls P f args w (Told m w) := by subst hm; exact h
theorem zero_i64 : I64 0 := ⟨by omega, by omega⟩
theorem i64_of {n : Int} (h : Ar.Fits n) : I64 n := h
end Go.Proofs.YtjchecjonkmhgaaDoor
end
section
namespace Go.Proofs.YtjchecjonkmhgaaDoor
open Go.RowKit

theorem below_q {w : World} (o : Obj) (n : Nat) : Below w.heap.size w ((w.alloc o).drewN n) := ((Below.refl _ _).alloc (Nat.le_refl _) o).trans ⟨rfl, rfl, rfl, Nat.le_refl _, fun _ _ => rfl⟩
/-- The rest that MulDiv tells. -/
def mdr (P c : Int) : Int := if Ar.ok (P / c) then P % c else 0
theorem muldiv_told (a b c P : Int) (w : World) (ha : I64 a) (hb : I64 b) (c1 : 1 ≤ c) (c2 : c < 9223372036854775808) (hP : a * b = P) :
    Calls Tryd.prog 79 #[.int .i64 a, .int .i64 b, .int .i64 c] w fun e w' => e = .returned (.tuple #[.int .i64 (Ar.val (P / c)), .int .i64 (mdr P c), .bool (Ar.ok (P / c))]) ∧ Below w.heap.size w w' := by
  subst hP
  rcases ok_or (a * b / c) with ⟨h1, h2⟩ | ⟨h1, h2⟩
  · rw [h1, h2, mdr, h2, if_pos rfl]; exact (muldiv_c a b c w ha hb c1 c2).1 h2
  · rw [h1, h2, mdr, h2, if_neg (by decide)]; exact (muldiv_c a b c w ha hb c1 c2).2 h2
theorem quo_mono (lo hi n c : Int) (h : lo ≤ hi) (n0 : 0 ≤ n) (c1 : 1 ≤ c) : lo * n / c ≤ hi * n / c := Int.ediv_le_ediv (by omega) (Int.mul_le_mul_of_nonneg_right h n0)
theorem quo_parts (lo hi s n c : Int) (hs : lo + hi = s) (c1 : 1 ≤ c) : lo * n / c + hi * n / c = s * n / c ∨ lo * n / c + hi * n / c = s * n / c - 1 := by
  subst hs
  rw [Int.add_mul]
  have e1 := Int.mul_ediv_add_emod (lo * n) c
  have e2 := Int.mul_ediv_add_emod (hi * n) c
  have r1 := Int.emod_nonneg (lo * n) (show c ≠ 0 by omega)
  have r2 := Int.emod_nonneg (hi * n) (show c ≠ 0 by omega)
  have r3 := Int.emod_lt_of_pos (lo * n) (show 0 < c by omega)
  have r4 := Int.emod_lt_of_pos (hi * n) (show 0 < c by omega)
  have e3 : lo * n + hi * n = (lo * n % c + hi * n % c) + c * (lo * n / c + hi * n / c) := by grind
  rw [e3, Int.add_mul_ediv_left _ _ (by omega)]
  by_cases h : lo * n % c + hi * n % c < c
  · have : (lo * n % c + hi * n % c) / c = 0 := Int.ediv_eq_zero_of_lt (by omega) h
    omega
  · have : (lo * n % c + hi * n % c) / c = 1 := by
      have h1 : (lo * n % c + hi * n % c - c) / c = 0 := Int.ediv_eq_zero_of_lt (by omega) (by omega)
      have h2 := Int.add_mul_ediv_left (lo * n % c + hi * n % c - c) 1 (show c ≠ 0 by omega)
      rw [h1, show lo * n % c + hi * n % c - c + c * 1 = lo * n % c + hi * n % c by omega] at h2
      omega
    omega
end Go.Proofs.YtjchecjonkmhgaaDoor
end
section
namespace Go.Proofs.YtjchecjonkmhgaaDoor.Bz
theorem edd {a b c : Int} (hb : 0 ≤ b) : a / b / c = a / (b * c) := by
  rw [Int.ediv_ediv, if_neg (fun h => absurd h.1 (by omega)), Int.sub_zero]
def pw (i : Nat) : Int := 2 ^ i
theorem pw_zero : pw 0 = 1 := rfl
theorem pw_succ (i : Nat) : pw (i + 1) = 2 * pw i := by unfold pw; rw [Int.pow_succ, Int.mul_comm]
theorem pw_pos (i : Nat) : 0 < pw i := by
  induction i with
  | zero => decide
  | succ i ih => rw [pw_succ]; omega
/-- Bit i of an integer. -/
def bit (z : Int) (i : Nat) : Int := z / pw i % 2
theorem bit_range (z : Int) (i : Nat) : 0 ≤ bit z i ∧ bit z i ≤ 1 := by unfold bit; omega
theorem div_succ (z : Int) (i : Nat) : z / pw (i + 1) = z / pw i / 2 := by
  rw [pw_succ, Int.mul_comm, edd (Int.le_of_lt (pw_pos i))]
theorem split (z : Int) (i : Nat) : z = pw i * (z / pw i) + z % pw i := (Int.mul_ediv_add_emod z (pw i)).symm
theorem mod_succ (z : Int) (i : Nat) : z % pw (i + 1) = bit z i * pw i + z % pw i := by
  have hp := pw_pos i
  have h0 := Int.emod_nonneg z (show pw i ≠ 0 by omega)
  have h1 := Int.emod_lt_of_pos z hp
  have h2 := split z i
  have h3 := bit_range z i
  have h4 : z / pw i = 2 * (z / pw i / 2) + bit z i := by unfold bit; omega
  refine ((Int.ediv_emod_unique (a := z) (b := pw (i + 1)) (q := z / pw i / 2) (r := bit z i * pw i + z % pw i) (pw_pos _)).2 ⟨?_, ?_, ?_⟩).2
  · rw [pw_succ]
    generalize z / pw i / 2 = q at *
    generalize bit z i = b at *
    generalize z % pw i = r at *
    generalize pw i = p at *
    rw [h4, Int.mul_add] at h2
    have e1 : p * (2 * q) = 2 * p * q := by rw [← Int.mul_assoc, Int.mul_comm p 2]
    have e2 : p * b = b * p := Int.mul_comm _ _
    omega
  · have := Int.mul_nonneg h3.1 (Int.le_of_lt hp); omega
  · rw [pw_succ]
    have : bit z i = 0 ∨ bit z i = 1 := by omega
    rcases this with e | e <;> rw [e] <;> omega
def carry (x y c0 : Int) (i : Nat) : Int := (x % pw i + y % pw i + c0) / pw i
theorem carry_zero (x y c0 : Int) : carry x y c0 0 = c0 := by
  unfold carry; rw [pw_zero]; omega
theorem div_of {a p q r : Int} (hp : 0 < p) (h : a = p * q + r) (h0 : 0 ≤ r) (h1 : r < p) : a / p = q :=
  ((Int.ediv_emod_unique hp).2 ⟨by omega, h0, h1⟩).1
theorem carry_range (x y c0 : Int) (i : Nat) (h0 : 0 ≤ c0) (h1 : c0 ≤ 1) : 0 ≤ carry x y c0 i ∧ carry x y c0 i ≤ 1 := by
  have hp := pw_pos i
  have a0 := Int.emod_nonneg x (show pw i ≠ 0 by omega)
  have a1 := Int.emod_lt_of_pos x hp
  have b0 := Int.emod_nonneg y (show pw i ≠ 0 by omega)
  have b1 := Int.emod_lt_of_pos y hp
  unfold carry
  constructor
  · exact Int.ediv_nonneg (by omega) (by omega)
  · have : (x % pw i + y % pw i + c0) / pw i < 2 := Int.ediv_lt_of_lt_mul hp (by omega)
    omega
theorem div_add (x y c0 : Int) (i : Nat) : (x + y + c0) / pw i = x / pw i + y / pw i + carry x y c0 i := by
  have hp := pw_pos i
  have h1 := split x i
  have h2 := split y i
  have e : x + y + c0 = (x % pw i + y % pw i + c0) + pw i * (x / pw i + y / pw i) := by rw [Int.mul_add]; omega
  rw [e, Int.add_mul_ediv_left _ _ (show pw i ≠ 0 by omega)]
  unfold carry
  omega
theorem bit_add (x y c0 : Int) (i : Nat) : bit (x + y + c0) i = (bit x i + bit y i + carry x y c0 i) % 2 := by
  unfold bit
  rw [div_add]
  omega
theorem carry_succ (x y c0 : Int) (i : Nat) : carry x y c0 (i + 1) = (bit x i + bit y i + carry x y c0 i) / 2 := by
  have h1 := div_add x y c0 (i + 1)
  have h2 := div_add x y c0 i
  rw [div_succ, div_succ, div_succ, h2] at h1
  unfold bit
  omega
theorem bit_not (z : Int) (i : Nat) : bit (-1 - z) i = 1 - bit z i := by
  have hp := pw_pos i
  have h0 := Int.emod_nonneg z (show pw i ≠ 0 by omega)
  have h1 := Int.emod_lt_of_pos z hp
  have h2 := split z i
  have : (-1 - z) / pw i = -1 - z / pw i := by
    refine div_of (r := pw i - 1 - z % pw i) hp ?_ (by omega) (by omega)
    rw [Int.mul_sub, Int.mul_neg, Int.mul_one]; omega
  unfold bit
  rw [this]
  omega
theorem bit_zero (i : Nat) : bit 0 i = 0 := by unfold bit; simp
theorem div_small (z : Int) (i : Nat) (h0 : 0 ≤ z) (h1 : z < pw i) : z / pw i = 0 := Int.ediv_eq_zero_of_lt h0 h1
theorem div_neg (z : Int) (i : Nat) (h0 : z < 0) (h1 : -pw i ≤ z) : z / pw i = -1 := div_of (r := z + pw i) (pw_pos i) (by omega) (by omega) (by omega)
theorem pw_mono {i j : Nat} (h : i ≤ j) : pw i ≤ pw j := by
  induction j with
  | zero => have : i = 0 := by omega
            subst this; exact Int.le_refl _
  | succ j ih =>
    by_cases e : i = j + 1
    · subst e; exact Int.le_refl _
    · have := ih (by omega)
      have := pw_pos j
      rw [pw_succ]; omega
/-- Above its own bits an integer is its sign. -/
theorem bit_high (z : Int) (k i : Nat) (h : k ≤ i) (h0 : -pw k ≤ z) (h1 : z < pw k) : bit z i = if z < 0 then 1 else 0 := by
  have := pw_mono h
  unfold bit
  split
  · rw [div_neg z i (by omega) (by omega)]; rfl
  · rw [div_small z i (by omega) (by omega)]; rfl
/-- The low bits of what is left modulo a power. -/
theorem bit_mod (z : Int) (k i : Nat) (h : i < k) : bit (z % pw k) i = bit z i := by
  obtain ⟨d, rfl⟩ : ∃ d, k = i + 1 + d := ⟨k - i - 1, by omega⟩
  have hs := split z (i + 1 + d)
  have hm : pw (i + 1 + d) = pw i * (2 * pw d) := by
    unfold pw; rw [show i + 1 + d = i + (1 + d) by omega, Int.pow_add, Int.pow_add]; rfl
  have hp := pw_pos i
  unfold bit
  have e : z / pw i = z % pw (i + 1 + d) / pw i + 2 * (pw d * (z / pw (i + 1 + d))) := by
    conv => lhs; rw [hs]
    rw [hm, Int.mul_assoc, Int.add_comm, Int.add_mul_ediv_left _ _ (show pw i ≠ 0 by omega)]
    rw [Int.mul_assoc]
  rw [e]
  omega
/-- All bits from one on the same: none or all. -/
theorem all_same (y b : Int) (k : Nat) (h : ∀ i, i < k → bit y i = b) : y % pw k = b * (pw k - 1) := by
  induction k with
  | zero => rw [pw_zero]; omega
  | succ k ih =>
    have := ih (fun i hi => h i (by omega))
    rw [mod_succ, this, h k (by omega), pw_succ]
    rw [Int.mul_sub, Int.mul_sub]
    have : b * (2 * pw k) = b * pw k + b * pw k := by rw [← Int.mul_add]; congr 1; omega
    omega
theorem pw_63 : pw 63 = 9223372036854775808 := by decide
theorem pw_64 : pw 64 = 18446744073709551616 := by decide
theorem pw_135 : pw 135 = 43556142965880123323311949751266331066368 := by decide
theorem pw_72 : pw 72 = 4722366482869645213696 := by decide
theorem pw_73 : pw 73 = 9444732965739290427392 := by decide
theorem bit_up (z : Int) (k i : Nat) : bit (z / pw k) i = bit z (k + i) := by
  unfold bit
  have : pw (k + i) = pw k * pw i := by unfold pw; rw [Int.pow_add]
  rw [this, edd (Int.le_of_lt (pw_pos k))]
def Mid (z : Int) : Prop := -43556142965880123323311949751266331066368 ≤ z ∧ z < 43556142965880123323311949751266331066368
theorem fits_of (z : Int) (hz : Mid z) (h : ∀ i, 63 ≤ i → i < 136 → bit z i = bit z 63) : Ar.Fits z := by
  have hb := bit_range z 63
  have h1 := all_same (z / pw 63) (bit z 63) 73 (fun i hi => by rw [bit_up]; exact h _ (by omega) (by omega))
  rw [pw_73, pw_63] at h1
  unfold Mid at hz
  unfold Ar.Fits
  have : bit z 63 = 0 ∨ bit z 63 = 1 := by omega
  rcases this with e | e <;> rw [e] at h1 <;> omega
theorem of_fits (z : Int) (h : Ar.Fits z) (i : Nat) (hi : 63 ≤ i) : bit z i = bit z 63 := by
  unfold Ar.Fits at h
  rw [bit_high z 63 i hi (by rw [pw_63]; omega) (by rw [pw_63]; omega), bit_high z 63 63 (by omega) (by rw [pw_63]; omega) (by rw [pw_63]; omega)]
theorem below_bit (z : Int) (hz : Mid z) : bit z 135 = if z < 0 then 1 else 0 := by
  unfold Mid at hz
  exact bit_high z 135 135 (by omega) (by rw [pw_135]; omega) (by rw [pw_135]; omega)
/-- Of the 64 lowest bits, from the top. -/
theorem from_top (z : Int) (i : Nat) (h : i < 64) : z % pw 64 / pw i = 2 * (z % pw 64 / pw (i + 1)) + bit z i := by
  have h1 := bit_mod z 64 i h
  rw [div_succ]
  unfold bit at h1 ⊢
  omega
end Go.Proofs.YtjchecjonkmhgaaDoor.Bz
end
section
namespace Go.Proofs.YtjchecjonkmhgaaDoor.Bw
open Go.RowKit Cm Bz
def rowOf (f : Nat → Int) : List Value := (List.range 136).map fun j => .int .i64 (f j)
theorem rowOf_len (f : Nat → Int) : (rowOf f).length = 136 := by unfold rowOf; simp
theorem rowOf_get (f : Nat → Int) (i : Nat) (h : i < 136) : (rowOf f)[i]? = some (.int .i64 (f i)) := by
  unfold rowOf
  rw [List.getElem?_map, List.getElem?_range h]; rfl
theorem rowOf_at (f : Nat → Int) (i : Nat) (h : i < (rowOf f).length) : (rowOf f)[i] = .int .i64 (f i) := by
  have h1 := rowOf_get f i (by rw [rowOf_len] at h; exact h)
  rw [List.getElem?_eq_getElem h] at h1
  exact Option.some.inj h1
theorem rowOf_congr {f g : Nat → Int} (h : ∀ j, j < 136 → f j = g j) : rowOf f = rowOf g := by
  unfold rowOf
  refine List.map_congr_left fun j hj => ?_
  rw [h j (List.mem_range.1 hj)]
theorem rowOf_set (f : Nat → Int) (i : Nat) (v : Int) : (rowOf f).set i (.int .i64 v) = rowOf fun j => if j = i then v else f j := by
  refine List.ext_getElem (by rw [List.length_set, rowOf_len, rowOf_len]) fun j h1 h2 => ?_
  rw [List.getElem_set, rowOf_at, rowOf_at]
  by_cases e : i = j
  · rw [if_pos e, if_pos e.symm]
  · rw [if_neg e, if_neg (fun h => e h.symm)]
def upTo (f : Nat → Int) (i : Nat) : Nat → Int := fun j => if j < i then f j else 0
theorem upTo_set (f : Nat → Int) (i : Nat) : (rowOf (upTo f i)).set i (.int .i64 (f i)) = rowOf (upTo f (i + 1)) := by
  rw [rowOf_set]
  refine rowOf_congr fun j _ => ?_
  unfold upTo
  by_cases e : j = i
  · subst e; rw [if_pos rfl, if_pos (by omega)]
  · rw [if_neg e]
    by_cases h : j < i
    · rw [if_pos h, if_pos (by omega)]
    · rw [if_neg h, if_neg (by omega)]
theorem upTo_skip (f : Nat → Int) (i : Nat) (h : f i = 0) : rowOf (upTo f i) = rowOf (upTo f (i + 1)) := by
  refine rowOf_congr fun j _ => ?_
  unfold upTo
  by_cases e : j = i
  · subst e; rw [if_neg (by omega), if_pos (by omega), h]
  · by_cases h : j < i
    · rw [if_pos h, if_pos (by omega)]
    · rw [if_neg h, if_neg (by omega)]
theorem upTo_all (f : Nat → Int) (i : Nat) (h : 136 ≤ i) : rowOf (upTo f i) = rowOf f := by
  refine rowOf_congr fun j hj => ?_
  unfold upTo; rw [if_pos (by omega)]
/-- The bits of an integer lie in a block. -/
def BitsAt (w : World) (g : Nat) (z : Int) : Prop := RowAt w g (rowOf (bit z))
theorem BitsAt.cell {w : World} {g : Nat} {z : Int} (h : BitsAt w g z) (i : Nat) (hi : i < 136) : w.cell? ⟨g, i, none⟩ = some (.int .i64 (bit z i)) := by
  have := RowAt.cell h i (by rw [rowOf_len]; exact hi)
  rwa [rowOf_at] at this
theorem part_cell {w : World} {g : Nat} {f : Nat → Int} (h : RowAt w g (rowOf f)) (i : Nat) (hi : i < 136) : w.cell? ⟨g, i, none⟩ = some (.int .i64 (f i)) := by
  have := h.cell i (by rw [rowOf_len]; exact hi)
  rwa [rowOf_at] at this
theorem part_free {w : World} {g : Nat} {f : Nat → Int} (h : RowAt w g (rowOf f)) (i : Nat) (hi : i < 136) : w.frozen? ⟨g, i, none⟩ = false := h.free i (by rw [rowOf_len]; exact hi)
/-- What a maker of bits answers. -/
def BitsRes (z : Int) (w : World) (e : Ending) (w' : World) : Prop := ∃ g, e = .returned (.slice (some ⟨g, 0, none⟩) 136 136) ∧ BitsAt w' g z ∧ Below w.heap.size w w'
/-- 136 new numbers. -/
def mk136 (u : World) : World := u.alloc (.cells (madeCells #[.int .i64 0] 136) 3)
theorem _root_.Go.Proofs.YtjchecjonkmhgaaDoor.Tryd.info3 : (Tryd.prog.info? 3).map (fun i => (i.zero, i.size, i.bytes)) = some (some (.int .i64 0), 1, 8) := by kernel_rfl
theorem make136 (u : World) : (Instr.makeSlice 72 (.int .i64 136) (.int .i64 136)).run Tryd.prog u = .ok (.slice (some ⟨u.heap.size, 0, none⟩) 136 136) (mk136 u) := by
  obtain ⟨i0, hi, hz0, hz1, hz2⟩ := info_parts Tryd.info3
  have := run_make (P := Tryd.prog) u 72 3 i0 (.int .i64 0) Tryd.underlying72 hi hz0 .i64 .i64 136 136 (by omega) (by omega) (by rw [hz2]; omega) (by omega)
  rw [hz1] at this
  exact this
theorem new_row (w : World) : RowAt (mk136 w) w.heap.size (rowOf (fun _ => 0)) := by
  have h := row_new w (rowOf fun _ => 0) 3
  have e : (rowOf fun _ => 0).toArray = madeCells #[.int .i64 0] 136 := by
    unfold rowOf madeCells
    apply Array.ext'
    simp
    intro a _
    rw [Nat.mod_one]; rfl
  rwa [e] at h
theorem new_row' (w : World) (f : Nat → Int) : RowAt (mk136 w) w.heap.size (rowOf (upTo f 0)) := by
  have e : rowOf (upTo f 0) = rowOf (fun _ => 0) := rowOf_congr fun j _ => by unfold upTo; rw [if_neg (by omega)]
  rw [e]; exact new_row w
theorem new_below (w : World) : Below w.heap.size w (mk136 w) := (Below.refl _ w).alloc (Nat.le_refl _) _
end Go.Proofs.YtjchecjonkmhgaaDoor.Bw
end
section
namespace Go.Proofs.YtjchecjonkmhgaaDoor.Bw
open Go.RowKit Cm Bz
theorem uBits (n : Int) : IntKind.u64.wrap n = n % pw 64 / pw 0 := by rw [IntKind.wrap_u64, pw_64, pw_zero]; omega
theorem uRange (n : Int) (i : Nat) : 0 ≤ n % pw 64 / pw i ∧ n % pw 64 / pw i < 18446744073709551616 := by
  have h0 := Int.emod_nonneg n (show pw 64 ≠ 0 by decide)
  have h1 := Int.emod_lt_of_pos n (show 0 < pw 64 by decide)
  have hp := pw_pos i
  rw [pw_64] at *
  refine ⟨Int.ediv_nonneg h0 (by omega), ?_⟩
  have := Int.ediv_le_self (pw i) h0
  omega
set_option maxRecDepth 100000 in
set_option maxHeartbeats 800000 in
theorem rbits_c (n : Int) (w : World) (hn : I64 n) : Calls Tryd.prog 82 #[.int .i64 n] w (BitsRes n w) := by
  have HN := Lib.hid hn
  have hmk := make136
  have HU := Lib.hid (uBits n)
  have HR := Lib.hid (new_row' w (bit n))
  have HB := Lib.hid (new_below w)
  obtain ⟨n0, n1⟩ := hn
  go_enter Tryd.func82, Tryd.ntmps82
  go_wp2_with fail
  clear hmk
  go_loopw [4, 5] (fun u i wr => ∃ (k : Nat) (U : Int), k ≤ 136 ∧ i = .int .i64 k ∧ u = .int .u64 U ∧ (k ≤ 64 → U = n % pw 64 / pw k) ∧ RowAt wr w.heap.size (rowOf (upTo (bit n) k)) ∧ Below w.heap.size w wr) (fun _ i _ => 136 - (intOf i).toNat)
  case atStart => exact ⟨0, _, by omega, rfl, rfl, fun _ => HU.out, HR.out, HB.out⟩
  case round =>
    obtain ⟨k, U, hk, rfl, rfl, hU0, hR0, hB0⟩ := hrel
    have HU2 := Lib.hid hU0
    have HR2 := Lib.hid hR0
    have HB2 := Lib.hid hB0
    clear hU0 hR0 hB0 HU HR HB
    by_cases hlt : k < 136
    · have hfree := part_free HR2.out k hlt
      have hcell := part_cell HR2.out k hlt
      by_cases h64 : k < 64
      · have hUr := uRange n k
        rw [← HU2.out (by omega)] at hUr
        obtain ⟨u0, u1⟩ := hUr
        have HV := Lib.hid (show U % 2 = bit n k by rw [HU2.out (by omega), ← bit_mod n 64 k h64]; rfl)
        have HS := Lib.hid (show U / 2 = n % pw 64 / pw (k + 1) by rw [HU2.out (by omega), div_succ])
        go_wp2_with fail
        exact ⟨⟨k + 1, _, by omega, by simp, rfl, fun _ => HS.out, by rw [HV.out, ← upTo_set]; exact HR2.out.set k _, HB2.out.setCell (by simp) _⟩, by simp [intOf]; omega⟩
      · by_cases hneg : n < 0
        · have HV := Lib.hid (show bit n k = 1 by rw [bit_high n 63 k (by omega) (by rw [pw_63]; exact n0) (by rw [pw_63]; omega), if_pos hneg])
          go_wp2_with fail
          exact ⟨⟨k + 1, U, by omega, by simp, rfl, fun h => absurd h (by omega), by rw [← upTo_set, HV.out]; exact HR2.out.set k _, HB2.out.setCell (by simp) _⟩, by simp [intOf]; omega⟩
        · have HV := Lib.hid (show bit n k = 0 by rw [bit_high n 63 k (by omega) (by rw [pw_63]; exact n0) (by rw [pw_63]; omega), if_neg hneg])
          go_wp2_with fail
          exact ⟨⟨k + 1, U, by omega, by simp, rfl, fun h => absurd h (by omega), by rw [← upTo_skip _ _ HV.out]; exact HR2.out, HB2.out⟩, by simp [intOf]; omega⟩
    · have HR3 := Lib.hid (show BitsAt wr w.heap.size n by have := HR2.out; rwa [upTo_all _ _ (by omega)] at this)
      go_wp2_with fail
      go_ret
      exact ⟨_, rfl, HR3.out, HB2.out⟩
set_option maxRecDepth 100000 in
set_option maxHeartbeats 800000 in
theorem rplus_c (x y : Int) (ga gb : Nat) (w : World) (ha : BitsAt w ga x) (hb : BitsAt w gb y) : Calls Tryd.prog 93 #[.slice (some ⟨ga, 0, none⟩) 136 136, .slice (some ⟨gb, 0, none⟩) 136 136] w (BitsRes (x + y) w) := by
  have hmk := make136
  have HA := Lib.hid ha
  have HBb := Lib.hid hb
  have HR := Lib.hid (new_row' w (bit (x + y + 0)))
  have HB := Lib.hid (new_below w)
  have HC := Lib.hid (carry_zero x y 0)
  have la := ha.lt
  have lb := hb.lt
  clear ha hb
  go_enter Tryd.func93, Tryd.ntmps93
  go_wp2_with fail
  clear hmk
  go_loopw [6, 7] (fun c i wr => ∃ k : Nat, k ≤ 136 ∧ i = .int .i64 k ∧ c = .int .i64 (carry x y 0 k) ∧ RowAt wr w.heap.size (rowOf (upTo (bit (x + y + 0)) k)) ∧ Below w.heap.size w wr) (fun _ i _ => 136 - (intOf i).toNat)
  case atStart => exact ⟨0, by omega, rfl, by rw [HC.out], HR.out, HB.out⟩
  case round =>
    obtain ⟨k, hk, rfl, rfl, hR0, hB0⟩ := hrel
    have HR2 := Lib.hid hR0
    have HB2 := Lib.hid hB0
    clear hR0 hB0 HR HB HC
    by_cases hlt : k < 136
    · have hfree := part_free HR2.out k hlt
      have hcell := part_cell HR2.out k hlt
      have ca := BitsAt.cell (HA.out.under HB2.out la) k hlt
      have cb := BitsAt.cell (HBb.out.under HB2.out lb) k hlt
      have HV := Lib.hid (bit_add x y 0 k)
      have HS := Lib.hid (carry_succ x y 0 k)
      obtain ⟨b0, b1⟩ := bit_range x k
      obtain ⟨b2, b3⟩ := bit_range y k
      obtain ⟨b4, b5⟩ := carry_range x y 0 k (by omega) (by omega)
      have q0 : (0 : Int) ≤ (k : Int) := by omega
      have q1 : (k : Int) < 136 := by omega
      go_wp2_with fail
      go_quiet (fail)
      go_wp2_with fail
      exact ⟨⟨k + 1, by omega, by simp, by rw [HS.out], by rw [← HV.out, ← upTo_set]; exact HR2.out.drewN.set k _, Below.setCell (by exact ⟨HB2.out.os, HB2.out.tape, HB2.out.output, HB2.out.size, HB2.out.block⟩) (by simp) _⟩, by simp [intOf]; omega⟩
    · have HR3 := Lib.hid (show BitsAt wr w.heap.size (x + y) by have := HR2.out; rw [upTo_all _ _ (by omega), Int.add_zero] at this; exact this)
      go_wp2_with fail
      go_ret
      exact ⟨_, rfl, HR3.out, HB2.out⟩
set_option maxRecDepth 100000 in
set_option maxHeartbeats 800000 in
theorem rminus_c (x : Int) (ga : Nat) (w : World) (ha : BitsAt w ga x) : Calls Tryd.prog 91 #[.slice (some ⟨ga, 0, none⟩) 136 136] w (BitsRes (-x) w) := by
  have hmk := make136
  have HA := Lib.hid ha
  have HR := Lib.hid (new_row' w (bit (-1 - x + 0 + 1)))
  have HB := Lib.hid (new_below w)
  have HC := Lib.hid (carry_zero (-1 - x) 0 1)
  have la := ha.lt
  clear ha
  go_enter Tryd.func91, Tryd.ntmps91
  go_wp2_with fail
  clear hmk
  go_loopw [4, 5] (fun c i wr => ∃ k : Nat, k ≤ 136 ∧ i = .int .i64 k ∧ c = .int .i64 (carry (-1 - x) 0 1 k) ∧ RowAt wr w.heap.size (rowOf (upTo (bit (-1 - x + 0 + 1)) k)) ∧ Below w.heap.size w wr) (fun _ i _ => 136 - (intOf i).toNat)
  case atStart => exact ⟨0, by omega, rfl, by rw [HC.out], HR.out, HB.out⟩
  case round =>
    obtain ⟨k, hk, rfl, rfl, hR0, hB0⟩ := hrel
    have HR2 := Lib.hid hR0
    have HB2 := Lib.hid hB0
    clear hR0 hB0 HR HB HC
    by_cases hlt : k < 136
    · have hfree := part_free HR2.out k hlt
      have hcell := part_cell HR2.out k hlt
      have ca := BitsAt.cell (HA.out.under HB2.out la) k hlt
      have HV := Lib.hid (show bit (-1 - x + 0 + 1) k = (1 - bit x k + carry (-1 - x) 0 1 k) % 2 by rw [bit_add, bit_not, bit_zero, Int.add_zero])
      have HS := Lib.hid (show carry (-1 - x) 0 1 (k + 1) = (1 - bit x k + carry (-1 - x) 0 1 k) / 2 by rw [carry_succ, bit_not, bit_zero, Int.add_zero])
      obtain ⟨b0, b1⟩ := bit_range x k
      obtain ⟨b4, b5⟩ := carry_range (-1 - x) 0 1 k (by omega) (by omega)
      go_wp2_with fail
      exact ⟨⟨k + 1, by omega, by simp, by rw [HS.out], by rw [← HV.out, ← upTo_set]; exact HR2.out.set k _, HB2.out.setCell (by simp) _⟩, by simp [intOf]; omega⟩
    · have HR3 := Lib.hid (show BitsAt wr w.heap.size (-x) by have := HR2.out; rw [upTo_all _ _ (by omega), show -1 - x + 0 + 1 = -x by omega] at this; exact this)
      go_wp2_with fail
      go_ret
      exact ⟨_, rfl, HR3.out, HB2.out⟩
theorem rtwice_c (x : Int) (ga : Nat) (w : World) (ha : BitsAt w ga x) : Calls Tryd.prog 94 #[.slice (some ⟨ga, 0, none⟩) 136 136] w (BitsRes (2 * x) w) := by
  have K := Lib.hid (rplus_c x x ga ga w ha ha)
  have HX := Lib.hid (show x + x = 2 * x by omega)
  clear ha
  go_enter Tryd.func94, Tryd.ntmps94
  go_wp2_with fail
  refine K.out.mono ?_
  rintro e w1 ⟨g, rfl, h1, b1⟩
  rw [HX.out] at h1
  have H1 := Lib.hid h1
  clear h1
  go_wp2_with fail
  go_ret
  exact ⟨g, rfl, H1.out, b1⟩
theorem rbelow_c (x : Int) (ga : Nat) (w : World) (ha : BitsAt w ga x) (hx : Mid x) : Calls Tryd.prog 89 #[.slice (some ⟨ga, 0, none⟩) 136 136] w fun e w' => e = .returned (.bool (decide (x < 0))) ∧ Below w.heap.size w w' := by
  have hcell := ha.cell 135 (by omega)
  rw [below_bit x hx] at hcell
  by_cases h : x < 0
  · rw [if_pos h] at hcell
    rw [decide_eq_true h]
    clear h ha hx
    go_enter Tryd.func89, Tryd.ntmps89
    go_wp2_with fail
    go_ret
    exact ⟨rfl, Below.refl _ _⟩
  · rw [if_neg h] at hcell
    rw [decide_eq_false h]
    clear h ha hx
    go_enter Tryd.func89, Tryd.ntmps89
    go_wp2_with fail
    go_ret
    exact ⟨rfl, Below.refl _ _⟩
end Go.Proofs.YtjchecjonkmhgaaDoor.Bw
end
section
namespace Go.Proofs.YtjchecjonkmhgaaDoor.Bw
open Go.RowKit Cm Bz
theorem whole_u (z : Int) : z % pw 64 / pw 0 = z % 18446744073709551616 := by rw [pw_zero, pw_64]; omega
theorem back_i (z : Int) (h : Ar.Fits z) : wrap64 (z % 18446744073709551616) = z := by
  unfold Ar.Fits at h
  unfold wrap64; omega
theorem told_yes {z : Int} (h : Ar.Fits z) : Ar.val z = z ∧ Ar.ok z = true := ⟨if_pos h, decide_eq_true h⟩
theorem told_no {z : Int} (h : ¬ Ar.Fits z) : Ar.val z = 0 ∧ Ar.ok z = false := ⟨if_neg h, decide_eq_false h⟩
set_option maxRecDepth 100000 in
set_option maxHeartbeats 800000 in
theorem rnumber_c (z : Int) (ga : Nat) (w : World) (ha : BitsAt w ga z) (hz : Mid z) : Calls Tryd.prog 83 #[.slice (some ⟨ga, 0, none⟩) 136 136] w (Told z w) := by
  have HA := Lib.hid ha
  have HZ := Lib.hid hz
  have la := ha.lt
  have H64 := Lib.hid (show z % pw 64 / pw 64 = 0 from div_small _ _ (Int.emod_nonneg _ (by decide)) (Int.emod_lt_of_pos _ (by decide)))
  clear ha hz
  go_enter Tryd.func83, Tryd.ntmps83
  go_wp2_with fail
  go_loop [4, 5] (fun u i => ∃ k : Nat, k ≤ 64 ∧ i = .int .i64 ((k : Int) - 1) ∧ u = .int .u64 (z % pw 64 / pw k)) (fun _ i => (intOf i + 1).toNat)
  case atStart => exact ⟨64, by omega, rfl, by rw [H64.out]⟩
  case round =>
    obtain ⟨k, hk, rfl, rfl⟩ := hrel
    rcases Nat.eq_zero_or_pos k with rfl | hk0
    · have HU := Lib.hid (whole_u z)
      have hu0 : 0 ≤ z % pw 64 / pw 0 := (uRange z 0).1
      have hu1 : z % pw 64 / pw 0 < 18446744073709551616 := (uRange z 0).2
      have HW := Lib.hid (back_i z)
      rw [← HU.out] at HW
      generalize z % pw 64 / pw 0 = U at *
      go_wp2_with fail
      go_loopw [6] (fun i wr => ∃ k : Nat, 63 ≤ k ∧ k ≤ 136 ∧ i = .int .i64 k ∧ (∀ j, 63 ≤ j → j < k → bit z j = bit z 63) ∧ Below w.heap.size w wr) (fun i _ => 136 - (intOf i).toNat)
      case atStart => exact ⟨63, by omega, by omega, rfl, fun j _ _ => absurd ‹j < 63› (by omega), Below.refl _ _⟩
      case round =>
        obtain ⟨k, hk1, hk2, rfl, hs0, hB0⟩ := hrel
        have HS := Lib.hid hs0
        have HB := Lib.hid hB0
        clear hs0 hB0
        by_cases hlt : k < 136
        · have ca := BitsAt.cell (HA.out.under HB.out la) k hlt
          have cb := BitsAt.cell (HA.out.under HB.out la) 63 (by omega)
          obtain ⟨b0, b1⟩ := bit_range z k
          obtain ⟨b2, b3⟩ := bit_range z 63
          have q0 : (0 : Int) ≤ (k : Int) := by omega
          have q1 : (k : Int) < 136 := by omega
          by_cases he : bit z k = bit z 63
          · have HE := Lib.hid he
            rw [he] at ca
            clear he b0 b1
            go_wp2_with fail
            go_quiet (fail)
            go_wp2_with fail
            exact ⟨⟨k + 1, by omega, by omega, by simp, fun j h1 h2 => by
              rcases Nat.lt_or_eq_of_le (Nat.le_of_lt_succ h2) with h | rfl
              · exact HS.out j h1 h
              · exact HE.out, ⟨HB.out.os, HB.out.tape, HB.out.output, HB.out.size, HB.out.block⟩⟩, by simp [intOf]; omega⟩
          · have HE := Lib.hid (told_no (z := z) (fun h => he (of_fits z h k hk1)))
            have hne : (bit z k == bit z 63) = false := beq_eq_false_iff_ne.2 he
            have hne2 : (bit z k != bit z 63) = true := by rw [bne, hne]; rfl
            clear he
            go_wp2_with fail
            go_quiet (fail)
            go_wp2_with fail
            go_ret2
            exact ⟨by rw [HE.out.1, HE.out.2]; rfl, ⟨HB.out.os, HB.out.tape, HB.out.output, HB.out.size, HB.out.block⟩⟩
        · have HF := Lib.hid (fits_of z HZ.out (fun i h1 h2 => HS.out i h1 (by omega)))
          have HE := Lib.hid (told_yes HF.out)
          have HW2 := Lib.hid (HW.out HF.out)
          go_wp2_with fail
          go_ret2
          exact ⟨by rw [HE.out.1, HE.out.2]; exact ret_ib HW2.out rfl, HB.out⟩
    · obtain ⟨k, rfl⟩ : ∃ j, k = j + 1 := ⟨k - 1, by omega⟩
      have ca := HA.out.cell k (by omega)
      obtain ⟨b0, b1⟩ := bit_range z k
      have HT := Lib.hid (from_top z k (by omega))
      obtain ⟨u0, u1⟩ := uRange z (k + 1)
      obtain ⟨u2, u3⟩ := uRange z k
      rw [HT.out] at u2 u3
      generalize z % pw 64 / pw (k + 1) = U at *
      go_wp2_with fail
      exact ⟨⟨k, by omega, by simp, by rw [HT.out]⟩, by simp [intOf]⟩
end Go.Proofs.YtjchecjonkmhgaaDoor.Bw
end
section
namespace Go.Proofs.YtjchecjonkmhgaaDoor.Bw
open Go.RowKit Cm Bz
/-- What Times has added behind k bits. -/
theorem times_bit (x n : Int) (k : Nat) : x * (n % pw (k + 1)) = x * (n % pw k) + bit n k * (x * pw k) := by
  rw [mod_succ, Int.mul_add, Int.add_comm]
  congr 1
  rw [← Int.mul_assoc, ← Int.mul_assoc, Int.mul_comm x (bit n k)]
theorem times_end (x n : Int) (hn : I64 n) : x * (n % pw 64) = if n < 0 then x * n + x * pw 64 else x * n := by
  unfold I64 at hn
  have h : n % pw 64 = if n < 0 then n + pw 64 else n := by
    rw [pw_64]; split <;> omega
  rw [h]
  split
  · rw [Int.mul_add]
  · rfl
theorem pw_twice (x : Int) (k : Nat) : 2 * (x * pw k) = x * pw (k + 1) := by
  rw [pw_succ, ← Int.mul_assoc, ← Int.mul_assoc, Int.mul_comm 2 x]
set_option maxRecDepth 100000 in
set_option maxHeartbeats 800000 in
theorem rtimes_c (x n : Int) (ga : Nat) (w : World) (ha : BitsAt w ga x) (hn : I64 n) : Calls Tryd.prog 81 #[.slice (some ⟨ga, 0, none⟩) 136 136, .int .i64 n] w (BitsRes (x * n) w) := by
  have HA := Lib.hid ha
  have HN := Lib.hid hn
  have K1 := Lib.hid (rbits_c n w hn)
  have K0 := Lib.hid (fun w => rbits_c 0 w ⟨by omega, by omega⟩)
  have KP := Lib.hid (fun x y ga gb w h1 h2 => rplus_c x y ga gb w h1 h2)
  have KT := Lib.hid (fun x ga w h1 => rtwice_c x ga w h1)
  have KM := Lib.hid (fun x ga w h1 => rminus_c x ga w h1)
  clear ha hn
  go_enter Tryd.func81, Tryd.ntmps81
  go_wp2_with fail
  refine K1.out.mono ?_
  rintro e w1 ⟨gn, rfl, hn1, b1⟩
  have HN1 := Lib.hid hn1
  have B1 := Lib.hid b1
  clear hn1 b1 K1
  go_wp2_with fail
  refine (K0.out _).mono ?_
  rintro e w2 ⟨gs, rfl, hs2, b2⟩
  have HS2 := Lib.hid hs2
  have B2 := Lib.hid (show Below w.heap.size w w2 from B1.out.trans (b2.mono B1.out.size))
  have HN2 := Lib.hid (show BitsAt w2 gn n from RowAt.later HN1.out b2)
  have HA2 := Lib.hid (show BitsAt w2 ga x from RowAt.later (RowAt.later HA.out B1.out) b2)
  clear hs2 b2 B1 HN1 HA K0
  go_wp2_with fail
  go_loopw [0, 6, 7] (fun a s i wr => ∃ (k g h : Nat), k ≤ 64 ∧ i = .int .i64 k ∧ a = .slice (some ⟨g, 0, none⟩) 136 136 ∧ s = .slice (some ⟨h, 0, none⟩) 136 136 ∧ BitsAt wr g (x * pw k) ∧ BitsAt wr h (x * (n % pw k)) ∧ BitsAt wr gn n ∧ Below w.heap.size w wr) (fun _ _ i _ => 64 - (intOf i).toNat)
  case atStart => exact ⟨0, ga, gs, by omega, rfl, rfl, rfl, by rw [pw_zero, Int.mul_one]; exact HA2.out, by rw [pw_zero, Int.emod_one, Int.mul_zero]; exact HS2.out, HN2.out, B2.out⟩
  case round =>
    obtain ⟨k, g, h, hk, rfl, rfl, rfl, h1, h2, h3, h4⟩ := hrel
    have R1 := Lib.hid h1
    have R2 := Lib.hid h2
    have R3 := Lib.hid h3
    have B3 := Lib.hid h4
    clear h1 h2 h3 h4 HA2 HS2 HN2 B2
    by_cases hlt : k < 64
    · have hcell := BitsAt.cell R3.out k (by omega)
      have hb := bit_range n k
      have HT := Lib.hid (times_bit x n k)
      by_cases hb1 : bit n k = 1
      · rw [hb1] at hcell
        rw [hb1, Int.one_mul] at HT
        clear hb1 hb
        go_wp2_with fail
        refine (KP.out _ _ _ _ _ R2.out R1.out).mono ?_
        rintro e w3 ⟨h', rfl, p3, b3⟩
        rw [← HT.out] at p3
        have P3 := Lib.hid p3
        have R4 := Lib.hid (show BitsAt w3 g (x * pw k) from RowAt.later R1.out b3)
        have R5 := Lib.hid (show BitsAt w3 gn n from RowAt.later R3.out b3)
        have B4 := Lib.hid (show Below w.heap.size w w3 from B3.out.trans (b3.mono B3.out.size))
        clear p3 b3 R1 R2 R3 B3 hcell
        go_wp2_with fail
        refine (KT.out _ _ _ R4.out).mono ?_
        rintro e w4 ⟨g', rfl, p4, b4⟩
        rw [pw_twice] at p4
        have P4 := Lib.hid p4
        have P5 := Lib.hid (show BitsAt w4 h' (x * (n % pw (k + 1))) from RowAt.later P3.out b4)
        have R6 := Lib.hid (show BitsAt w4 gn n from RowAt.later R5.out b4)
        have B5 := Lib.hid (show Below w.heap.size w w4 from B4.out.trans (b4.mono B4.out.size))
        clear p4 b4 R4 P3 R5 B4
        go_wp2_with fail
        go_roundw
        case rel => exact ⟨k + 1, g', h', by omega, by simp, rfl, rfl, P4.out, P5.out, R6.out, B5.out⟩
        case measure => simp [intOf]; omega
      · have hb0 : bit n k = 0 := by omega
        rw [hb0] at hcell
        rw [hb0, Int.zero_mul, Int.add_zero] at HT
        clear hb1 hb hb0
        go_wp2_with fail
        refine (KT.out _ _ _ R1.out).mono ?_
        rintro e w4 ⟨g', rfl, p4, b4⟩
        rw [pw_twice] at p4
        have P4 := Lib.hid p4
        have P5 := Lib.hid (show BitsAt w4 h (x * (n % pw (k + 1))) by rw [HT.out]; exact RowAt.later R2.out b4)
        have R6 := Lib.hid (show BitsAt w4 gn n from RowAt.later R3.out b4)
        have B5 := Lib.hid (show Below w.heap.size w w4 from B3.out.trans (b4.mono B3.out.size))
        clear p4 b4 R1 R2 R3 B3 hcell
        go_wp2_with fail
        go_roundw
        case rel => exact ⟨k + 1, g', h, by omega, by simp, rfl, rfl, P4.out, P5.out, R6.out, B5.out⟩
        case measure => simp [intOf]; omega
    · obtain rfl : k = 64 := by omega
      have HE := Lib.hid (times_end x n HN.out)
      by_cases hneg : n < 0
      · have HE2 := Lib.hid (show x * (n % pw 64) + -(x * pw 64) = x * n by rw [HE.out, if_pos hneg]; omega)
        go_wp2_with fail
        refine (KM.out _ _ _ R1.out).mono ?_
        rintro e w3 ⟨g', rfl, p3, b3⟩
        have P3 := Lib.hid p3
        have R4 := Lib.hid (show BitsAt w3 h (x * (n % pw 64)) from RowAt.later R2.out b3)
        have B4 := Lib.hid (show Below w.heap.size w w3 from B3.out.trans (b3.mono B3.out.size))
        clear p3 b3 R1 R2 R3 B3
        go_wp2_with fail
        refine (KP.out _ _ _ _ _ R4.out P3.out).mono ?_
        rintro e w4 ⟨h', rfl, p4, b4⟩
        rw [HE2.out] at p4
        have P4 := Lib.hid p4
        have B5 := Lib.hid (show Below w.heap.size w w4 from B4.out.trans (b4.mono B4.out.size))
        clear p4 b4
        go_wp2_with fail
        go_ret
        exact ⟨h', rfl, P4.out, B5.out⟩
      · have HE2 := Lib.hid (show x * (n % pw 64) = x * n by rw [HE.out, if_neg hneg])
        go_wp2_with fail
        go_ret
        exact ⟨h, rfl, by rw [← HE2.out]; exact R2.out, B3.out⟩
theorem mid_add (a b : Int) (ha : I64 a) (hb : I64 b) : Mid (a + b) := by unfold I64 at *; unfold Mid; omega
theorem mid_sub (a b : Int) (ha : I64 a) (hb : I64 b) : Mid (a + -b) := by unfold I64 at *; unfold Mid; omega
theorem mid_mul (a b : Int) (ha : I64 a) (hb : I64 b) : Mid (a * b) := by
  unfold I64 at *
  have ma := Ar.mag_bd a ha.1 ha.2
  have mb := Ar.mag_bd b hb.1 hb.2
  have pd := Ar.prod_bd (Ar.mag a) (Ar.mag b) ma.1 ma.2 mb.1 mb.2
  have E := Ar.sg_mul a b
  unfold Ar.sg at E
  unfold Mid
  split at E <;> omega
end Go.Proofs.YtjchecjonkmhgaaDoor.Bw
end
section
namespace Go.Proofs.YtjchecjonkmhgaaDoor.Bw
open Go.RowKit Cm Bz
theorem div_step (Y b c : Int) (c1 : 1 ≤ c) (b0 : 0 ≤ b) (b1 : b ≤ 1) :
    (c ≤ 2 * (Y % c) + b → (2 * Y + b) / c = 2 * (Y / c) + 1 ∧ (2 * Y + b) % c = 2 * (Y % c) + b - c) ∧
    (¬ c ≤ 2 * (Y % c) + b → (2 * Y + b) / c = 2 * (Y / c) ∧ (2 * Y + b) % c = 2 * (Y % c) + b) := by
  have e := Int.mul_ediv_add_emod Y c
  have r0 := Int.emod_nonneg Y (show c ≠ 0 by omega)
  have r1 := Int.emod_lt_of_pos Y (show 0 < c by omega)
  constructor
  · intro h
    refine (Int.ediv_emod_unique (by omega)).2 ⟨?_, by omega, by omega⟩
    rw [Int.mul_add, ← Int.mul_assoc, Int.mul_comm c 2, Int.mul_assoc]; omega
  · intro h
    refine (Int.ediv_emod_unique (by omega)).2 ⟨?_, by omega, by omega⟩
    rw [← Int.mul_assoc, Int.mul_comm c 2, Int.mul_assoc]; omega
theorem bit_step (x : Int) (k : Nat) : x / pw k = 2 * (x / pw (k + 1)) + bit x k := by
  rw [div_succ]; unfold bit; omega
/-- What the loop's blocks hold. -/
def Quad (w u : World) (ga gq gr : Nat) (x Q R : Int) : Prop := BitsAt u ga x ∧ BitsAt u gq Q ∧ BitsAt u gr R ∧ Below w.heap.size w u
theorem Quad.later {w u u' : World} {ga gq gr : Nat} {x Q R : Int} (h : Quad w u ga gq gr x Q R) (b : Below u.heap.size u u') : Quad w u' ga gq gr x Q R :=
  ⟨RowAt.later h.1 b, RowAt.later h.2.1 b, RowAt.later h.2.2.1 b, h.2.2.2.trans (b.mono h.2.2.2.size)⟩
theorem Quad.drew {w u : World} {ga gq gr : Nat} {x Q R : Int} (h : Quad w u ga gq gr x Q R) : Quad w u.drew ga gq gr x Q R :=
  ⟨RowAt.drew h.1, RowAt.drew h.2.1, RowAt.drew h.2.2.1, h.2.2.2.drew⟩
theorem Quad.held {w u : World} {ga gq gr : Nat} {x Q R : Int} (h : Quad w u ga gq gr x Q R) (k : Nat) (hk : k < 136) : u.cell? ⟨ga, k, none⟩ = some (.int .i64 (bit x k)) ∧ Quad w u ga gq gr x Q R := ⟨h.1.cell k hk, h⟩
def DivRes (x c : Int) (w : World) (e : Ending) (w' : World) : Prop := ∃ g h, e = .returned (.tuple #[.slice (some ⟨g, 0, none⟩) 136 136, .slice (some ⟨h, 0, none⟩) 136 136]) ∧ BitsAt w' g (x / c) ∧ BitsAt w' h (x % c) ∧ Below w.heap.size w w'
set_option maxRecDepth 100000 in
set_option maxHeartbeats 1600000 in
theorem rupon_c (x c : Int) (ga : Nat) (w : World) (ha : BitsAt w ga x) (x0 : 0 ≤ x) (x1 : x < 43556142965880123323311949751266331066368) (c1 : 1 ≤ c) (c2 : c ≤ 9223372036854775807) :
    Calls Tryd.prog 90 #[.slice (some ⟨ga, 0, none⟩) 136 136, .int .i64 c] w (DivRes x c w) := by
  have HA := Lib.hid ha
  have K0 := Lib.hid (fun w => rbits_c 0 w ⟨by omega, by omega⟩)
  have K1 := Lib.hid (fun w => rbits_c 1 w ⟨by omega, by omega⟩)
  have KC := Lib.hid (fun w => rbits_c c w ⟨by omega, c2⟩)
  have KB := Lib.hid (fun k w => rbits_c (bit x k) w ⟨by have := bit_range x k; omega, by have := bit_range x k; omega⟩)
  have KP := Lib.hid (fun x y ga gb w h1 h2 => rplus_c x y ga gb w h1 h2)
  have KT := Lib.hid (fun x ga w h1 => rtwice_c x ga w h1)
  have KM := Lib.hid (fun x ga w h1 => rminus_c x ga w h1)
  have KL := Lib.hid (fun x ga w h1 h2 => rbelow_c x ga w h1 h2)
  have HX := Lib.hid (show x / pw 136 = 0 from div_small _ _ x0 (by rw [show pw 136 = 87112285931760246646623899502532662132736 by decide]; omega))
  clear ha x0 x1
  go_enter Tryd.func90, Tryd.ntmps90
  go_wp2_with fail
  refine (K0.out _).mono ?_
  rintro e w1 ⟨gq, rfl, h1, b1⟩
  go_wp2_with fail
  refine (K0.out _).mono ?_
  rintro e w2 ⟨gr, rfl, h2, b2⟩
  have Q2 := Lib.hid (show Quad w w2 ga gq gr x 0 0 from ⟨RowAt.later (RowAt.later HA.out b1) b2, RowAt.later h1 b2, h2, b1.trans (b2.mono b1.size)⟩)
  clear h1 h2 b1 b2 HA K0
  go_wp2_with fail
  go_loopw [6, 7, 8] (fun q r i wr => ∃ (k g h : Nat), k ≤ 136 ∧ i = .int .i64 ((k : Int) - 1) ∧ q = .slice (some ⟨g, 0, none⟩) 136 136 ∧ r = .slice (some ⟨h, 0, none⟩) 136 136 ∧ Quad w wr ga g h x (x / pw k / c) (x / pw k % c)) (fun _ _ i _ => (intOf i + 1).toNat)
  case atStart => exact ⟨136, gq, gr, by omega, rfl, rfl, rfl, by rw [HX.out, Int.zero_ediv, Int.zero_emod]; exact Q2.out⟩
  case round =>
    obtain ⟨k, g, h, hk, rfl, rfl, rfl, hq⟩ := hrel
    have QQ := Lib.hid hq
    clear hq Q2 HX
    rcases Nat.eq_zero_or_pos k with rfl | hk0
    · have HE := Lib.hid (show x / pw 0 = x by rw [pw_zero, Int.ediv_one])
      go_wp2_with fail
      go_ret2
      exact ⟨g, h, rfl, by rw [← HE.out]; exact QQ.out.2.1, by rw [← HE.out]; exact QQ.out.2.2.1, QQ.out.2.2.2⟩
    · obtain ⟨k, rfl⟩ : ∃ j, k = j + 1 := ⟨k - 1, by omega⟩
      obtain ⟨v0, v1⟩ := bit_range x k
      have HS := Lib.hid (div_step (x / pw (k + 1)) (bit x k) c c1 v0 v1)
      rw [← bit_step] at HS
      have r0 := Int.emod_nonneg (x / pw (k + 1)) (show c ≠ 0 by omega)
      have r1 := Int.emod_lt_of_pos (x / pw (k + 1)) (show 0 < c by omega)
      have hk9 : k < 136 := by omega
      have q0 : (0 : Int) ≤ (k : Int) := by omega
      have q1 : (k : Int) < 136 := by omega
      generalize x / pw (k + 1) / c = Q at *
      generalize x / pw (k + 1) % c = R at *
      generalize hQ' : x / pw k / c = Q' at *
      generalize hR' : x / pw k % c = R' at *
      have HQ' := Lib.hid hQ'
      have HR' := Lib.hid hR'
      clear hQ' hR'
      go_wp2_with fail
      refine (KT.out _ _ _ QQ.out.2.1).mono ?_
      rintro e w3 ⟨g3, rfl, h3, b3⟩
      have Q3 := Lib.hid (show Quad w w3 ga g3 h x (2 * Q) R from ⟨RowAt.later QQ.out.1 b3, h3, RowAt.later QQ.out.2.2.1 b3, QQ.out.2.2.2.trans (b3.mono QQ.out.2.2.2.size)⟩)
      clear h3 b3 QQ
      go_wp2_with fail
      go_region_held3 (fun u => u.cell? ⟨ga, k, none⟩ = some (.int .i64 (bit x k)) ∧ Quad w u ga g3 h x (2 * Q) R)
        (first | exact Quad.held Q3.out k hk9 | exact Quad.held Q3.out.drew k hk9 | exact Quad.held S1 k hk9 | exact Quad.held S2 k hk9 | exact Quad.held S3 k hk9)
        (first | (go_at_call 94; (try go_split_ands); refine (KT.out _ _ _ (by first | exact Q3.out.2.2.1 | exact Q3.out.drew.2.2.1)).mono ?_; rintro e u1 ⟨e1, rfl, t1, b1⟩; have S1 := Quad.later (by assumption) b1) | (go_at_call 82; (try go_split_ands); refine (KB.out k _).mono ?_; rintro e u2 ⟨e2, rfl, t2, b2⟩; have S2 := Quad.later (by assumption) b2; have T1 := RowAt.later t1 b2) | (go_at_call 93; (try go_split_ands); refine (KP.out _ _ _ _ _ T1 t2).mono ?_; rintro e u3 ⟨e3, rfl, t3, b3⟩; have S3 := Quad.later (by assumption) b3))
      have Q4 := Lib.hid (show Quad w u3 ga g3 e3 x (2 * Q) (2 * R + bit x k) from ⟨S3.1, S3.2.1, t3, S3.2.2.2⟩)
      go_split_ands
      clear t1 b1 S1 t2 b2 S2 T1 t3 b3 S3 Q3
      go_wp2_with fail
      refine (KC.out _).mono ?_
      rintro e w5 ⟨g5, rfl, h5, b5⟩
      have Q5 := Lib.hid (Q4.out.later b5)
      clear b5 Q4
      go_wp2_with fail
      refine (KM.out _ _ _ h5).mono ?_
      rintro e w6 ⟨g6, rfl, h6, b6⟩
      have Q6 := Lib.hid (Q5.out.later b6)
      clear h5 b6 Q5
      go_wp2_with fail
      refine (KP.out _ _ _ _ _ Q6.out.2.2.1 h6).mono ?_
      rintro e w7 ⟨g7, rfl, h7, b7⟩
      have Q7 := Lib.hid (Q6.out.later b7)
      have H7 := Lib.hid h7
      clear h6 b7 Q6 h7
      go_wp2_with fail
      refine (KL.out _ _ _ H7.out (by unfold Mid; omega)).mono ?_
      rintro e w8 ⟨rfl, b8⟩
      have Q8 := Lib.hid (Q7.out.later b8)
      have H8 := Lib.hid (show BitsAt w8 g7 (2 * R + bit x k + -c) from RowAt.later H7.out b8)
      clear b8 Q7 H7
      by_cases hge : c ≤ 2 * R + bit x k
      · have hd : decide (2 * R + bit x k + -c < 0) = false := decide_eq_false (by omega)
        have HE1 := Lib.hid (HS.out.1 hge).1
        have HE2 := Lib.hid (show 2 * R + bit x k + -c = R' by have := (HS.out.1 hge).2; omega)
        clear hge
        go_wp2_with fail
        refine (K1.out _).mono ?_
        rintro e w9 ⟨g9, rfl, h9, b9⟩
        have Q9 := Lib.hid (Q8.out.later b9)
        have H9 := Lib.hid (show BitsAt w9 g7 (2 * R + bit x k + -c) from RowAt.later H8.out b9)
        clear b9 Q8 H8
        go_wp2_with fail
        refine (KP.out _ _ _ _ _ Q9.out.2.1 h9).mono ?_
        rintro e w10 ⟨g10, rfl, h10, b10⟩
        have Q10 := Lib.hid (Q9.out.later b10)
        have H10 := Lib.hid (show BitsAt w10 g7 R' by rw [← HE2.out]; exact RowAt.later H9.out b10)
        have HH := Lib.hid (show BitsAt w10 g10 Q' by rw [HE1.out]; exact h10)
        clear h9 b10 h10 Q9 H9
        go_wp2_with fail
        go_roundw
        case rel => exact ⟨k, g10, g7, by omega, by simp, rfl, rfl, by rw [HQ'.out, HR'.out]; exact ⟨Q10.out.1, HH.out, H10.out, Q10.out.2.2.2⟩⟩
        case measure => simp [intOf]
      · have hd : decide (2 * R + bit x k + -c < 0) = true := decide_eq_true (by omega)
        have HE1 := Lib.hid (HS.out.2 (by omega)).1
        have HE2 := Lib.hid (HS.out.2 (by omega)).2
        clear hge
        go_wp2_with fail
        go_roundw
        case rel => exact ⟨k, g3, e3, by omega, by simp, rfl, rfl, by rw [HQ'.out, HR'.out, HE1.out, HE2.out]; exact Q8.out⟩
        case measure => simp [intOf]
end Go.Proofs.YtjchecjonkmhgaaDoor.Bw
end
section
namespace Go.Proofs.YtjchecjonkmhgaaDoor.Bw
open Go.RowKit Cm Bz
theorem zero_of (r : Int) (h0 : 0 ≤ r) (h1 : r ≤ 9223372036854775807) (h : ∀ j, j < 136 → bit r j = 0) : r = 0 := by
  have h2 := all_same r 0 63 (fun i hi => h i (by omega))
  rw [pw_63] at h2
  omega
set_option maxRecDepth 100000 in
theorem rsame_c (r : Int) (ga gb : Nat) (w : World) (ha : BitsAt w ga r) (hb : BitsAt w gb 0) (h0 : 0 ≤ r) (h1 : r ≤ 9223372036854775807) :
    Calls Tryd.prog 92 #[.slice (some ⟨ga, 0, none⟩) 136 136, .slice (some ⟨gb, 0, none⟩) 136 136] w fun e w' => e = .returned (.bool (decide (r = 0))) ∧ Below w.heap.size w w' := by
  have HA := Lib.hid ha
  have HBb := Lib.hid hb
  have la := ha.lt
  have lb := hb.lt
  have HZ := Lib.hid (zero_of r h0 h1)
  clear ha hb
  go_enter Tryd.func92, Tryd.ntmps92
  go_wp2_with fail
  go_loopw [5] (fun i wr => ∃ k : Nat, k ≤ 136 ∧ i = .int .i64 k ∧ (∀ j, j < k → bit r j = 0) ∧ Below w.heap.size w wr) (fun i _ => 136 - (intOf i).toNat)
  case atStart => exact ⟨0, by omega, rfl, fun j h => absurd h (by omega), Below.refl _ _⟩
  case round =>
    obtain ⟨k, hk, rfl, hs0, hB0⟩ := hrel
    have HS := Lib.hid hs0
    have HB := Lib.hid hB0
    clear hs0 hB0
    by_cases hlt : k < 136
    · have ca := BitsAt.cell (HA.out.under HB.out la) k hlt
      have cb := BitsAt.cell (HBb.out.under HB.out lb) k hlt
      rw [bit_zero] at cb
      have q0 : (0 : Int) ≤ (k : Int) := by omega
      have q1 : (k : Int) < 136 := by omega
      by_cases he : bit r k = 0
      · have HE := Lib.hid he
        rw [he] at ca
        clear he
        go_wp2_with fail
        go_quiet (fail)
        go_wp2_with fail
        exact ⟨⟨k + 1, by omega, by simp, fun j h2 => by
          rcases Nat.lt_or_eq_of_le (Nat.le_of_lt_succ h2) with h | rfl
          · exact HS.out j h
          · exact HE.out, ⟨HB.out.os, HB.out.tape, HB.out.output, HB.out.size, HB.out.block⟩⟩, by simp [intOf]; omega⟩
      · have HE := Lib.hid (show decide (r = 0) = false from decide_eq_false (fun h => he (by rw [h, bit_zero])))
        have hne : (bit r k == 0) = false := beq_eq_false_iff_ne.2 he
        have hne2 : (bit r k != 0) = true := by rw [bne, hne]; rfl
        clear he
        go_wp2_with fail
        go_quiet (fail)
        go_wp2_with fail
        go_ret
        exact ⟨by rw [HE.out]; rfl, ⟨HB.out.os, HB.out.tape, HB.out.output, HB.out.size, HB.out.block⟩⟩
    · have HE := Lib.hid (show decide (r = 0) = true from decide_eq_true (HZ.out (fun j hj => HS.out j (by omega))))
      go_wp2_with fail
      go_ret
      exact ⟨by rw [HE.out]; rfl, HB.out⟩
theorem below_then {a b c : World} (h : Below a.heap.size a b) (k : Below b.heap.size b c) : Below a.heap.size a c := h.trans (k.mono h.size)
def Wide (x : Int) : Prop := -85070591730234615865843651857942052864 ≤ x ∧ x ≤ 85070591730234615865843651857942052864
theorem Wide.mid {x : Int} (h : Wide x) : Mid x := by unfold Wide at h; unfold Mid; omega
set_option maxRecDepth 100000 in
set_option maxHeartbeats 1600000 in
theorem rfloor_c (x c : Int) (ga : Nat) (w : World) (ha : BitsAt w ga x) (hx : Wide x) (c1 : 1 ≤ c) (c2 : c ≤ 9223372036854775807) :
    Calls Tryd.prog 80 #[.slice (some ⟨ga, 0, none⟩) 136 136, .int .i64 c] w (DivRes x c w) := by
  have KL := Lib.hid (rbelow_c x ga w ha hx.mid)
  have KP := Lib.hid (fun x y ga gb w h1 h2 => rplus_c x y ga gb w h1 h2)
  have KM := Lib.hid (fun x ga w h1 => rminus_c x ga w h1)
  have K0 := Lib.hid (fun w => rbits_c 0 w ⟨by omega, by omega⟩)
  have K1 := Lib.hid (fun w => rbits_c 1 w ⟨by omega, by omega⟩)
  have KC := Lib.hid (fun w => rbits_c c w ⟨by omega, c2⟩)
  have HA := Lib.hid ha
  by_cases hneg : x < 0
  · obtain ⟨y, rfl⟩ : ∃ y, x = -y := ⟨-x, by omega⟩
    have KU := Lib.hid (fun ga w h1 => rupon_c y c ga w h1 (by omega) (by unfold Wide at hx; omega) c1 c2)
    have HY := Lib.hid (show -(-y) = y by omega)
    have r0 := Int.emod_nonneg y (show c ≠ 0 by omega)
    have r1 := Int.emod_lt_of_pos y (show 0 < c by omega)
    have KS := Lib.hid (fun ga gb w h1 h2 => rsame_c (y % c) ga gb w h1 h2 r0 (by omega))
    have hd : decide (-y < 0) = true := decide_eq_true hneg
    have hp : 0 < y := by omega
    have hd2 : decide (0 < y) = true := decide_eq_true hp
    have HZ := Lib.hid (fun h : y % c = 0 => Ar.floor_neg0 y c c1 h)
    have HN := Lib.hid (fun h : 0 < y % c => Ar.floor_neg y c c1 h)
    generalize hQ : y / c = Q at *
    generalize hR : y % c = R at *
    have HQ := Lib.hid hQ
    have HR := Lib.hid hR
    clear ha hx hneg hQ hR
    by_cases hR : R = 0
    · have hs : decide (R = 0) = true := decide_eq_true hR
      have HZ2 := Lib.hid (HZ.out hR)
      have HR0 := Lib.hid hR
      clear hR
      go_enter Tryd.func80, Tryd.ntmps80
      go_wp2_with fail
      refine KL.out.mono ?_
      rintro e w1 ⟨rfl, b1⟩
      go_wp2_with fail
      refine (KM.out _ _ _ (RowAt.later HA.out b1)).mono ?_
      rintro e w2 ⟨g2, rfl, h2, b2⟩
      rw [HY.out] at h2
      go_wp2_with fail
      refine (KU.out _ _ h2).mono ?_
      rintro e w3 ⟨g3, g3', rfl, h3, h3', b3⟩
      rw [HQ.out] at h3
      rw [HR.out] at h3'
      have B3 := Lib.hid (below_then (below_then b1 b2) b3)
      clear h2 b1 b2 b3
      go_wp2_with fail
      refine (K0.out _).mono ?_
      rintro e w4 ⟨g4, rfl, h4, b4⟩
      go_wp2_with fail
      refine (KS.out _ _ _ (RowAt.later h3' b4) h4).mono ?_
      rintro e w5 ⟨rfl, b5⟩
      have H5 := Lib.hid (show BitsAt w5 g3 Q from RowAt.later (RowAt.later h3 b4) b5)
      have H6 := Lib.hid (show BitsAt w5 g3' R from RowAt.later (RowAt.later h3' b4) b5)
      have B5 := Lib.hid (below_then (below_then B3.out b4) b5)
      clear h3 h3' h4 b4 b5 B3
      go_wp2_with fail
      refine (KM.out _ _ _ H5.out).mono ?_
      rintro e w6 ⟨g6, rfl, h6, b6⟩
      have H7 := Lib.hid (show BitsAt w6 g3' R from RowAt.later H6.out b6)
      have H8 := Lib.hid h6
      have B6 := Lib.hid (below_then B5.out b6)
      clear h6 b6
      go_wp2_with fail
      go_ret2
      exact ⟨g6, g3', rfl, by rw [HZ2.out.1]; exact H8.out, by rw [HZ2.out.2, ← HR0.out]; exact H7.out, B6.out⟩
    · have hs : decide (R = 0) = false := decide_eq_false hR
      have HZ2 := Lib.hid (HN.out (by omega))
      clear hR
      go_enter Tryd.func80, Tryd.ntmps80
      go_wp2_with fail
      refine KL.out.mono ?_
      rintro e w1 ⟨rfl, b1⟩
      go_wp2_with fail
      refine (KM.out _ _ _ (RowAt.later HA.out b1)).mono ?_
      rintro e w2 ⟨g2, rfl, h2, b2⟩
      rw [HY.out] at h2
      go_wp2_with fail
      refine (KU.out _ _ h2).mono ?_
      rintro e w3 ⟨g3, g3', rfl, h3, h3', b3⟩
      rw [HQ.out] at h3
      rw [HR.out] at h3'
      have B3 := Lib.hid (below_then (below_then b1 b2) b3)
      clear h2 b1 b2 b3
      go_wp2_with fail
      refine (K0.out _).mono ?_
      rintro e w4 ⟨g4, rfl, h4, b4⟩
      go_wp2_with fail
      refine (KS.out _ _ _ (RowAt.later h3' b4) h4).mono ?_
      rintro e w5 ⟨rfl, b5⟩
      have H5 := Lib.hid (show BitsAt w5 g3 Q from RowAt.later (RowAt.later h3 b4) b5)
      have H6 := Lib.hid (show BitsAt w5 g3' R from RowAt.later (RowAt.later h3' b4) b5)
      have B5 := Lib.hid (below_then (below_then B3.out b4) b5)
      clear h3 h3' h4 b4 b5 B3
      go_wp2_with fail
      refine (K1.out _).mono ?_
      rintro e w6 ⟨g6, rfl, h6, b6⟩
      go_wp2_with fail
      refine (KP.out _ _ _ _ _ (RowAt.later H5.out b6) h6).mono ?_
      rintro e w7 ⟨g7, rfl, h7, b7⟩
      go_wp2_with fail
      refine (KM.out _ _ _ h7).mono ?_
      rintro e w8 ⟨g8, rfl, h8, b8⟩
      have H9 := Lib.hid (show BitsAt w8 g3' R from RowAt.later (RowAt.later (RowAt.later H6.out b6) b7) b8)
      have H10 := Lib.hid h8
      have B8 := Lib.hid (below_then (below_then (below_then B5.out b6) b7) b8)
      clear h6 h7 h8 b6 b7 b8 H5 H6 B5
      go_wp2_with fail
      refine (KC.out _).mono ?_
      rintro e w9 ⟨g9, rfl, h9, b9⟩
      go_wp2_with fail
      refine (KM.out _ _ _ (RowAt.later H9.out b9)).mono ?_
      rintro e w10 ⟨g10, rfl, h10, b10⟩
      go_wp2_with fail
      refine (KP.out _ _ _ _ _ (RowAt.later h9 b10) h10).mono ?_
      rintro e w11 ⟨g11, rfl, h11, b11⟩
      have H11 := Lib.hid h11
      have H12 := Lib.hid (show BitsAt w11 g8 (-(Q + 1)) from RowAt.later (RowAt.later (RowAt.later H10.out b9) b10) b11)
      have B11 := Lib.hid (below_then (below_then (below_then B8.out b9) b10) b11)
      clear h9 h10 h11 b9 b10 b11
      go_wp2_with fail
      go_ret2
      exact ⟨g8, g11, rfl, by rw [HZ2.out.1]; exact H12.out, by rw [HZ2.out.2, Int.sub_eq_add_neg]; exact H11.out, B11.out⟩
  · have KU := Lib.hid (fun ga w h1 => rupon_c x c ga w h1 (by omega) (by unfold Wide at hx; omega) c1 c2)
    have hd : decide (x < 0) = false := decide_eq_false hneg
    clear ha hx hneg
    go_enter Tryd.func80, Tryd.ntmps80
    go_wp2_with fail
    refine KL.out.mono ?_
    rintro e w1 ⟨rfl, b1⟩
    go_wp2_with fail
    refine (KU.out _ _ (RowAt.later HA.out b1)).mono ?_
    rintro e w2 ⟨g, g', rfl, h2, h2', b2⟩
    have H2 := Lib.hid h2
    have H3 := Lib.hid h2'
    have B2 := Lib.hid (below_then b1 b2)
    clear h2 h2' b1 b2
    go_wp2_with fail
    go_ret2
    exact ⟨g, g', rfl, H2.out, H3.out, B2.out⟩
theorem wide_mul (a b : Int) (ha : I64 a) (hb : I64 b) : Wide (a * b) := by
  unfold I64 at *
  have ma := Ar.mag_bd a ha.1 ha.2
  have mb := Ar.mag_bd b hb.1 hb.2
  have pd := Ar.prod_bd (Ar.mag a) (Ar.mag b) ma.1 ma.2 mb.1 mb.2
  have E := Ar.sg_mul a b
  unfold Ar.sg at E
  unfold Wide
  split at E <;> omega
theorem wide_div {x c : Int} (h : Wide x) (c1 : 1 ≤ c) : Wide (x / c) := by
  unfold Wide at *
  constructor
  · have h1 : -85070591730234615865843651857942052864 ≤ x / c := by
      rw [Int.le_ediv_iff_mul_le (by omega)]
      have : 85070591730234615865843651857942052864 * 1 ≤ 85070591730234615865843651857942052864 * c := Int.mul_le_mul_of_nonneg_left c1 (by omega)
      omega
    exact h1
  · have h1 : x / c < 85070591730234615865843651857942052865 := by
      refine Int.ediv_lt_of_lt_mul (by omega) ?_
      have : 85070591730234615865843651857942052865 * 1 ≤ 85070591730234615865843651857942052865 * c := Int.mul_le_mul_of_nonneg_left c1 (by omega)
      omega
    omega
set_option maxRecDepth 100000 in
set_option maxHeartbeats 800000 in
theorem rmuldiv_c (a b c : Int) (w : World) (ha : I64 a) (hb : I64 b) (c1 : 1 ≤ c) (c2 : c ≤ 9223372036854775807) :
    Calls Tryd.prog 73 #[.int .i64 a, .int .i64 b, .int .i64 c] w fun e w' => e = .returned (.tuple #[.int .i64 (Ar.val (a * b / c)), .int .i64 (mdr (a * b) c), .bool (Ar.ok (a * b / c))]) ∧ Below w.heap.size w w' := by
  have hw := wide_mul a b ha hb
  have KA := Lib.hid (fun w => rbits_c a w ha)
  have KT := Lib.hid (fun ga w h1 => rtimes_c a b ga w h1 hb)
  have KF := Lib.hid (fun ga w h1 => rfloor_c (a * b) c ga w h1 hw c1 c2)
  have KQ := Lib.hid (fun ga w h1 => rnumber_c (a * b / c) ga w h1 (wide_div hw c1).mid)
  have r0 := Int.emod_nonneg (a * b) (show c ≠ 0 by omega)
  have r1 := Int.emod_lt_of_pos (a * b) (show 0 < c by omega)
  have KR := Lib.hid (fun ga w h1 => rnumber_c (a * b % c) ga w h1 (by unfold Mid; omega))
  have HV := Lib.hid (told_yes (z := a * b % c) (by unfold Ar.Fits; omega))
  have hc : ¬ c ≤ 0 := by omega
  unfold Told at KQ KR
  rw [HV.out.1, HV.out.2] at KR
  have HM := Lib.hid (show mdr (a * b) c = if Ar.ok (a * b / c) then a * b % c else 0 from rfl)
  have HN := Lib.hid (fun h : Ar.ok (a * b / c) = false => (told_no (z := a * b / c) (of_decide_eq_false h)).1)
  clear hw ha hb HV
  rw [HM.out]
  generalize hR : a * b % c = R at *
  have HR := Lib.hid hR
  clear hR
  generalize Ar.val (a * b / c) = V at *
  generalize Ar.ok (a * b / c) = o at *
  cases o with
  | true =>
    go_enter Tryd.func73, Tryd.ntmps73
    go_wp2_with fail
    refine (KA.out _).mono ?_
    rintro e w1 ⟨g1, rfl, h1, b1⟩
    go_wp2_with fail
    refine (KT.out _ _ h1).mono ?_
    rintro e w2 ⟨g2, rfl, h2, b2⟩
    go_wp2_with fail
    refine (KF.out _ _ h2).mono ?_
    rintro e w3 ⟨g3, g3', rfl, h3, h3', b3⟩
    rw [HR.out] at h3'
    have B3 := Lib.hid (below_then (below_then b1 b2) b3)
    clear h1 h2 b1 b2 b3
    go_wp2_with fail
    refine (KQ.out _ _ h3).mono ?_
    rintro e w4 ⟨rfl, b4⟩
    go_wp2_with fail
    have H4 := Lib.hid (show BitsAt w4 g3' R from RowAt.later h3' b4)
    have B4 := Lib.hid (below_then B3.out b4)
    clear h3 h3' b4 B3
    refine (KR.out _ _ H4.out).mono ?_
    rintro e w5 ⟨rfl, b5⟩
    go_wp2_with fail
    go_ret3
    exact ⟨rfl, below_then B4.out b5⟩
  | false =>
    have HN2 := Lib.hid (HN.out rfl)
    go_enter Tryd.func73, Tryd.ntmps73
    go_wp2_with fail
    refine (KA.out _).mono ?_
    rintro e w1 ⟨g1, rfl, h1, b1⟩
    go_wp2_with fail
    refine (KT.out _ _ h1).mono ?_
    rintro e w2 ⟨g2, rfl, h2, b2⟩
    go_wp2_with fail
    refine (KF.out _ _ h2).mono ?_
    rintro e w3 ⟨g3, g3', rfl, h3, h3', b3⟩
    rw [HR.out] at h3'
    have B3 := Lib.hid (below_then (below_then b1 b2) b3)
    clear h1 h2 b1 b2 b3
    go_wp2_with fail
    refine (KQ.out _ _ h3).mono ?_
    rintro e w4 ⟨rfl, b4⟩
    have B4 := Lib.hid (below_then B3.out b4)
    clear h3 h3' b4 B3
    go_wp2_with fail
    go_ret3
    rw [HN2.out]
    exact ⟨rfl, B4.out⟩
theorem near_eq (P c : Int) (c0 : 1 ≤ c) : Ar.near P c = if c ≤ 2 * (P % c) then P / c + 1 else P / c := by
  unfold Ar.near
  have e := Int.mul_ediv_add_emod P c
  have r0 := Int.emod_nonneg P (show c ≠ 0 by omega)
  have r1 := Int.emod_lt_of_pos P (show 0 < c by omega)
  split
  · refine ((Int.ediv_emod_unique (a := 2 * P + c) (b := 2 * c) (q := P / c + 1) (r := 2 * (P % c) - c) (by omega)).2 ⟨?_, by omega, by omega⟩).1
    rw [Int.mul_add, Int.mul_assoc]; omega
  · refine ((Int.ediv_emod_unique (a := 2 * P + c) (b := 2 * c) (q := P / c) (r := 2 * (P % c) + c) (by omega)).2 ⟨?_, by omega, by omega⟩).1
    rw [Int.mul_assoc]; omega
theorem rmuldiv_0 (a b c : Int) (w : World) (hc : c ≤ 0) :
    Calls Tryd.prog 73 #[.int .i64 a, .int .i64 b, .int .i64 c] w fun e w' => e = .returned (.tuple #[.int .i64 0, .int .i64 0, .bool false]) ∧ Below w.heap.size w w' := by
  go_enter Tryd.func73, Tryd.ntmps73
  go_wp2_with fail
  go_ret3
  exact ⟨rfl, Below.refl _ _⟩
theorem both_div (a b c : Int) (ha : I64 a) (hb : I64 b) (hc : I64 c) : ∃ (q r : Int) (o : Bool), (∀ w, Calls Tryd.prog 79 #[.int .i64 a, .int .i64 b, .int .i64 c] w fun e w' => e = .returned (.tuple #[.int .i64 q, .int .i64 r, .bool o]) ∧ Below w.heap.size w w') ∧ ∀ w, Calls Tryd.prog 73 #[.int .i64 a, .int .i64 b, .int .i64 c] w fun e w' => e = .returned (.tuple #[.int .i64 q, .int .i64 r, .bool o]) ∧ Below w.heap.size w w' := by
  unfold I64 at hc
  by_cases h : c ≤ 0
  · exact ⟨0, 0, false, fun w => (muldiv_0 a b c w h).mono fun e w' ⟨h1, h2⟩ => ⟨h1, by subst h2; exact Below.refl _ _⟩, fun w => rmuldiv_0 a b c w h⟩
  · exact ⟨_, _, _, fun w => muldiv_told a b c _ w ha hb (by omega) (by omega) rfl, fun w => rmuldiv_c a b c w ha hb (by omega) (by omega)⟩
end Go.Proofs.YtjchecjonkmhgaaDoor.Bw
end
