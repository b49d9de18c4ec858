/- The contracts of the document's integers: bits, sums, negatives. -/
import Derived.Test.YtinfjfjheimceaaAxRow
import Derived.Deep.QuietTactic
import Derived.BigQuiet
namespace Go.Proofs.Ytinfjfjheimceaa.Bw
open Go.RowKit Cm Bz
theorem uBits (n : Int) : IntKind.u64.wrap n = n % pw 64 / pw 0 := by rw [IntKind.wrap_u64, pw_64, pw_zero]; omega
theorem uRange (n : Int) (i : Nat) : 0 ≤ n % pw 64 / pw i ∧ n % pw 64 / pw i < 18446744073709551616 := by
  have h0 := Int.emod_nonneg n (show pw 64 ≠ 0 by decide)
  have h1 := Int.emod_lt_of_pos n (show 0 < pw 64 by decide)
  have hp := pw_pos i
  rw [pw_64] at *
  refine ⟨Int.ediv_nonneg h0 (by omega), ?_⟩
  have := Int.ediv_le_self (pw i) h0
  omega
set_option maxRecDepth 100000 in
set_option maxHeartbeats 800000 in
theorem rbits_c (n : Int) (w : World) (hn : I64 n) : Calls Try.prog 37 #[.int .i64 n] w (BitsRes n w) := by
  have HN := Lib.hid hn
  have hmk := make136
  have HU := Lib.hid (uBits n)
  have HR := Lib.hid (new_row' w (bit n))
  have HB := Lib.hid (new_below w)
  obtain ⟨n0, n1⟩ := hn
  go_enter Try.func37, Try.ntmps37
  go_wp2_with fail
  clear hmk
  go_loopw [4, 5] (fun u i wr => ∃ (k : Nat) (U : Int), k ≤ 136 ∧ i = .int .i64 k ∧ u = .int .u64 U ∧ (k ≤ 64 → U = n % pw 64 / pw k) ∧ RowAt wr w.heap.size (rowOf (upTo (bit n) k)) ∧ Below w.heap.size w wr) (fun _ i _ => 136 - (intOf i).toNat)
  case atStart => exact ⟨0, _, by omega, rfl, rfl, fun _ => HU.out, HR.out, HB.out⟩
  case round =>
    obtain ⟨k, U, hk, rfl, rfl, hU0, hR0, hB0⟩ := hrel
    have HU2 := Lib.hid hU0
    have HR2 := Lib.hid hR0
    have HB2 := Lib.hid hB0
    clear hU0 hR0 hB0 HU HR HB
    by_cases hlt : k < 136
    · have hfree := part_free HR2.out k hlt
      have hcell := part_cell HR2.out k hlt
      by_cases h64 : k < 64
      · have hUr := uRange n k
        rw [← HU2.out (by omega)] at hUr
        obtain ⟨u0, u1⟩ := hUr
        have HV := Lib.hid (show U % 2 = bit n k by rw [HU2.out (by omega), ← bit_mod n 64 k h64]; rfl)
        have HS := Lib.hid (show U / 2 = n % pw 64 / pw (k + 1) by rw [HU2.out (by omega), div_succ])
        go_wp2_with fail
        exact ⟨⟨k + 1, _, by omega, by simp, rfl, fun _ => HS.out, by rw [HV.out, ← upTo_set]; exact HR2.out.set k _, HB2.out.setCell (by simp) _⟩, by simp [intOf]; omega⟩
      · by_cases hneg : n < 0
        · have HV := Lib.hid (show bit n k = 1 by rw [bit_high n 63 k (by omega) (by rw [pw_63]; exact n0) (by rw [pw_63]; omega), if_pos hneg])
          go_wp2_with fail
          exact ⟨⟨k + 1, U, by omega, by simp, rfl, fun h => absurd h (by omega), by rw [← upTo_set, HV.out]; exact HR2.out.set k _, HB2.out.setCell (by simp) _⟩, by simp [intOf]; omega⟩
        · have HV := Lib.hid (show bit n k = 0 by rw [bit_high n 63 k (by omega) (by rw [pw_63]; exact n0) (by rw [pw_63]; omega), if_neg hneg])
          go_wp2_with fail
          exact ⟨⟨k + 1, U, by omega, by simp, rfl, fun h => absurd h (by omega), by rw [← upTo_skip _ _ HV.out]; exact HR2.out, HB2.out⟩, by simp [intOf]; omega⟩
    · have HR3 := Lib.hid (show BitsAt wr w.heap.size n by have := HR2.out; rwa [upTo_all _ _ (by omega)] at this)
      go_wp2_with fail
      go_ret
      exact ⟨_, rfl, HR3.out, HB2.out⟩
set_option maxRecDepth 100000 in
set_option maxHeartbeats 800000 in
theorem rplus_c (x y : Int) (ga gb : Nat) (w : World) (ha : BitsAt w ga x) (hb : BitsAt w gb y) : Calls Try.prog 45 #[.slice (some ⟨ga, 0, none⟩) 136 136, .slice (some ⟨gb, 0, none⟩) 136 136] w (BitsRes (x + y) w) := by
  have hmk := make136
  have HA := Lib.hid ha
  have HBb := Lib.hid hb
  have HR := Lib.hid (new_row' w (bit (x + y + 0)))
  have HB := Lib.hid (new_below w)
  have HC := Lib.hid (carry_zero x y 0)
  have la := ha.lt
  have lb := hb.lt
  clear ha hb
  go_enter Try.func45, Try.ntmps45
  go_wp2_with fail
  clear hmk
  go_loopw [6, 7] (fun c i wr => ∃ k : Nat, k ≤ 136 ∧ i = .int .i64 k ∧ c = .int .i64 (carry x y 0 k) ∧ RowAt wr w.heap.size (rowOf (upTo (bit (x + y + 0)) k)) ∧ Below w.heap.size w wr) (fun _ i _ => 136 - (intOf i).toNat)
  case atStart => exact ⟨0, by omega, rfl, by rw [HC.out], HR.out, HB.out⟩
  case round =>
    obtain ⟨k, hk, rfl, rfl, hR0, hB0⟩ := hrel
    have HR2 := Lib.hid hR0
    have HB2 := Lib.hid hB0
    clear hR0 hB0 HR HB HC
    by_cases hlt : k < 136
    · have hfree := part_free HR2.out k hlt
      have hcell := part_cell HR2.out k hlt
      have ca := BitsAt.cell (HA.out.under HB2.out la) k hlt
      have cb := BitsAt.cell (HBb.out.under HB2.out lb) k hlt
      have HV := Lib.hid (bit_add x y 0 k)
      have HS := Lib.hid (carry_succ x y 0 k)
      obtain ⟨b0, b1⟩ := bit_range x k
      obtain ⟨b2, b3⟩ := bit_range y k
      obtain ⟨b4, b5⟩ := carry_range x y 0 k (by omega) (by omega)
      have q0 : (0 : Int) ≤ (k : Int) := by omega
      have q1 : (k : Int) < 136 := by omega
      go_wp2_with fail
      go_quiet (fail)
      go_wp2_with fail
      exact ⟨⟨k + 1, by omega, by simp, by rw [HS.out], by rw [← HV.out, ← upTo_set]; exact HR2.out.drewN.set k _, Below.setCell (by exact ⟨HB2.out.os, HB2.out.tape, HB2.out.output, HB2.out.size, HB2.out.block⟩) (by simp) _⟩, by simp [intOf]; omega⟩
    · have HR3 := Lib.hid (show BitsAt wr w.heap.size (x + y) by have := HR2.out; rw [upTo_all _ _ (by omega), Int.add_zero] at this; exact this)
      go_wp2_with fail
      go_ret
      exact ⟨_, rfl, HR3.out, HB2.out⟩
set_option maxRecDepth 100000 in
set_option maxHeartbeats 800000 in
theorem rminus_c (x : Int) (ga : Nat) (w : World) (ha : BitsAt w ga x) : Calls Try.prog 43 #[.slice (some ⟨ga, 0, none⟩) 136 136] w (BitsRes (-x) w) := by
  have hmk := make136
  have HA := Lib.hid ha
  have HR := Lib.hid (new_row' w (bit (-1 - x + 0 + 1)))
  have HB := Lib.hid (new_below w)
  have HC := Lib.hid (carry_zero (-1 - x) 0 1)
  have la := ha.lt
  clear ha
  go_enter Try.func43, Try.ntmps43
  go_wp2_with fail
  clear hmk
  go_loopw [4, 5] (fun c i wr => ∃ k : Nat, k ≤ 136 ∧ i = .int .i64 k ∧ c = .int .i64 (carry (-1 - x) 0 1 k) ∧ RowAt wr w.heap.size (rowOf (upTo (bit (-1 - x + 0 + 1)) k)) ∧ Below w.heap.size w wr) (fun _ i _ => 136 - (intOf i).toNat)
  case atStart => exact ⟨0, by omega, rfl, by rw [HC.out], HR.out, HB.out⟩
  case round =>
    obtain ⟨k, hk, rfl, rfl, hR0, hB0⟩ := hrel
    have HR2 := Lib.hid hR0
    have HB2 := Lib.hid hB0
    clear hR0 hB0 HR HB HC
    by_cases hlt : k < 136
    · have hfree := part_free HR2.out k hlt
      have hcell := part_cell HR2.out k hlt
      have ca := BitsAt.cell (HA.out.under HB2.out la) k hlt
      have HV := Lib.hid (show bit (-1 - x + 0 + 1) k = (1 - bit x k + carry (-1 - x) 0 1 k) % 2 by rw [bit_add, bit_not, bit_zero, Int.add_zero])
      have HS := Lib.hid (show carry (-1 - x) 0 1 (k + 1) = (1 - bit x k + carry (-1 - x) 0 1 k) / 2 by rw [carry_succ, bit_not, bit_zero, Int.add_zero])
      obtain ⟨b0, b1⟩ := bit_range x k
      obtain ⟨b4, b5⟩ := carry_range (-1 - x) 0 1 k (by omega) (by omega)
      go_wp2_with fail
      exact ⟨⟨k + 1, by omega, by simp, by rw [HS.out], by rw [← HV.out, ← upTo_set]; exact HR2.out.set k _, HB2.out.setCell (by simp) _⟩, by simp [intOf]; omega⟩
    · have HR3 := Lib.hid (show BitsAt wr w.heap.size (-x) by have := HR2.out; rw [upTo_all _ _ (by omega), show -1 - x + 0 + 1 = -x by omega] at this; exact this)
      go_wp2_with fail
      go_ret
      exact ⟨_, rfl, HR3.out, HB2.out⟩
theorem rtwice_c (x : Int) (ga : Nat) (w : World) (ha : BitsAt w ga x) : Calls Try.prog 46 #[.slice (some ⟨ga, 0, none⟩) 136 136] w (BitsRes (2 * x) w) := by
  have K := Lib.hid (rplus_c x x ga ga w ha ha)
  have HX := Lib.hid (show x + x = 2 * x by omega)
  clear ha
  go_enter Try.func46, Try.ntmps46
  go_wp2_with fail
  refine K.out.mono ?_
  rintro e w1 ⟨g, rfl, h1, b1⟩
  rw [HX.out] at h1
  have H1 := Lib.hid h1
  clear h1
  go_wp2_with fail
  go_ret
  exact ⟨g, rfl, H1.out, b1⟩
theorem rbelow_c (x : Int) (ga : Nat) (w : World) (ha : BitsAt w ga x) (hx : Mid x) : Calls Try.prog 41 #[.slice (some ⟨ga, 0, none⟩) 136 136] w fun e w' => e = .returned (.bool (decide (x < 0))) ∧ Below w.heap.size w w' := by
  have hcell := ha.cell 135 (by omega)
  rw [below_bit x hx] at hcell
  by_cases h : x < 0
  · rw [if_pos h] at hcell
    rw [decide_eq_true h]
    clear h ha hx
    go_enter Try.func41, Try.ntmps41
    go_wp2_with fail
    go_ret
    exact ⟨rfl, Below.refl _ _⟩
  · rw [if_neg h] at hcell
    rw [decide_eq_false h]
    clear h ha hx
    go_enter Try.func41, Try.ntmps41
    go_wp2_with fail
    go_ret
    exact ⟨rfl, Below.refl _ _⟩
end Go.Proofs.Ytinfjfjheimceaa.Bw
