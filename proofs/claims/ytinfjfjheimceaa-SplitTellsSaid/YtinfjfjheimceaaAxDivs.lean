/- Package arith: quotients against the document's. -/
import Derived.Test.YtinfjfjheimceaaAxUpon
import Derived.Test.YtinfjfjheimceaaAxParts
namespace Go.Proofs.Ytinfjfjheimceaa.Bw
open Go.RowKit Cm Bz
theorem zero_of (r : Int) (h0 : 0 ≤ r) (h1 : r ≤ 9223372036854775807) (h : ∀ j, j < 136 → bit r j = 0) : r = 0 := by
  have h2 := all_same r 0 63 (fun i hi => h i (by omega))
  rw [pw_63] at h2
  omega
set_option maxRecDepth 100000 in
theorem rsame_c (r : Int) (ga gb : Nat) (w : World) (ha : BitsAt w ga r) (hb : BitsAt w gb 0) (h0 : 0 ≤ r) (h1 : r ≤ 9223372036854775807) :
    Calls Try.prog 44 #[.slice (some ⟨ga, 0, none⟩) 136 136, .slice (some ⟨gb, 0, none⟩) 136 136] w fun e w' => e = .returned (.bool (decide (r = 0))) ∧ Below w.heap.size w w' := by
  have HA := Lib.hid ha
  have HBb := Lib.hid hb
  have la := ha.lt
  have lb := hb.lt
  have HZ := Lib.hid (zero_of r h0 h1)
  clear ha hb
  go_enter Try.func44, Try.ntmps44
  go_wp2_with fail
  go_loopw [5] (fun i wr => ∃ k : Nat, k ≤ 136 ∧ i = .int .i64 k ∧ (∀ j, j < k → bit r j = 0) ∧ Below w.heap.size w wr) (fun i _ => 136 - (intOf i).toNat)
  case atStart => exact ⟨0, by omega, rfl, fun j h => absurd h (by omega), Below.refl _ _⟩
  case round =>
    obtain ⟨k, hk, rfl, hs0, hB0⟩ := hrel
    have HS := Lib.hid hs0
    have HB := Lib.hid hB0
    clear hs0 hB0
    by_cases hlt : k < 136
    · have ca := BitsAt.cell (HA.out.under HB.out la) k hlt
      have cb := BitsAt.cell (HBb.out.under HB.out lb) k hlt
      rw [bit_zero] at cb
      have q0 : (0 : Int) ≤ (k : Int) := by omega
      have q1 : (k : Int) < 136 := by omega
      by_cases he : bit r k = 0
      · have HE := Lib.hid he
        rw [he] at ca
        clear he
        go_wp2_with fail
        go_quiet (fail)
        go_wp2_with fail
        exact ⟨⟨k + 1, by omega, by simp, fun j h2 => by
          rcases Nat.lt_or_eq_of_le (Nat.le_of_lt_succ h2) with h | rfl
          · exact HS.out j h
          · exact HE.out, ⟨HB.out.os, HB.out.tape, HB.out.output, HB.out.size, HB.out.block⟩⟩, by simp [intOf]; omega⟩
      · have HE := Lib.hid (show decide (r = 0) = false from decide_eq_false (fun h => he (by rw [h, bit_zero])))
        have hne : (bit r k == 0) = false := beq_eq_false_iff_ne.2 he
        have hne2 : (bit r k != 0) = true := by rw [bne, hne]; rfl
        clear he
        go_wp2_with fail
        go_quiet (fail)
        go_wp2_with fail
        go_ret
        exact ⟨by rw [HE.out]; rfl, ⟨HB.out.os, HB.out.tape, HB.out.output, HB.out.size, HB.out.block⟩⟩
    · have HE := Lib.hid (show decide (r = 0) = true from decide_eq_true (HZ.out (fun j hj => HS.out j (by omega))))
      go_wp2_with fail
      go_ret
      exact ⟨by rw [HE.out]; rfl, HB.out⟩
theorem below_then {a b c : World} (h : Below a.heap.size a b) (k : Below b.heap.size b c) : Below a.heap.size a c := h.trans (k.mono h.size)
def Wide (x : Int) : Prop := -85070591730234615865843651857942052864 ≤ x ∧ x ≤ 85070591730234615865843651857942052864
theorem Wide.mid {x : Int} (h : Wide x) : Mid x := by unfold Wide at h; unfold Mid; omega
set_option maxRecDepth 100000 in
set_option maxHeartbeats 1600000 in
theorem rfloor_c (x c : Int) (ga : Nat) (w : World) (ha : BitsAt w ga x) (hx : Wide x) (c1 : 1 ≤ c) (c2 : c ≤ 9223372036854775807) :
    Calls Try.prog 35 #[.slice (some ⟨ga, 0, none⟩) 136 136, .int .i64 c] w (DivRes x c w) := by
  have KL := Lib.hid (rbelow_c x ga w ha hx.mid)
  have KP := Lib.hid (fun x y ga gb w h1 h2 => rplus_c x y ga gb w h1 h2)
  have KM := Lib.hid (fun x ga w h1 => rminus_c x ga w h1)
  have K0 := Lib.hid (fun w => rbits_c 0 w ⟨by omega, by omega⟩)
  have K1 := Lib.hid (fun w => rbits_c 1 w ⟨by omega, by omega⟩)
  have KC := Lib.hid (fun w => rbits_c c w ⟨by omega, c2⟩)
  have HA := Lib.hid ha
  by_cases hneg : x < 0
  · obtain ⟨y, rfl⟩ : ∃ y, x = -y := ⟨-x, by omega⟩
    have KU := Lib.hid (fun ga w h1 => rupon_c y c ga w h1 (by omega) (by unfold Wide at hx; omega) c1 c2)
    have HY := Lib.hid (show -(-y) = y by omega)
    have r0 := Int.emod_nonneg y (show c ≠ 0 by omega)
    have r1 := Int.emod_lt_of_pos y (show 0 < c by omega)
    have KS := Lib.hid (fun ga gb w h1 h2 => rsame_c (y % c) ga gb w h1 h2 r0 (by omega))
    have hd : decide (-y < 0) = true := decide_eq_true hneg
    have hp : 0 < y := by omega
    have hd2 : decide (0 < y) = true := decide_eq_true hp
    have HZ := Lib.hid (fun h : y % c = 0 => Ar.floor_neg0 y c c1 h)
    have HN := Lib.hid (fun h : 0 < y % c => Ar.floor_neg y c c1 h)
    generalize hQ : y / c = Q at *
    generalize hR : y % c = R at *
    have HQ := Lib.hid hQ
    have HR := Lib.hid hR
    clear ha hx hneg hQ hR
    by_cases hR : R = 0
    · have hs : decide (R = 0) = true := decide_eq_true hR
      have HZ2 := Lib.hid (HZ.out hR)
      have HR0 := Lib.hid hR
      clear hR
      go_enter Try.func35, Try.ntmps35
      go_wp2_with fail
      refine KL.out.mono ?_
      rintro e w1 ⟨rfl, b1⟩
      go_wp2_with fail
      refine (KM.out _ _ _ (RowAt.later HA.out b1)).mono ?_
      rintro e w2 ⟨g2, rfl, h2, b2⟩
      rw [HY.out] at h2
      go_wp2_with fail
      refine (KU.out _ _ h2).mono ?_
      rintro e w3 ⟨g3, g3', rfl, h3, h3', b3⟩
      rw [HQ.out] at h3
      rw [HR.out] at h3'
      have B3 := Lib.hid (below_then (below_then b1 b2) b3)
      clear h2 b1 b2 b3
      go_wp2_with fail
      refine (K0.out _).mono ?_
      rintro e w4 ⟨g4, rfl, h4, b4⟩
      go_wp2_with fail
      refine (KS.out _ _ _ (RowAt.later h3' b4) h4).mono ?_
      rintro e w5 ⟨rfl, b5⟩
      have H5 := Lib.hid (show BitsAt w5 g3 Q from RowAt.later (RowAt.later h3 b4) b5)
      have H6 := Lib.hid (show BitsAt w5 g3' R from RowAt.later (RowAt.later h3' b4) b5)
      have B5 := Lib.hid (below_then (below_then B3.out b4) b5)
      clear h3 h3' h4 b4 b5 B3
      go_wp2_with fail
      refine (KM.out _ _ _ H5.out).mono ?_
      rintro e w6 ⟨g6, rfl, h6, b6⟩
      have H7 := Lib.hid (show BitsAt w6 g3' R from RowAt.later H6.out b6)
      have H8 := Lib.hid h6
      have B6 := Lib.hid (below_then B5.out b6)
      clear h6 b6
      go_wp2_with fail
      go_ret2
      exact ⟨g6, g3', rfl, by rw [HZ2.out.1]; exact H8.out, by rw [HZ2.out.2, ← HR0.out]; exact H7.out, B6.out⟩
    · have hs : decide (R = 0) = false := decide_eq_false hR
      have HZ2 := Lib.hid (HN.out (by omega))
      clear hR
      go_enter Try.func35, Try.ntmps35
      go_wp2_with fail
      refine KL.out.mono ?_
      rintro e w1 ⟨rfl, b1⟩
      go_wp2_with fail
      refine (KM.out _ _ _ (RowAt.later HA.out b1)).mono ?_
      rintro e w2 ⟨g2, rfl, h2, b2⟩
      rw [HY.out] at h2
      go_wp2_with fail
      refine (KU.out _ _ h2).mono ?_
      rintro e w3 ⟨g3, g3', rfl, h3, h3', b3⟩
      rw [HQ.out] at h3
      rw [HR.out] at h3'
      have B3 := Lib.hid (below_then (below_then b1 b2) b3)
      clear h2 b1 b2 b3
      go_wp2_with fail
      refine (K0.out _).mono ?_
      rintro e w4 ⟨g4, rfl, h4, b4⟩
      go_wp2_with fail
      refine (KS.out _ _ _ (RowAt.later h3' b4) h4).mono ?_
      rintro e w5 ⟨rfl, b5⟩
      have H5 := Lib.hid (show BitsAt w5 g3 Q from RowAt.later (RowAt.later h3 b4) b5)
      have H6 := Lib.hid (show BitsAt w5 g3' R from RowAt.later (RowAt.later h3' b4) b5)
      have B5 := Lib.hid (below_then (below_then B3.out b4) b5)
      clear h3 h3' h4 b4 b5 B3
      go_wp2_with fail
      refine (K1.out _).mono ?_
      rintro e w6 ⟨g6, rfl, h6, b6⟩
      go_wp2_with fail
      refine (KP.out _ _ _ _ _ (RowAt.later H5.out b6) h6).mono ?_
      rintro e w7 ⟨g7, rfl, h7, b7⟩
      go_wp2_with fail
      refine (KM.out _ _ _ h7).mono ?_
      rintro e w8 ⟨g8, rfl, h8, b8⟩
      have H9 := Lib.hid (show BitsAt w8 g3' R from RowAt.later (RowAt.later (RowAt.later H6.out b6) b7) b8)
      have H10 := Lib.hid h8
      have B8 := Lib.hid (below_then (below_then (below_then B5.out b6) b7) b8)
      clear h6 h7 h8 b6 b7 b8 H5 H6 B5
      go_wp2_with fail
      refine (KC.out _).mono ?_
      rintro e w9 ⟨g9, rfl, h9, b9⟩
      go_wp2_with fail
      refine (KM.out _ _ _ (RowAt.later H9.out b9)).mono ?_
      rintro e w10 ⟨g10, rfl, h10, b10⟩
      go_wp2_with fail
      refine (KP.out _ _ _ _ _ (RowAt.later h9 b10) h10).mono ?_
      rintro e w11 ⟨g11, rfl, h11, b11⟩
      have H11 := Lib.hid h11
      have H12 := Lib.hid (show BitsAt w11 g8 (-(Q + 1)) from RowAt.later (RowAt.later (RowAt.later H10.out b9) b10) b11)
      have B11 := Lib.hid (below_then (below_then (below_then B8.out b9) b10) b11)
      clear h9 h10 h11 b9 b10 b11
      go_wp2_with fail
      go_ret2
      exact ⟨g8, g11, rfl, by rw [HZ2.out.1]; exact H12.out, by rw [HZ2.out.2, Int.sub_eq_add_neg]; exact H11.out, B11.out⟩
  · have KU := Lib.hid (fun ga w h1 => rupon_c x c ga w h1 (by omega) (by unfold Wide at hx; omega) c1 c2)
    have hd : decide (x < 0) = false := decide_eq_false hneg
    clear ha hx hneg
    go_enter Try.func35, Try.ntmps35
    go_wp2_with fail
    refine KL.out.mono ?_
    rintro e w1 ⟨rfl, b1⟩
    go_wp2_with fail
    refine (KU.out _ _ (RowAt.later HA.out b1)).mono ?_
    rintro e w2 ⟨g, g', rfl, h2, h2', b2⟩
    have H2 := Lib.hid h2
    have H3 := Lib.hid h2'
    have B2 := Lib.hid (below_then b1 b2)
    clear h2 h2' b1 b2
    go_wp2_with fail
    go_ret2
    exact ⟨g, g', rfl, H2.out, H3.out, B2.out⟩
theorem wide_mul (a b : Int) (ha : I64 a) (hb : I64 b) : Wide (a * b) := by
  unfold I64 at *
  have ma := Ar.mag_bd a ha.1 ha.2
  have mb := Ar.mag_bd b hb.1 hb.2
  have pd := Ar.prod_bd (Ar.mag a) (Ar.mag b) ma.1 ma.2 mb.1 mb.2
  have E := Ar.sg_mul a b
  unfold Ar.sg at E
  unfold Wide
  split at E <;> omega
theorem wide_div {x c : Int} (h : Wide x) (c1 : 1 ≤ c) : Wide (x / c) := by
  unfold Wide at *
  constructor
  · have h1 : -85070591730234615865843651857942052864 ≤ x / c := by
      rw [Int.le_ediv_iff_mul_le (by omega)]
      have : 85070591730234615865843651857942052864 * 1 ≤ 85070591730234615865843651857942052864 * c := Int.mul_le_mul_of_nonneg_left c1 (by omega)
      omega
    exact h1
  · have h1 : x / c < 85070591730234615865843651857942052865 := by
      refine Int.ediv_lt_of_lt_mul (by omega) ?_
      have : 85070591730234615865843651857942052865 * 1 ≤ 85070591730234615865843651857942052865 * c := Int.mul_le_mul_of_nonneg_left c1 (by omega)
      omega
    omega
set_option maxRecDepth 100000 in
set_option maxHeartbeats 800000 in
theorem rmuldiv_c (a b c : Int) (w : World) (ha : I64 a) (hb : I64 b) (c1 : 1 ≤ c) (c2 : c ≤ 9223372036854775807) :
    Calls Try.prog 32 #[.int .i64 a, .int .i64 b, .int .i64 c] w fun e w' => e = .returned (.tuple #[.int .i64 (Ar.val (a * b / c)), .int .i64 (mdr (a * b) c), .bool (Ar.ok (a * b / c))]) ∧ Below w.heap.size w w' := by
  have hw := wide_mul a b ha hb
  have KA := Lib.hid (fun w => rbits_c a w ha)
  have KT := Lib.hid (fun ga w h1 => rtimes_c a b ga w h1 hb)
  have KF := Lib.hid (fun ga w h1 => rfloor_c (a * b) c ga w h1 hw c1 c2)
  have KQ := Lib.hid (fun ga w h1 => rnumber_c (a * b / c) ga w h1 (wide_div hw c1).mid)
  have r0 := Int.emod_nonneg (a * b) (show c ≠ 0 by omega)
  have r1 := Int.emod_lt_of_pos (a * b) (show 0 < c by omega)
  have KR := Lib.hid (fun ga w h1 => rnumber_c (a * b % c) ga w h1 (by unfold Mid; omega))
  have HV := Lib.hid (told_yes (z := a * b % c) (by unfold Ar.Fits; omega))
  have hc : ¬ c ≤ 0 := by omega
  unfold Told at KQ KR
  rw [HV.out.1, HV.out.2] at KR
  have HM := Lib.hid (show mdr (a * b) c = if Ar.ok (a * b / c) then a * b % c else 0 from rfl)
  have HN := Lib.hid (fun h : Ar.ok (a * b / c) = false => (told_no (z := a * b / c) (of_decide_eq_false h)).1)
  clear hw ha hb HV
  rw [HM.out]
  generalize hR : a * b % c = R at *
  have HR := Lib.hid hR
  clear hR
  generalize Ar.val (a * b / c) = V at *
  generalize Ar.ok (a * b / c) = o at *
  cases o with
  | true =>
    go_enter Try.func32, Try.ntmps32
    go_wp2_with fail
    refine (KA.out _).mono ?_
    rintro e w1 ⟨g1, rfl, h1, b1⟩
    go_wp2_with fail
    refine (KT.out _ _ h1).mono ?_
    rintro e w2 ⟨g2, rfl, h2, b2⟩
    go_wp2_with fail
    refine (KF.out _ _ h2).mono ?_
    rintro e w3 ⟨g3, g3', rfl, h3, h3', b3⟩
    rw [HR.out] at h3'
    have B3 := Lib.hid (below_then (below_then b1 b2) b3)
    clear h1 h2 b1 b2 b3
    go_wp2_with fail
    refine (KQ.out _ _ h3).mono ?_
    rintro e w4 ⟨rfl, b4⟩
    go_wp2_with fail
    have H4 := Lib.hid (show BitsAt w4 g3' R from RowAt.later h3' b4)
    have B4 := Lib.hid (below_then B3.out b4)
    clear h3 h3' b4 B3
    refine (KR.out _ _ H4.out).mono ?_
    rintro e w5 ⟨rfl, b5⟩
    go_wp2_with fail
    go_ret3
    exact ⟨rfl, below_then B4.out b5⟩
  | false =>
    have HN2 := Lib.hid (HN.out rfl)
    go_enter Try.func32, Try.ntmps32
    go_wp2_with fail
    refine (KA.out _).mono ?_
    rintro e w1 ⟨g1, rfl, h1, b1⟩
    go_wp2_with fail
    refine (KT.out _ _ h1).mono ?_
    rintro e w2 ⟨g2, rfl, h2, b2⟩
    go_wp2_with fail
    refine (KF.out _ _ h2).mono ?_
    rintro e w3 ⟨g3, g3', rfl, h3, h3', b3⟩
    rw [HR.out] at h3'
    have B3 := Lib.hid (below_then (below_then b1 b2) b3)
    clear h1 h2 b1 b2 b3
    go_wp2_with fail
    refine (KQ.out _ _ h3).mono ?_
    rintro e w4 ⟨rfl, b4⟩
    have B4 := Lib.hid (below_then B3.out b4)
    clear h3 h3' b4 B3
    go_wp2_with fail
    go_ret3
    rw [HN2.out]
    exact ⟨rfl, B4.out⟩
theorem near_eq (P c : Int) (c0 : 1 ≤ c) : Ar.near P c = if c ≤ 2 * (P % c) then P / c + 1 else P / c := by
  unfold Ar.near
  have e := Int.mul_ediv_add_emod P c
  have r0 := Int.emod_nonneg P (show c ≠ 0 by omega)
  have r1 := Int.emod_lt_of_pos P (show 0 < c by omega)
  split
  · refine ((Int.ediv_emod_unique (a := 2 * P + c) (b := 2 * c) (q := P / c + 1) (r := 2 * (P % c) - c) (by omega)).2 ⟨?_, by omega, by omega⟩).1
    rw [Int.mul_add, Int.mul_assoc]; omega
  · refine ((Int.ediv_emod_unique (a := 2 * P + c) (b := 2 * c) (q := P / c) (r := 2 * (P % c) + c) (by omega)).2 ⟨?_, by omega, by omega⟩).1
    rw [Int.mul_assoc]; omega
theorem rmuldiv_0 (a b c : Int) (w : World) (hc : c ≤ 0) :
    Calls Try.prog 32 #[.int .i64 a, .int .i64 b, .int .i64 c] w fun e w' => e = .returned (.tuple #[.int .i64 0, .int .i64 0, .bool false]) ∧ Below w.heap.size w w' := by
  go_enter Try.func32, Try.ntmps32
  go_wp2_with fail
  go_ret3
  exact ⟨rfl, Below.refl _ _⟩
theorem both_div (a b c : Int) (ha : I64 a) (hb : I64 b) (hc : I64 c) : ∃ (q r : Int) (o : Bool), (∀ w, Calls Try.prog 14 #[.int .i64 a, .int .i64 b, .int .i64 c] w fun e w' => e = .returned (.tuple #[.int .i64 q, .int .i64 r, .bool o]) ∧ Below w.heap.size w w') ∧ ∀ w, Calls Try.prog 32 #[.int .i64 a, .int .i64 b, .int .i64 c] w fun e w' => e = .returned (.tuple #[.int .i64 q, .int .i64 r, .bool o]) ∧ Below w.heap.size w w' := by
  unfold I64 at hc
  by_cases h : c ≤ 0
  · exact ⟨0, 0, false, fun w => (muldiv_0 a b c w h).mono fun e w' ⟨h1, h2⟩ => ⟨h1, by subst h2; exact Below.refl _ _⟩, fun w => rmuldiv_0 a b c w h⟩
  · exact ⟨_, _, _, fun w => muldiv_told a b c _ w ha hb (by omega) (by omega) rfl, fun w => rmuldiv_c a b c w ha hb (by omega) (by omega)⟩
end Go.Proofs.Ytinfjfjheimceaa.Bw
