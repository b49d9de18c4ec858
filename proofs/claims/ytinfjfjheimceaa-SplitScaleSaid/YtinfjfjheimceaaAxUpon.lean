/- The contracts of the document's integers: quotients, bit by bit. -/
import Derived.Test.YtinfjfjheimceaaAxRefMul
import Derived.Deep.RegionHeld3
namespace Go.Proofs.Ytinfjfjheimceaa.Bw
open Go.RowKit Cm Bz
theorem div_step (Y b c : Int) (c1 : 1 ≤ c) (b0 : 0 ≤ b) (b1 : b ≤ 1) :
    (c ≤ 2 * (Y % c) + b → (2 * Y + b) / c = 2 * (Y / c) + 1 ∧ (2 * Y + b) % c = 2 * (Y % c) + b - c) ∧
    (¬ c ≤ 2 * (Y % c) + b → (2 * Y + b) / c = 2 * (Y / c) ∧ (2 * Y + b) % c = 2 * (Y % c) + b) := by
  have e := Int.mul_ediv_add_emod Y c
  have r0 := Int.emod_nonneg Y (show c ≠ 0 by omega)
  have r1 := Int.emod_lt_of_pos Y (show 0 < c by omega)
  constructor
  · intro h
    refine (Int.ediv_emod_unique (by omega)).2 ⟨?_, by omega, by omega⟩
    rw [Int.mul_add, ← Int.mul_assoc, Int.mul_comm c 2, Int.mul_assoc]; omega
  · intro h
    refine (Int.ediv_emod_unique (by omega)).2 ⟨?_, by omega, by omega⟩
    rw [← Int.mul_assoc, Int.mul_comm c 2, Int.mul_assoc]; omega
theorem bit_step (x : Int) (k : Nat) : x / pw k = 2 * (x / pw (k + 1)) + bit x k := by
  rw [div_succ]; unfold bit; omega
/-- What the loop's blocks hold. -/
def Quad (w u : World) (ga gq gr : Nat) (x Q R : Int) : Prop := BitsAt u ga x ∧ BitsAt u gq Q ∧ BitsAt u gr R ∧ Below w.heap.size w u
theorem Quad.later {w u u' : World} {ga gq gr : Nat} {x Q R : Int} (h : Quad w u ga gq gr x Q R) (b : Below u.heap.size u u') : Quad w u' ga gq gr x Q R :=
  ⟨RowAt.later h.1 b, RowAt.later h.2.1 b, RowAt.later h.2.2.1 b, h.2.2.2.trans (b.mono h.2.2.2.size)⟩
theorem Quad.drew {w u : World} {ga gq gr : Nat} {x Q R : Int} (h : Quad w u ga gq gr x Q R) : Quad w u.drew ga gq gr x Q R :=
  ⟨RowAt.drew h.1, RowAt.drew h.2.1, RowAt.drew h.2.2.1, h.2.2.2.drew⟩
theorem Quad.held {w u : World} {ga gq gr : Nat} {x Q R : Int} (h : Quad w u ga gq gr x Q R) (k : Nat) (hk : k < 136) : u.cell? ⟨ga, k, none⟩ = some (.int .i64 (bit x k)) ∧ Quad w u ga gq gr x Q R := ⟨h.1.cell k hk, h⟩
def DivRes (x c : Int) (w : World) (e : Ending) (w' : World) : Prop := ∃ g h, e = .returned (.tuple #[.slice (some ⟨g, 0, none⟩) 136 136, .slice (some ⟨h, 0, none⟩) 136 136]) ∧ BitsAt w' g (x / c) ∧ BitsAt w' h (x % c) ∧ Below w.heap.size w w'
set_option maxRecDepth 100000 in
set_option maxHeartbeats 1600000 in
theorem rupon_c (x c : Int) (ga : Nat) (w : World) (ha : BitsAt w ga x) (x0 : 0 ≤ x) (x1 : x < 43556142965880123323311949751266331066368) (c1 : 1 ≤ c) (c2 : c ≤ 9223372036854775807) :
    Calls Try.prog 42 #[.slice (some ⟨ga, 0, none⟩) 136 136, .int .i64 c] w (DivRes x c w) := by
  have HA := Lib.hid ha
  have K0 := Lib.hid (fun w => rbits_c 0 w ⟨by omega, by omega⟩)
  have K1 := Lib.hid (fun w => rbits_c 1 w ⟨by omega, by omega⟩)
  have KC := Lib.hid (fun w => rbits_c c w ⟨by omega, c2⟩)
  have KB := Lib.hid (fun k w => rbits_c (bit x k) w ⟨by have := bit_range x k; omega, by have := bit_range x k; omega⟩)
  have KP := Lib.hid (fun x y ga gb w h1 h2 => rplus_c x y ga gb w h1 h2)
  have KT := Lib.hid (fun x ga w h1 => rtwice_c x ga w h1)
  have KM := Lib.hid (fun x ga w h1 => rminus_c x ga w h1)
  have KL := Lib.hid (fun x ga w h1 h2 => rbelow_c x ga w h1 h2)
  have HX := Lib.hid (show x / pw 136 = 0 from div_small _ _ x0 (by rw [show pw 136 = 87112285931760246646623899502532662132736 by decide]; omega))
  clear ha x0 x1
  go_enter Try.func42, Try.ntmps42
  go_wp2_with fail
  refine (K0.out _).mono ?_
  rintro e w1 ⟨gq, rfl, h1, b1⟩
  go_wp2_with fail
  refine (K0.out _).mono ?_
  rintro e w2 ⟨gr, rfl, h2, b2⟩
  have Q2 := Lib.hid (show Quad w w2 ga gq gr x 0 0 from ⟨RowAt.later (RowAt.later HA.out b1) b2, RowAt.later h1 b2, h2, b1.trans (b2.mono b1.size)⟩)
  clear h1 h2 b1 b2 HA K0
  go_wp2_with fail
  go_loopw [6, 7, 8] (fun q r i wr => ∃ (k g h : Nat), k ≤ 136 ∧ i = .int .i64 ((k : Int) - 1) ∧ q = .slice (some ⟨g, 0, none⟩) 136 136 ∧ r = .slice (some ⟨h, 0, none⟩) 136 136 ∧ Quad w wr ga g h x (x / pw k / c) (x / pw k % c)) (fun _ _ i _ => (intOf i + 1).toNat)
  case atStart => exact ⟨136, gq, gr, by omega, rfl, rfl, rfl, by rw [HX.out, Int.zero_ediv, Int.zero_emod]; exact Q2.out⟩
  case round =>
    obtain ⟨k, g, h, hk, rfl, rfl, rfl, hq⟩ := hrel
    have QQ := Lib.hid hq
    clear hq Q2 HX
    rcases Nat.eq_zero_or_pos k with rfl | hk0
    · have HE := Lib.hid (show x / pw 0 = x by rw [pw_zero, Int.ediv_one])
      go_wp2_with fail
      go_ret2
      exact ⟨g, h, rfl, by rw [← HE.out]; exact QQ.out.2.1, by rw [← HE.out]; exact QQ.out.2.2.1, QQ.out.2.2.2⟩
    · obtain ⟨k, rfl⟩ : ∃ j, k = j + 1 := ⟨k - 1, by omega⟩
      obtain ⟨v0, v1⟩ := bit_range x k
      have HS := Lib.hid (div_step (x / pw (k + 1)) (bit x k) c c1 v0 v1)
      rw [← bit_step] at HS
      have r0 := Int.emod_nonneg (x / pw (k + 1)) (show c ≠ 0 by omega)
      have r1 := Int.emod_lt_of_pos (x / pw (k + 1)) (show 0 < c by omega)
      have hk9 : k < 136 := by omega
      have q0 : (0 : Int) ≤ (k : Int) := by omega
      have q1 : (k : Int) < 136 := by omega
      generalize x / pw (k + 1) / c = Q at *
      generalize x / pw (k + 1) % c = R at *
      generalize hQ' : x / pw k / c = Q' at *
      generalize hR' : x / pw k % c = R' at *
      have HQ' := Lib.hid hQ'
      have HR' := Lib.hid hR'
      clear hQ' hR'
      go_wp2_with fail
      refine (KT.out _ _ _ QQ.out.2.1).mono ?_
      rintro e w3 ⟨g3, rfl, h3, b3⟩
      have Q3 := Lib.hid (show Quad w w3 ga g3 h x (2 * Q) R from ⟨RowAt.later QQ.out.1 b3, h3, RowAt.later QQ.out.2.2.1 b3, QQ.out.2.2.2.trans (b3.mono QQ.out.2.2.2.size)⟩)
      clear h3 b3 QQ
      go_wp2_with fail
      go_region_held3 (fun u => u.cell? ⟨ga, k, none⟩ = some (.int .i64 (bit x k)) ∧ Quad w u ga g3 h x (2 * Q) R)
        (first | exact Quad.held Q3.out k hk9 | exact Quad.held Q3.out.drew k hk9 | exact Quad.held S1 k hk9 | exact Quad.held S2 k hk9 | exact Quad.held S3 k hk9)
        (first | (go_at_call 46; (try go_split_ands); refine (KT.out _ _ _ (by first | exact Q3.out.2.2.1 | exact Q3.out.drew.2.2.1)).mono ?_; rintro e u1 ⟨e1, rfl, t1, b1⟩; have S1 := Quad.later (by assumption) b1) | (go_at_call 37; (try go_split_ands); refine (KB.out k _).mono ?_; rintro e u2 ⟨e2, rfl, t2, b2⟩; have S2 := Quad.later (by assumption) b2; have T1 := RowAt.later t1 b2) | (go_at_call 45; (try go_split_ands); refine (KP.out _ _ _ _ _ T1 t2).mono ?_; rintro e u3 ⟨e3, rfl, t3, b3⟩; have S3 := Quad.later (by assumption) b3))
      have Q4 := Lib.hid (show Quad w u3 ga g3 e3 x (2 * Q) (2 * R + bit x k) from ⟨S3.1, S3.2.1, t3, S3.2.2.2⟩)
      go_split_ands
      clear t1 b1 S1 t2 b2 S2 T1 t3 b3 S3 Q3
      go_wp2_with fail
      refine (KC.out _).mono ?_
      rintro e w5 ⟨g5, rfl, h5, b5⟩
      have Q5 := Lib.hid (Q4.out.later b5)
      clear b5 Q4
      go_wp2_with fail
      refine (KM.out _ _ _ h5).mono ?_
      rintro e w6 ⟨g6, rfl, h6, b6⟩
      have Q6 := Lib.hid (Q5.out.later b6)
      clear h5 b6 Q5
      go_wp2_with fail
      refine (KP.out _ _ _ _ _ Q6.out.2.2.1 h6).mono ?_
      rintro e w7 ⟨g7, rfl, h7, b7⟩
      have Q7 := Lib.hid (Q6.out.later b7)
      have H7 := Lib.hid h7
      clear h6 b7 Q6 h7
      go_wp2_with fail
      refine (KL.out _ _ _ H7.out (by unfold Mid; omega)).mono ?_
      rintro e w8 ⟨rfl, b8⟩
      have Q8 := Lib.hid (Q7.out.later b8)
      have H8 := Lib.hid (show BitsAt w8 g7 (2 * R + bit x k + -c) from RowAt.later H7.out b8)
      clear b8 Q7 H7
      by_cases hge : c ≤ 2 * R + bit x k
      · have hd : decide (2 * R + bit x k + -c < 0) = false := decide_eq_false (by omega)
        have HE1 := Lib.hid (HS.out.1 hge).1
        have HE2 := Lib.hid (show 2 * R + bit x k + -c = R' by have := (HS.out.1 hge).2; omega)
        clear hge
        go_wp2_with fail
        refine (K1.out _).mono ?_
        rintro e w9 ⟨g9, rfl, h9, b9⟩
        have Q9 := Lib.hid (Q8.out.later b9)
        have H9 := Lib.hid (show BitsAt w9 g7 (2 * R + bit x k + -c) from RowAt.later H8.out b9)
        clear b9 Q8 H8
        go_wp2_with fail
        refine (KP.out _ _ _ _ _ Q9.out.2.1 h9).mono ?_
        rintro e w10 ⟨g10, rfl, h10, b10⟩
        have Q10 := Lib.hid (Q9.out.later b10)
        have H10 := Lib.hid (show BitsAt w10 g7 R' by rw [← HE2.out]; exact RowAt.later H9.out b10)
        have HH := Lib.hid (show BitsAt w10 g10 Q' by rw [HE1.out]; exact h10)
        clear h9 b10 h10 Q9 H9
        go_wp2_with fail
        go_roundw
        case rel => exact ⟨k, g10, g7, by omega, by simp, rfl, rfl, by rw [HQ'.out, HR'.out]; exact ⟨Q10.out.1, HH.out, H10.out, Q10.out.2.2.2⟩⟩
        case measure => simp [intOf]
      · have hd : decide (2 * R + bit x k + -c < 0) = true := decide_eq_true (by omega)
        have HE1 := Lib.hid (HS.out.2 (by omega)).1
        have HE2 := Lib.hid (HS.out.2 (by omega)).2
        clear hge
        go_wp2_with fail
        go_roundw
        case rel => exact ⟨k, g3, e3, by omega, by simp, rfl, rfl, by rw [HQ'.out, HR'.out, HE1.out, HE2.out]; exact Q8.out⟩
        case measure => simp [intOf]
end Go.Proofs.Ytinfjfjheimceaa.Bw
