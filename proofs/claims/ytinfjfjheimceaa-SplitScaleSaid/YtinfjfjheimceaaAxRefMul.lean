/- The contracts of the document's integers: products, and what they are held against. -/
import Derived.Test.YtinfjfjheimceaaAxRefNum
namespace Go.Proofs.Ytinfjfjheimceaa.Bw
open Go.RowKit Cm Bz
/-- What Times has added behind k bits. -/
theorem times_bit (x n : Int) (k : Nat) : x * (n % pw (k + 1)) = x * (n % pw k) + bit n k * (x * pw k) := by
  rw [mod_succ, Int.mul_add, Int.add_comm]
  congr 1
  rw [← Int.mul_assoc, ← Int.mul_assoc, Int.mul_comm x (bit n k)]
theorem times_end (x n : Int) (hn : I64 n) : x * (n % pw 64) = if n < 0 then x * n + x * pw 64 else x * n := by
  unfold I64 at hn
  have h : n % pw 64 = if n < 0 then n + pw 64 else n := by
    rw [pw_64]; split <;> omega
  rw [h]
  split
  · rw [Int.mul_add]
  · rfl
theorem pw_twice (x : Int) (k : Nat) : 2 * (x * pw k) = x * pw (k + 1) := by
  rw [pw_succ, ← Int.mul_assoc, ← Int.mul_assoc, Int.mul_comm 2 x]
set_option maxRecDepth 100000 in
set_option maxHeartbeats 800000 in
theorem rtimes_c (x n : Int) (ga : Nat) (w : World) (ha : BitsAt w ga x) (hn : I64 n) : Calls Try.prog 36 #[.slice (some ⟨ga, 0, none⟩) 136 136, .int .i64 n] w (BitsRes (x * n) w) := by
  have HA := Lib.hid ha
  have HN := Lib.hid hn
  have K1 := Lib.hid (rbits_c n w hn)
  have K0 := Lib.hid (fun w => rbits_c 0 w ⟨by omega, by omega⟩)
  have KP := Lib.hid (fun x y ga gb w h1 h2 => rplus_c x y ga gb w h1 h2)
  have KT := Lib.hid (fun x ga w h1 => rtwice_c x ga w h1)
  have KM := Lib.hid (fun x ga w h1 => rminus_c x ga w h1)
  clear ha hn
  go_enter Try.func36, Try.ntmps36
  go_wp2_with fail
  refine K1.out.mono ?_
  rintro e w1 ⟨gn, rfl, hn1, b1⟩
  have HN1 := Lib.hid hn1
  have B1 := Lib.hid b1
  clear hn1 b1 K1
  go_wp2_with fail
  refine (K0.out _).mono ?_
  rintro e w2 ⟨gs, rfl, hs2, b2⟩
  have HS2 := Lib.hid hs2
  have B2 := Lib.hid (show Below w.heap.size w w2 from B1.out.trans (b2.mono B1.out.size))
  have HN2 := Lib.hid (show BitsAt w2 gn n from RowAt.later HN1.out b2)
  have HA2 := Lib.hid (show BitsAt w2 ga x from RowAt.later (RowAt.later HA.out B1.out) b2)
  clear hs2 b2 B1 HN1 HA K0
  go_wp2_with fail
  go_loopw [0, 6, 7] (fun a s i wr => ∃ (k g h : Nat), k ≤ 64 ∧ i = .int .i64 k ∧ a = .slice (some ⟨g, 0, none⟩) 136 136 ∧ s = .slice (some ⟨h, 0, none⟩) 136 136 ∧ BitsAt wr g (x * pw k) ∧ BitsAt wr h (x * (n % pw k)) ∧ BitsAt wr gn n ∧ Below w.heap.size w wr) (fun _ _ i _ => 64 - (intOf i).toNat)
  case atStart => exact ⟨0, ga, gs, by omega, rfl, rfl, rfl, by rw [pw_zero, Int.mul_one]; exact HA2.out, by rw [pw_zero, Int.emod_one, Int.mul_zero]; exact HS2.out, HN2.out, B2.out⟩
  case round =>
    obtain ⟨k, g, h, hk, rfl, rfl, rfl, h1, h2, h3, h4⟩ := hrel
    have R1 := Lib.hid h1
    have R2 := Lib.hid h2
    have R3 := Lib.hid h3
    have B3 := Lib.hid h4
    clear h1 h2 h3 h4 HA2 HS2 HN2 B2
    by_cases hlt : k < 64
    · have hcell := BitsAt.cell R3.out k (by omega)
      have hb := bit_range n k
      have HT := Lib.hid (times_bit x n k)
      by_cases hb1 : bit n k = 1
      · rw [hb1] at hcell
        rw [hb1, Int.one_mul] at HT
        clear hb1 hb
        go_wp2_with fail
        refine (KP.out _ _ _ _ _ R2.out R1.out).mono ?_
        rintro e w3 ⟨h', rfl, p3, b3⟩
        rw [← HT.out] at p3
        have P3 := Lib.hid p3
        have R4 := Lib.hid (show BitsAt w3 g (x * pw k) from RowAt.later R1.out b3)
        have R5 := Lib.hid (show BitsAt w3 gn n from RowAt.later R3.out b3)
        have B4 := Lib.hid (show Below w.heap.size w w3 from B3.out.trans (b3.mono B3.out.size))
        clear p3 b3 R1 R2 R3 B3 hcell
        go_wp2_with fail
        refine (KT.out _ _ _ R4.out).mono ?_
        rintro e w4 ⟨g', rfl, p4, b4⟩
        rw [pw_twice] at p4
        have P4 := Lib.hid p4
        have P5 := Lib.hid (show BitsAt w4 h' (x * (n % pw (k + 1))) from RowAt.later P3.out b4)
        have R6 := Lib.hid (show BitsAt w4 gn n from RowAt.later R5.out b4)
        have B5 := Lib.hid (show Below w.heap.size w w4 from B4.out.trans (b4.mono B4.out.size))
        clear p4 b4 R4 P3 R5 B4
        go_wp2_with fail
        go_roundw
        case rel => exact ⟨k + 1, g', h', by omega, by simp, rfl, rfl, P4.out, P5.out, R6.out, B5.out⟩
        case measure => simp [intOf]; omega
      · have hb0 : bit n k = 0 := by omega
        rw [hb0] at hcell
        rw [hb0, Int.zero_mul, Int.add_zero] at HT
        clear hb1 hb hb0
        go_wp2_with fail
        refine (KT.out _ _ _ R1.out).mono ?_
        rintro e w4 ⟨g', rfl, p4, b4⟩
        rw [pw_twice] at p4
        have P4 := Lib.hid p4
        have P5 := Lib.hid (show BitsAt w4 h (x * (n % pw (k + 1))) by rw [HT.out]; exact RowAt.later R2.out b4)
        have R6 := Lib.hid (show BitsAt w4 gn n from RowAt.later R3.out b4)
        have B5 := Lib.hid (show Below w.heap.size w w4 from B3.out.trans (b4.mono B3.out.size))
        clear p4 b4 R1 R2 R3 B3 hcell
        go_wp2_with fail
        go_roundw
        case rel => exact ⟨k + 1, g', h, by omega, by simp, rfl, rfl, P4.out, P5.out, R6.out, B5.out⟩
        case measure => simp [intOf]; omega
    · obtain rfl : k = 64 := by omega
      have HE := Lib.hid (times_end x n HN.out)
      by_cases hneg : n < 0
      · have HE2 := Lib.hid (show x * (n % pw 64) + -(x * pw 64) = x * n by rw [HE.out, if_pos hneg]; omega)
        go_wp2_with fail
        refine (KM.out _ _ _ R1.out).mono ?_
        rintro e w3 ⟨g', rfl, p3, b3⟩
        have P3 := Lib.hid p3
        have R4 := Lib.hid (show BitsAt w3 h (x * (n % pw 64)) from RowAt.later R2.out b3)
        have B4 := Lib.hid (show Below w.heap.size w w3 from B3.out.trans (b3.mono B3.out.size))
        clear p3 b3 R1 R2 R3 B3
        go_wp2_with fail
        refine (KP.out _ _ _ _ _ R4.out P3.out).mono ?_
        rintro e w4 ⟨h', rfl, p4, b4⟩
        rw [HE2.out] at p4
        have P4 := Lib.hid p4
        have B5 := Lib.hid (show Below w.heap.size w w4 from B4.out.trans (b4.mono B4.out.size))
        clear p4 b4
        go_wp2_with fail
        go_ret
        exact ⟨h', rfl, P4.out, B5.out⟩
      · have HE2 := Lib.hid (show x * (n % pw 64) = x * n by rw [HE.out, if_neg hneg])
        go_wp2_with fail
        go_ret
        exact ⟨h, rfl, by rw [← HE2.out]; exact R2.out, B3.out⟩
theorem mid_add (a b : Int) (ha : I64 a) (hb : I64 b) : Mid (a + b) := by unfold I64 at *; unfold Mid; omega
theorem mid_sub (a b : Int) (ha : I64 a) (hb : I64 b) : Mid (a + -b) := by unfold I64 at *; unfold Mid; omega
theorem mid_mul (a b : Int) (ha : I64 a) (hb : I64 b) : Mid (a * b) := by
  unfold I64 at *
  have ma := Ar.mag_bd a ha.1 ha.2
  have mb := Ar.mag_bd b hb.1 hb.2
  have pd := Ar.prod_bd (Ar.mag a) (Ar.mag b) ma.1 ma.2 mb.1 mb.2
  have E := Ar.sg_mul a b
  unfold Ar.sg at E
  unfold Mid
  split at E <;> omega
end Go.Proofs.Ytinfjfjheimceaa.Bw
