/- The contracts of the document's integers: the number that one is. -/
import Derived.Test.YtinfjfjheimceaaAxRefBits
namespace Go.Proofs.Ytinfjfjheimceaa.Bw
open Go.RowKit Cm Bz
theorem whole_u (z : Int) : z % pw 64 / pw 0 = z % 18446744073709551616 := by rw [pw_zero, pw_64]; omega
theorem back_i (z : Int) (h : Ar.Fits z) : wrap64 (z % 18446744073709551616) = z := by
  unfold Ar.Fits at h
  unfold wrap64; omega
theorem told_yes {z : Int} (h : Ar.Fits z) : Ar.val z = z ∧ Ar.ok z = true := ⟨if_pos h, decide_eq_true h⟩
theorem told_no {z : Int} (h : ¬ Ar.Fits z) : Ar.val z = 0 ∧ Ar.ok z = false := ⟨if_neg h, decide_eq_false h⟩
set_option maxRecDepth 100000 in
set_option maxHeartbeats 800000 in
theorem rnumber_c (z : Int) (ga : Nat) (w : World) (ha : BitsAt w ga z) (hz : Mid z) : Calls Try.prog 38 #[.slice (some ⟨ga, 0, none⟩) 136 136] w (Told z w) := by
  have HA := Lib.hid ha
  have HZ := Lib.hid hz
  have la := ha.lt
  have H64 := Lib.hid (show z % pw 64 / pw 64 = 0 from div_small _ _ (Int.emod_nonneg _ (by decide)) (Int.emod_lt_of_pos _ (by decide)))
  clear ha hz
  go_enter Try.func38, Try.ntmps38
  go_wp2_with fail
  go_loop [4, 5] (fun u i => ∃ k : Nat, k ≤ 64 ∧ i = .int .i64 ((k : Int) - 1) ∧ u = .int .u64 (z % pw 64 / pw k)) (fun _ i => (intOf i + 1).toNat)
  case atStart => exact ⟨64, by omega, rfl, by rw [H64.out]⟩
  case round =>
    obtain ⟨k, hk, rfl, rfl⟩ := hrel
    rcases Nat.eq_zero_or_pos k with rfl | hk0
    · have HU := Lib.hid (whole_u z)
      have hu0 : 0 ≤ z % pw 64 / pw 0 := (uRange z 0).1
      have hu1 : z % pw 64 / pw 0 < 18446744073709551616 := (uRange z 0).2
      have HW := Lib.hid (back_i z)
      rw [← HU.out] at HW
      generalize z % pw 64 / pw 0 = U at *
      go_wp2_with fail
      go_loopw [6] (fun i wr => ∃ k : Nat, 63 ≤ k ∧ k ≤ 136 ∧ i = .int .i64 k ∧ (∀ j, 63 ≤ j → j < k → bit z j = bit z 63) ∧ Below w.heap.size w wr) (fun i _ => 136 - (intOf i).toNat)
      case atStart => exact ⟨63, by omega, by omega, rfl, fun j _ _ => absurd ‹j < 63› (by omega), Below.refl _ _⟩
      case round =>
        obtain ⟨k, hk1, hk2, rfl, hs0, hB0⟩ := hrel
        have HS := Lib.hid hs0
        have HB := Lib.hid hB0
        clear hs0 hB0
        by_cases hlt : k < 136
        · have ca := BitsAt.cell (HA.out.under HB.out la) k hlt
          have cb := BitsAt.cell (HA.out.under HB.out la) 63 (by omega)
          obtain ⟨b0, b1⟩ := bit_range z k
          obtain ⟨b2, b3⟩ := bit_range z 63
          have q0 : (0 : Int) ≤ (k : Int) := by omega
          have q1 : (k : Int) < 136 := by omega
          by_cases he : bit z k = bit z 63
          · have HE := Lib.hid he
            rw [he] at ca
            clear he b0 b1
            go_wp2_with fail
            go_quiet (fail)
            go_wp2_with fail
            exact ⟨⟨k + 1, by omega, by omega, by simp, fun j h1 h2 => by
              rcases Nat.lt_or_eq_of_le (Nat.le_of_lt_succ h2) with h | rfl
              · exact HS.out j h1 h
              · exact HE.out, ⟨HB.out.os, HB.out.tape, HB.out.output, HB.out.size, HB.out.block⟩⟩, by simp [intOf]; omega⟩
          · have HE := Lib.hid (told_no (z := z) (fun h => he (of_fits z h k hk1)))
            have hne : (bit z k == bit z 63) = false := beq_eq_false_iff_ne.2 he
            have hne2 : (bit z k != bit z 63) = true := by rw [bne, hne]; rfl
            clear he
            go_wp2_with fail
            go_quiet (fail)
            go_wp2_with fail
            go_ret2
            exact ⟨by rw [HE.out.1, HE.out.2]; rfl, ⟨HB.out.os, HB.out.tape, HB.out.output, HB.out.size, HB.out.block⟩⟩
        · have HF := Lib.hid (fits_of z HZ.out (fun i h1 h2 => HS.out i h1 (by omega)))
          have HE := Lib.hid (told_yes HF.out)
          have HW2 := Lib.hid (HW.out HF.out)
          go_wp2_with fail
          go_ret2
          exact ⟨by rw [HE.out.1, HE.out.2]; exact ret_ib HW2.out rfl, HB.out⟩
    · obtain ⟨k, rfl⟩ : ∃ j, k = j + 1 := ⟨k - 1, by omega⟩
      have ca := HA.out.cell k (by omega)
      obtain ⟨b0, b1⟩ := bit_range z k
      have HT := Lib.hid (from_top z k (by omega))
      obtain ⟨u0, u1⟩ := uRange z (k + 1)
      obtain ⟨u2, u3⟩ := uRange z k
      rw [HT.out] at u2 u3
      generalize z % pw 64 / pw (k + 1) = U at *
      go_wp2_with fail
      exact ⟨⟨k, by omega, by simp, by rw [HT.out]⟩, by simp [intOf]⟩
end Go.Proofs.Ytinfjfjheimceaa.Bw
