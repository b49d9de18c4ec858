/- Package quittanceref04: how many leaves a text takes. -/
import Derived.Test.YtbbnpcldplmgfaaGreatDoorRgC
import Derived.Test.YtbbnpcldplmgfaaGreatDoorRgA
import Derived.IntWalk
namespace Go.Proofs.YtbbnpcldplmgfaaGreatDoor.Shf
open Go.RowKit Tal
set_option maxRecDepth 100000 in
set_option maxHeartbeats 1600000 in
theorem rmany_c (n : Int) (w : World) (h2 : n ≤ 9223372036854) : Calls Tryz.prog 49 #[.int .i64 n] w fun e w' => e = .returned (.int .i64 (Sf.many n.toNat)) ∧ Below w.heap.size w w' := by
  have KL := Lib.hid (fun w => refNum_c n.toNat w (by omega))
  have hlen := Ta.num_len n.toNat (by omega)
  have HM := Lib.hid (Sf.many_least n.toNat)
  obtain ⟨q, hq⟩ : ∃ q, (Ta.num n.toNat).length = q := ⟨_, rfl⟩
  rw [hq] at hlen HM
  by_cases h0 : n < 0
  · obtain ⟨z, hz⟩ : ∃ z : Nat, n.toNat = z := ⟨_, rfl⟩
    obtain rfl : z = 0 := by omega
    rw [hz] at hq HM KL ⊢
    go_enter Tryz.func49, Tryz.ntmps49
    go_wp2_with fail
    go_loopw [3] (fun a wr => ∃ k : Nat, a = .int .i64 k ∧ (∀ j, j < k → 48 * j < q + 0) ∧ k ≤ q + 0 ∧ Below w.heap.size w wr) (fun a _ => q + 0 - (intOf a).toNat)
    case atStart => exact ⟨0, rfl, by omega, by omega, Below.refl _ _⟩
    case round =>
      obtain ⟨k, rfl, hk, hk2, hB⟩ := hrel
      have HK := Lib.hid hk
      have HB := Lib.hid hB
      clear hk hB
      go_wp2_with fail
      refine (KL.out _).mono ?_
      rintro e w2 ⟨rfl, b2⟩
      have hsz : (⟨(Ta.num 0).toArray⟩ : ByteArray).size = q := by rw [← hq]; rfl
      have B2 := Lib.hid (HB.out.trans (b2.mono HB.out.size))
      clear b2
      by_cases hlt : 48 * k < q + 0
      · go_wp2_with fail
        exact ⟨⟨k + 1, by simp, fun j hj => by rcases (show j < k ∨ j = k by omega) with h | rfl; exact HK.out j h; exact hlt, by omega, B2.out⟩, by simp [intOf]; omega⟩
      · go_wp2_with fail
        go_ret
        have e := HM.out k (by omega) (fun j hj => HK.out j hj)
        exact ⟨by rw [← e]; rfl, B2.out⟩
  · obtain ⟨m, rfl⟩ : ∃ m : Nat, n = m := ⟨n.toNat, by omega⟩
    rw [Int.toNat_natCast] at hq HM KL ⊢
    go_enter Tryz.func49, Tryz.ntmps49
    go_wp2_with fail
    go_loopw [3] (fun a wr => ∃ k : Nat, a = .int .i64 k ∧ (∀ j, j < k → 48 * j < q + m) ∧ k ≤ q + m ∧ Below w.heap.size w wr) (fun a _ => q + m - (intOf a).toNat)
    case atStart => exact ⟨0, rfl, by omega, by omega, Below.refl _ _⟩
    case round =>
      obtain ⟨k, rfl, hk, hk2, hB⟩ := hrel
      have HK := Lib.hid hk
      have HB := Lib.hid hB
      clear hk hB
      go_wp2_with fail
      refine (KL.out _).mono ?_
      rintro e w2 ⟨rfl, b2⟩
      have hsz : (⟨(Ta.num m).toArray⟩ : ByteArray).size = q := by rw [← hq]; rfl
      have B2 := Lib.hid (HB.out.trans (b2.mono HB.out.size))
      clear b2
      by_cases hlt : 48 * k < q + m
      · go_wp2_with fail
        exact ⟨⟨k + 1, by simp, fun j hj => by rcases (show j < k ∨ j = k by omega) with h | rfl; exact HK.out j h; exact hlt, by omega, B2.out⟩, by simp [intOf]; omega⟩
      · go_wp2_with fail
        go_ret
        have e := HM.out k (by omega) (fun j hj => HK.out j hj)
        exact ⟨by rw [← e]; rfl, B2.out⟩
end Go.Proofs.YtbbnpcldplmgfaaGreatDoor.Shf
