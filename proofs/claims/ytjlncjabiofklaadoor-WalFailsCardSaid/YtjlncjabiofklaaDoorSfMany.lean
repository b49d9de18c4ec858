/- Package sheaf: how many leaves a text takes. -/
import Derived.Test.YtjlncjabiofklaaDoorRows
import Derived.Test.YtjlncjabiofklaaDoorRgA
import Derived.WalkKit
import Derived.WalkSpells
import Derived.WalkLawsBesides
import Derived.Lib.Hide
import Derived.Lib.EndianBits
import Derived.Lib.VarintBits
import Derived.Laws.BitsAllLaws
import Derived.IntWalk
namespace Go.Proofs.YtjlncjabiofklaaDoor.Shf
open Go.RowKit
set_option maxRecDepth 100000 in
set_option maxHeartbeats 1600000 in
theorem long_c (n : Nat) (w : World) (hn : n < 18446744073709551616) : Calls Tryd.prog 70 #[.int .u64 n] w fun e w' => e = .returned (.int .i64 (Ta.num n).length) ∧ w = w' := by
  have hlen := Ta.num_len n hn
  have h0 : (Ta.up (n / 128)).length + 1 = (Ta.num n).length := by unfold Ta.num; simp
  have H0 := Lib.hid h0
  clear h0
  go_enter Tryd.func70, Tryd.ntmps70
  go_wp2
  go_loopw [0, 3] (fun a b wr => ∃ m k : Nat, a = .int .u64 m ∧ b = .int .i64 k ∧ (Ta.up m).length + k = (Ta.num n).length ∧ m < 18446744073709551616 ∧ wr = w) (fun a _ _ => (intOf a).toNat)
  case atStart => exact ⟨n / 128, 1, by simp, rfl, H0.out, by omega, rfl⟩
  case round =>
    obtain ⟨m, k, rfl, rfl, hk, hm, rfl⟩ := hrel
    have HK := Lib.hid hk
    have hk10 : k ≤ 10 := by omega
    clear hk
    by_cases hm0 : 0 < m
    · obtain ⟨m', rfl⟩ : ∃ m', m = m' + 1 := ⟨m - 1, by omega⟩
      have HU := Lib.hid (show (Ta.up (m' + 1)).length = (Ta.up (m' / 128)).length + 1 by rw [Ta.up_pos (by omega)]; simp)
      clear hm0
      go_wp2
      exact ⟨⟨m' / 128, k + 1, by simp, by simp, by have := HK.out; have := HU.out; omega, by omega, by first | trivial | rfl⟩, by simp [intOf]; omega⟩
    · obtain rfl : m = 0 := by omega
      go_wp2
      go_ret
      have := HK.out
      rw [Ta.up_zero] at this
      simp at this
      exact ⟨by rw [this]; rfl, rfl⟩
set_option maxRecDepth 100000 in
set_option maxHeartbeats 1600000 in
theorem many_c (n : Int) (w : World) (h1 : -9223372036854775808 ≤ n) (h2 : n ≤ 9223372036854775807) : Calls Tryd.prog 60 #[.int .i64 n] w fun e w' => e = .returned (.int .i64 (Sf.many n.toNat)) ∧ w = w' := by
  have KL := Lib.hid (fun w => long_c n.toNat w (by omega))
  have hlen := (Ta.num_len n.toNat (by omega)).1
  have HM := Lib.hid (Sf.many_is n.toNat)
  obtain ⟨q, hq⟩ : ∃ q, (Ta.num n.toNat).length = q := ⟨_, rfl⟩
  rw [hq] at hlen
  by_cases h0 : n < 0
  · obtain ⟨z, hz⟩ : ∃ z : Nat, n.toNat = z := ⟨_, rfl⟩
    obtain rfl : z = 0 := by omega
    rw [hz] at hq HM KL ⊢
    rw [hq] at HM KL
    go_enter Tryd.func60, Tryd.ntmps60
    go_wp2_with fail
    refine (KL.out _).mono ?_
    rintro e w' ⟨rfl, rfl⟩
    go_wp2_with fail
    go_ret
    have e : ((q : Int) + 48 - 1) / 48 = (Sf.many 0 : Nat) := by have := HM.out; omega
    exact ⟨by rw [← e]; rfl, rfl⟩
  · obtain ⟨m, rfl⟩ : ∃ m : Nat, n = m := ⟨n.toNat, by omega⟩
    rw [Int.toNat_natCast] at hq HM KL ⊢
    rw [hq] at HM KL
    go_enter Tryd.func60, Tryd.ntmps60
    go_wp2_with fail
    refine (KL.out _).mono ?_
    rintro e w' ⟨rfl, rfl⟩
    go_wp2_with fail
    go_ret
    have e : (m : Int) / 48 + ((m : Int) % 48 + q + 48 - 1) / 48 = (Sf.many m : Nat) := by have := HM.out; omega
    exact ⟨by rw [← e]; rfl, rfl⟩
end Go.Proofs.YtjlncjabiofklaaDoor.Shf
