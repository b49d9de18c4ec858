/- Packages order and quittanceref12: which kinds are valid. -/
import Derived.Test.YtialjglgkfcdmaaRows
import Derived.Test.YtialjglgkfcdmaaOrMath
import Derived.WalkKit
import Derived.WalkSpells
import Derived.WalkLawsBesides
import Derived.Lib.Hide
import Derived.BigQuiet
import Derived.Deep.QuietTactic
import Derived.IntWalk
namespace Go.Proofs.Ytialjglgkfcdmaa.Or
open Go.RowKit
theorem byte_at (s : ByteArray) (k : Nat) (h : k < s.size) : s.data.toList[k]'(by simpa using h) = s[k] := by simp; rfl
set_option maxRecDepth 100000 in
set_option maxHeartbeats 800000 in
theorem kinds_c (s : ByteArray) (w : World) (hs : s.size ≤ 9223372036854775807) : Calls Try.prog 31 #[.string s] w fun e w' => e = .returned (.bool (kindsB s.data.toList)) ∧ w = w' := by
  by_cases h16 : 16 < s.size
  · have HR := Lib.hid (kinds_long (l := s.data.toList) (by simpa using h16))
    have q : (16 : Int) < (s.size : Int) := by omega
    go_enter Try.func31, Try.ntmps31
    go_wp2_with fail
    go_ret
    exact ⟨by rw [HR.out]; rfl, rfl⟩
  · have q : (s.size : Int) ≤ 16 := by omega
    go_enter Try.func31, Try.ntmps31
    go_wp2_with fail
    go_loop [3, 9] (fun _ i => ∃ k : Nat, k ≤ s.size ∧ i = .int .i64 k ∧ ∀ j (hj : j < s.data.toList.length), j < k → okB s.data.toList[j] = true) (fun _ i => s.size - (intOf i).toNat)
    case atStart => exact ⟨0, by omega, rfl, fun j _ h => by omega⟩
    case round =>
      obtain ⟨k, hk, rfl, hall⟩ := hrel
      have HALL := Lib.hid hall
      clear hall
      by_cases hlt : k < s.size
      · have q0 : (0 : Int) ≤ (k : Int) := by omega
        have q1 : (k : Int) < (s.size : Int) := by omega
        have HB := Lib.hid (byte_at s k hlt)
        have hlt' : k < s.data.toList.length := by simpa using hlt
        rcases okB_cases s[k] with ⟨ho, hc⟩ | ⟨ho, c1, c2, c3⟩
        · have HN := Lib.hid (show ∀ j (hj : j < s.data.toList.length), j < k + 1 → okB s.data.toList[j] = true by
            intro j hj h
            by_cases h' : j = k
            · subst h'; rw [HB.out]; exact ho
            · exact HALL.out j hj (by omega))
          clear ho
          rcases hc with hc | hc | hc
          · have d1 : ((s[k].toNat : Int) == 110) = true := beq_iff_eq.2 (by omega)
            clear hc
            go_wp2_with fail
            exact ⟨⟨k + 1, by omega, by simp, HN.out⟩, by simp [intOf]; omega⟩
          · have d1 : ((s[k].toNat : Int) == 110) = false := beq_eq_false_iff_ne.2 (by omega)
            have d2 : ((s[k].toNat : Int) == 105) = true := beq_iff_eq.2 (by omega)
            clear hc
            go_wp2_with fail
            exact ⟨⟨k + 1, by omega, by simp, HN.out⟩, by simp [intOf]; omega⟩
          · have d1 : ((s[k].toNat : Int) == 110) = false := beq_eq_false_iff_ne.2 (by omega)
            have d2 : ((s[k].toNat : Int) == 105) = false := beq_eq_false_iff_ne.2 (by omega)
            have d3 : ((s[k].toNat : Int) == 115) = true := beq_iff_eq.2 (by omega)
            clear hc
            go_wp2_with fail
            exact ⟨⟨k + 1, by omega, by simp, HN.out⟩, by simp [intOf]; omega⟩
        · have HR := Lib.hid (kinds_no (l := s.data.toList) k hlt' (by rw [HB.out]; exact ho))
          have d1 : ((s[k].toNat : Int) == 110) = false := beq_eq_false_iff_ne.2 (by omega)
          have d2 : ((s[k].toNat : Int) == 105) = false := beq_eq_false_iff_ne.2 (by omega)
          have d3 : ((s[k].toNat : Int) == 115) = false := beq_eq_false_iff_ne.2 (by omega)
          clear ho c1 c2 c3
          go_wp2_with fail
          go_ret
          exact ⟨by rw [HR.out]; rfl, rfl⟩
      · have HR := Lib.hid (kinds_all (l := s.data.toList) (fun j hj => HALL.out j hj (by simp at hj; omega)))
        have HD := Lib.hid (show decide (s.data.toList.length ≤ 16) = true by simp; omega)
        have q1 : ¬ (k : Int) < (s.size : Int) := by omega
        go_wp2_with fail
        go_ret
        exact ⟨by rw [HR.out, HD.out]; rfl, rfl⟩
set_option maxRecDepth 100000 in
set_option maxHeartbeats 800000 in
theorem rkinds_c (s : ByteArray) (w : World) (hs : s.size ≤ 9223372036854775807) : Calls Try.prog 36 #[.string s] w fun e w' => e = .returned (.bool (kindsB s.data.toList)) ∧ w = w' := by
  go_enter Try.func36, Try.ntmps36
  go_wp2_with fail
  go_loop [3] (fun i => ∃ k : Nat, k ≤ s.size ∧ i = .int .i64 k ∧ ∀ j (hj : j < s.data.toList.length), j < k → okB s.data.toList[j] = true) (fun i => s.size - (intOf i).toNat)
  case atStart => exact ⟨0, by omega, rfl, fun j _ h => by omega⟩
  case round =>
    obtain ⟨k, hk, rfl, hall⟩ := hrel
    have HALL := Lib.hid hall
    clear hall
    by_cases hlt : k < s.size
    · have q0 : (0 : Int) ≤ (k : Int) := by omega
      have q1 : (k : Int) < (s.size : Int) := by omega
      have HB := Lib.hid (byte_at s k hlt)
      have hlt' : k < s.data.toList.length := by simpa using hlt
      rcases okB_cases s[k] with ⟨ho, hc⟩ | ⟨ho, c1, c2, c3⟩
      · have HN := Lib.hid (show ∀ j (hj : j < s.data.toList.length), j < k + 1 → okB s.data.toList[j] = true by
          intro j hj h
          by_cases h' : j = k
          · subst h'; rw [HB.out]; exact ho
          · exact HALL.out j hj (by omega))
        clear ho
        rcases hc with hc | hc | hc
        · have d1 : ((s[k].toNat : Int) != 110) = false := by simp; omega
          clear hc
          go_wp2_with fail
          exact ⟨⟨k + 1, by omega, by simp, HN.out⟩, by simp [intOf]; omega⟩
        · have d1 : ((s[k].toNat : Int) != 110) = true := by rw [bne_iff_ne]; omega
          have d2 : ((s[k].toNat : Int) != 105) = false := by simp; omega
          clear hc
          go_wp2_with fail
          exact ⟨⟨k + 1, by omega, by simp, HN.out⟩, by simp [intOf]; omega⟩
        · have d1 : ((s[k].toNat : Int) != 110) = true := by rw [bne_iff_ne]; omega
          have d2 : ((s[k].toNat : Int) != 105) = true := by rw [bne_iff_ne]; omega
          have d3 : ((s[k].toNat : Int) != 115) = false := by simp; omega
          clear hc
          go_wp2_with fail
          exact ⟨⟨k + 1, by omega, by simp, HN.out⟩, by simp [intOf]; omega⟩
      · have HR := Lib.hid (kinds_no (l := s.data.toList) k hlt' (by rw [HB.out]; exact ho))
        have d1 : ((s[k].toNat : Int) != 110) = true := by rw [bne_iff_ne]; omega
        have d2 : ((s[k].toNat : Int) != 105) = true := by rw [bne_iff_ne]; omega
        have d3 : ((s[k].toNat : Int) != 115) = true := by rw [bne_iff_ne]; omega
        clear ho c1 c2 c3
        go_wp2_with fail
        go_ret
        exact ⟨by rw [HR.out]; rfl, rfl⟩
    · have HR := Lib.hid (kinds_all (l := s.data.toList) (fun j hj => HALL.out j hj (by simp at hj; omega)))
      have q1 : ¬ (k : Int) < (s.size : Int) := by omega
      by_cases h16 : s.size ≤ 16
      · have HD := Lib.hid (show decide (s.data.toList.length ≤ 16) = true by simp; omega)
        have q2 : (s.size : Int) ≤ 16 := by omega
        go_wp2_with fail
        go_ret
        exact ⟨by rw [HR.out, HD.out]; first | rfl | (simp; omega), rfl⟩
      · have HD := Lib.hid (show decide (s.data.toList.length ≤ 16) = false by simp; omega)
        have q2 : ¬ (s.size : Int) ≤ 16 := by omega
        go_wp2_with fail
        go_ret
        exact ⟨by rw [HR.out, HD.out]; first | rfl | (simp; omega), rfl⟩
end Go.Proofs.Ytialjglgkfcdmaa.Or
