/- The contracts of the document's own answers for tally: integers, texts, rows that are taken. -/
import Derived.Test.YtialjglgkfcdmaaTcRef2
import Derived.Test.YtialjglgkfcdmaaTcMath5
namespace Go.Proofs.Ytialjglgkfcdmaa.Tal
open Go.RowKit Cm
set_option maxRecDepth 100000 in
set_option maxHeartbeats 800000 in
theorem refTakeInt_c (s : ByteArray) (w : World) (hs : s.size ≤ 4611686018427387904) :
    Calls Try.prog 41 #[.string s] w (IntRes (Ta.take 0 s.data.toList) w) := by
  cases hT : Ta.take 0 s.data.toList with
  | none =>
    have K := Lib.hid (hT ▸ refTakeNum_c s w hs)
    clear hT hs
    go_enter Try.func41, Try.ntmps41
    go_wp2_with fail
    refine K.out.mono ?_
    rintro e w1 ⟨rfl, b1⟩
    go_wp2_with fail
    go_ret3
    exact ⟨rfl, b1⟩
  | some x =>
    obtain ⟨n, r⟩ := x
    have hn := (Ta.take_bound _ _ _ _ hT).1
    have K := Lib.hid (hT ▸ refTakeNum_c s w hs)
    by_cases hp : n % 2 = 0
    · have a2 : ((n : Int) % 2 == 0) = true := beq_iff_eq.2 (by omega)
      have HU := Lib.hid (show unz n = (n / 2 : Nat) by unfold unz; rw [if_pos hp])
      clear hT hs hp
      go_enter Try.func41, Try.ntmps41
      go_wp2_with fail
      refine K.out.mono ?_
      rintro e w1 ⟨rfl, b1⟩
      go_wp2_with fail
      go_ret3
      exact ⟨ret_isb (by show _ = unz n; rw [HU.out]; omega) rfl rfl, b1⟩
    · have a2 : ((n : Int) % 2 == 0) = false := beq_eq_false_iff_ne.2 (by omega)
      have HU := Lib.hid (show unz n = -((n / 2 : Nat) : Int) - 1 by unfold unz; rw [if_neg hp])
      clear hT hs hp
      go_enter Try.func41, Try.ntmps41
      go_wp2_with fail
      refine K.out.mono ?_
      rintro e w1 ⟨rfl, b1⟩
      go_wp2_with fail
      go_ret3
      exact ⟨ret_isb (by show _ = unz n; rw [HU.out]; omega) rfl rfl, b1⟩
set_option maxRecDepth 100000 in
set_option maxHeartbeats 800000 in
theorem refTakeText_c (s : ByteArray) (w : World) (hs : s.size ≤ 4611686018427387904) :
    Calls Try.prog 42 #[.string s] w (TextRes (Ta.takeText s.data.toList) w) := by
  cases hT : Ta.take 0 s.data.toList with
  | none =>
    have HX := Lib.hid (show Ta.takeText s.data.toList = none by unfold Ta.takeText; rw [hT])
    have K := Lib.hid (hT ▸ refTakeNum_c s w hs)
    clear hT hs
    go_enter Try.func42, Try.ntmps42
    go_wp2_with fail
    refine K.out.mono ?_
    rintro e w1 ⟨rfl, b1⟩
    go_wp2_with fail
    go_loop [8] (fun k => k = .int .i64 0) (fun _ => 0)
    case atStart => rfl
    case round =>
      obtain rfl := hrel
      go_wp2_with fail
      go_ret3
      rw [HX.out]
      exact ⟨rfl, b1⟩
  | some x =>
    obtain ⟨n, r⟩ := x
    have hn := Ta.take_bound _ _ _ _ hT
    have hrl : r.length ≤ 4611686018427387904 := by
      have : s.data.toList.length = s.size := by simp
      omega
    have hn1 := hn.1
    have K := Lib.hid (hT ▸ refTakeNum_c s w hs)
    have HX := Lib.hid (show Ta.takeText s.data.toList = if n ≤ r.length then some (r.take n, r.drop n) else none by unfold Ta.takeText; rw [hT])
    clear hT hs hn
    go_enter Try.func42, Try.ntmps42
    go_wp2_with fail
    refine K.out.mono ?_
    rintro e w1 ⟨rfl, b1⟩
    go_wp2_with fail
    go_loop [8] (fun k => ∃ j : Nat, j ≤ r.length + 1 ∧ j ≤ n ∧ k = .int .i64 j) (fun k => r.length + 1 - (intOf k).toNat)
    case atStart => exact ⟨0, by omega, by omega, rfl⟩
    case round =>
      obtain ⟨j, hj, hjn, rfl⟩ := hrel
      by_cases hlt : j ≤ r.length
      · by_cases he : j = n
        · subst he
          have HY := Lib.hid (show Ta.takeText s.data.toList = some (r.take j, r.drop j) by rw [HX.out, if_pos hlt])
          have q0 : (0 : Int) ≤ (j : Int) := by omega
          have q1 : (j : Int) ≤ (r.length : Int) := by omega
          go_wp2_with fail
          go_quiet (fail)
          go_wp2_with fail
          go_ret3
          rw [HY.out]
          exact ⟨ret_ssb (ext_mk_take _ _) (ext_mk_drop _ _) rfl, ⟨b1.os, b1.tape, b1.output, b1.size, b1.block⟩⟩
        · have hne : ((j : Int) == (n : Int)) = false := beq_eq_false_iff_ne.2 (by omega)
          have HE := Lib.hid (show j + 1 ≤ n by omega)
          clear he
          go_wp2_with fail
          go_round
          case rel => exact ⟨j + 1, by omega, HE.out, by go_num⟩
          case measure => simp [intOf]; omega
      · have HY := Lib.hid (show Ta.takeText s.data.toList = none by rw [HX.out, if_neg (by omega)])
        go_wp2_with fail
        go_ret3
        rw [HY.out]
        exact ⟨rfl, b1⟩
end Go.Proofs.Ytialjglgkfcdmaa.Tal
