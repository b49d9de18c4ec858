/- Package order: the laws of Get and Above. -/
import Derived.Test.YtoicnpekbpphjaaOrHead2
import Derived.Laws.Cover1
namespace Go.Proofs.Ytoicnpekbpphjaa.Or
open Go.RowKit
set_option maxRecDepth 100000 in
set_option maxHeartbeats 1600000 in
theorem gets_law (K F : ByteArray) (w : World) (hK : K.size ≤ maxLen) (hF : F.size ≤ maxLen) : Calls Try.prog 4 #[.string K, .string F] w fun e w' => e = .returned (.bool true) ∧ Below w.heap.size w w' := by
  have KH := Lib.hid head_c
  unfold maxLen at hK hF
  by_cases h1 : 40 < K.size
  · have q : (40 : Int) < (K.size : Int) := by omega
    clear h1
    go_enter Try.func4, Try.ntmps4
    go_wp2_with fail
    refine (KH.out _).mono ?_
    rintro e w1 ⟨rfl, b1⟩
    go_wp2_with fail
    go_ret
    exact ⟨rfl, b1⟩
  · by_cases h2 : 1100 < F.size
    · have q : ¬ (40 : Int) < (K.size : Int) := by omega
      have q2 : (1100 : Int) < (F.size : Int) := by omega
      clear h1 h2
      go_enter Try.func4, Try.ntmps4
      go_wp2_with fail
      refine (KH.out _).mono ?_
      rintro e w1 ⟨rfl, b1⟩
      go_wp2_with fail
      go_ret
      exact ⟨rfl, b1⟩
    · have q : ¬ (40 : Int) < (K.size : Int) := by omega
      have q2 : ¬ (1100 : Int) < (F.size : Int) := by omega
      obtain ⟨L, z, hg, hl⟩ : ∃ L z, getF K.data.toList F.data.toList = (L, z) ∧ L.length ≤ 1000 := by
        rcases get_cases K.data.toList F.data.toList with ⟨L, h, hp, ho⟩ | ⟨z, h, _⟩
        · exact ⟨L, 0, h, by have := (get_fine hp ho).2; omega⟩
        · exact ⟨[], z, h, by simp⟩
      have K1 := Lib.hid (fun w => pget_c K F w (by omega) (by omega))
      have K2 := Lib.hid (fun w => rget_c K F w (by omega) (by omega))
      unfold GetRes at K1 K2
      rw [hg] at K1 K2
      have KS := Lib.hid (fun w a b ca cb h k => same_c w a b ca cb L L h k (by omega) (by omega))
      rw [decide_eq_true rfl] at KS
      clear h1 h2 hg hK hF hl
      go_enter Try.func4, Try.ntmps4
      go_wp2_with fail
      refine (K1.out _).mono ?_
      rintro e w1 ⟨a1, c1, rfl, f1, b1⟩
      have F1 := Lib.hid f1
      have B1 := Lib.hid b1
      clear f1 b1
      go_wp2_with fail
      refine (K2.out _).mono ?_
      rintro e w2 ⟨a2, c2, rfl, f2, b2⟩
      have F1' := Lib.hid (F1.out.later b2)
      have F2 := Lib.hid f2
      have B2 := Lib.hid (then_below B1.out b2)
      clear f2 b2
      go_wp2_with fail
      refine (KS.out _ _ _ _ _ F1'.out F2.out).mono ?_
      rintro e w3 ⟨rfl, b3⟩
      have B3 := Lib.hid (then_below B2.out b3)
      clear b3
      go_wp2_with fail
      refine (KH.out _).mono ?_
      rintro e w4 ⟨rfl, b4⟩
      have B4 := Lib.hid (then_below B3.out b4)
      clear b4
      go_wp2_with fail
      go_ret
      exact ⟨rfl, B4.out⟩
theorem above_s (s : ByteArray) (w : World) (hs : s.size ≤ 1000) : Calls Try.prog 22 #[.string s] w (AbRes s.data.toList w) := by
  have h := above_c s.data.toList w (by simp; omega)
  rwa [mk_data] at h
theorem rabove_s (s : ByteArray) (w : World) (hs : s.size ≤ 1000) : Calls Try.prog 23 #[.string s] w (AbRes s.data.toList w) := by
  have h := rabove_c s.data.toList w (by simp; omega)
  rwa [mk_data] at h
theorem beg_zero {s t : ByteArray} (h : Ab s.data.toList 0) : begB t s = !Op.bytesLess t.toList s.toList := by
  rw [less_iff, Bool.eq_iff_iff, begB_iff, above_zero h]
  simp
theorem beg_pos {s t : ByteArray} {k : Nat} (h : Ab s.data.toList k) (h0 : 0 < k) {U : ByteArray} (hU : U.data.toList = upTo s.data.toList k) : begB t s = (!Op.bytesLess t.toList s.toList && Op.bytesLess t.toList U.toList) := by
  rw [less_iff, less_iff, Bool.eq_iff_iff, begB_iff, above_pos h h0, hU]
  simp
set_option maxRecDepth 100000 in
set_option maxHeartbeats 1600000 in
theorem above_law (s t : ByteArray) (w : World) (hs : s.size ≤ maxLen) (ht : t.size ≤ maxLen) : Calls Try.prog 7 #[.string s, .string t] w fun e w' => e = .returned (.bool true) ∧ Below w.heap.size w w' := by
  have KH := Lib.hid head_c
  unfold maxLen at hs ht
  by_cases h1 : 300 < s.size
  · have q : (300 : Int) < (s.size : Int) := by omega
    clear h1
    go_enter Try.func7, Try.ntmps7
    go_wp2_with fail
    refine (KH.out _).mono ?_
    rintro e w1 ⟨rfl, b1⟩
    go_wp2_with fail
    go_ret
    exact ⟨rfl, b1⟩
  · by_cases h2 : 300 < t.size
    · have q : ¬ (300 : Int) < (s.size : Int) := by omega
      have q2 : (300 : Int) < (t.size : Int) := by omega
      clear h1 h2
      go_enter Try.func7, Try.ntmps7
      go_wp2_with fail
      refine (KH.out _).mono ?_
      rintro e w1 ⟨rfl, b1⟩
      go_wp2_with fail
      go_ret
      exact ⟨rfl, b1⟩
    · have q : ¬ (300 : Int) < (s.size : Int) := by omega
      have q2 : ¬ (300 : Int) < (t.size : Int) := by omega
      have K1 := Lib.hid (fun w => above_s s w (by omega))
      have K2 := Lib.hid (fun w => rabove_s s w (by omega))
      have KB := Lib.hid (fun w => begins_c t s w)
      clear h1 h2 hs ht
      go_enter Try.func7, Try.ntmps7
      go_wp2_with fail
      refine (K1.out _).mono ?_
      rintro e w1 ⟨k, hk, h0, h1, b1⟩
      have B1 := Lib.hid b1
      clear b1
      rcases Nat.eq_zero_or_pos k with rfl | hk0
      · obtain rfl := h0 rfl
        clear h0 h1
        go_wp2_with fail
        refine (K2.out _).mono ?_
        rintro e w2 ⟨m, hm, g0, g1, b2⟩
        have B2 := Lib.hid (then_below B1.out b2)
        obtain rfl := ab_one hk hm
        obtain rfl := g0 rfl
        have hbz := beg_zero (t := t) hk
        clear g0 g1 b2 hm hk
        go_wp2_with fail
        refine (KB.out _).mono ?_
        rintro e w3 ⟨rfl, rfl⟩
        rw [hbz]
        clear hbz KB
        cases hx : Op.bytesLess t.toList s.toList
        all_goals go_wp2_with fail
        all_goals refine (KH.out _).mono ?_
        all_goals rintro e w4 ⟨rfl, b4⟩
        all_goals have B4 := Lib.hid (then_below B2.out b4)
        all_goals clear b4
        all_goals go_wp2_with fail
        all_goals go_ret
        all_goals exact ⟨rfl, B4.out⟩
      · obtain rfl := h1 hk0
        obtain ⟨U, hU⟩ : ∃ U : ByteArray, (⟨(upTo s.data.toList k).toArray⟩ : ByteArray) = U := ⟨_, rfl⟩
        have hUd : U.data.toList = upTo s.data.toList k := by rw [← hU]
        rw [hU]
        have z1 : (U.toList == U.toList) = true := by simp
        clear h0 h1
        go_wp2_with fail
        refine (K2.out _).mono ?_
        rintro e w2 ⟨m, hm, g0, g1, b2⟩
        have B2 := Lib.hid (then_below B1.out b2)
        obtain rfl := ab_one hk hm
        obtain rfl := g1 hk0
        have hbz := beg_pos (t := t) hk hk0 hUd
        rw [hU]
        clear g0 g1 b2 hm hk hU hUd hk0
        go_wp2_with fail
        refine (KB.out _).mono ?_
        rintro e w3 ⟨rfl, rfl⟩
        rw [hbz]
        clear hbz KB
        cases hx : Op.bytesLess t.toList s.toList
        all_goals cases hy : Op.bytesLess t.toList U.toList
        all_goals go_wp2_with fail
        all_goals refine (KH.out _).mono ?_
        all_goals rintro e w4 ⟨rfl, b4⟩
        all_goals have B4 := Lib.hid (then_below B2.out b4)
        all_goals clear b4
        all_goals go_wp2_with fail
        all_goals go_ret
        all_goals exact ⟨rfl, B4.out⟩
end Go.Proofs.Ytoicnpekbpphjaa.Or
