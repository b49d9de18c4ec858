/- Package quittanceref04: Put. -/
import Derived.Test.YtbbnpcldplmgfaaGreatDoorSfPut2
import Derived.Test.YtbbnpcldplmgfaaGreatDoorRgC
namespace Go.Proofs.YtbbnpcldplmgfaaGreatDoor.Shf
open Go.RowKit Rf
theorem rput_leaf (n : Nat) (E : ByteArray) (x : List UInt8) (w : World) (h0 : n ≠ 0) (hn : n < 18446744073709551616) (hE : E = ⟨x.toArray⟩) (hx : x.length ≤ 48) :
    Calls Tryz.prog 95 #[.int .u64 n, .string E] w fun e w' => e = .returned (.tuple #[.string ⟨(Lf.leaf n x).toArray⟩, .int .i64 0]) ∧ Below w.heap.size w w' := by
  subst hE
  refine (Le.rput_c n x w hn (by omega)).mono ?_
  rintro e w' ⟨rfl, b⟩
  obtain ⟨h1, h2⟩ := Le.put_ok n x h0 hx
  refine ⟨?_, b⟩
  rw [h1, h2]
theorem part_ext (T : List UInt8) (i m : Nat) (hm : m = min (i + 48) T.length) : (ByteArray.mk T.toArray).extract i m = ⟨((T.drop i).take 48).toArray⟩ := by
  subst hm
  rw [Le.ext_mid]
  congr 2
  show (T.take (min (i + 48) T.length)).drop i = _
  rw [List.take_drop]
  by_cases h : i + 48 ≤ T.length
  · rw [Nat.min_eq_left h, Nat.add_comm]
  · rw [Nat.min_eq_right (by omega), List.take_of_length_le (by omega), List.take_of_length_le (by omega)]
theorem own_ge {w : World} {base e size n k : Nat} {v : Value} {xs : List Value} (h : w.ownsRow base e size v n xs) (hk : v.ownBlock = some k) : base ≤ k := Tal.own_ge h hk
set_option maxRecDepth 100000 in
set_option maxHeartbeats 1600000 in
theorem rput_no (n : Nat) (s : ByteArray) (w : World) (hn : n < 18446744073709551616) (hs : s.size ≤ 9223372036854775807) (z : Int) (h : (n = 0 ∧ z = 2) ∨ (n ≠ 0 ∧ 98304 < s.size ∧ z = 3)) :
    Calls Tryz.prog 85 #[.int .u64 n, .string s] w fun e w' => e = .returned (.tuple #[.slice none 0 0, .int .i64 z]) ∧ w = w' := by
  rcases h with ⟨rfl, rfl⟩ | ⟨h1, h2, rfl⟩
  · go_enter Tryz.func85, Tryz.ntmps85
    go_wp2_with fail
    go_ret2
    exact ⟨rfl, rfl⟩
  · have q1 : ((n : Int) == 0) = false := beq_eq_false_iff_ne.2 (by omega)
    have q2 : (98304 : Int) < (s.size : Int) := by omega
    clear h1 h2
    go_enter Tryz.func85, Tryz.ntmps85
    go_wp2_with fail
    go_ret2
    exact ⟨rfl, rfl⟩
set_option maxRecDepth 100000 in
set_option maxHeartbeats 2000000 in
theorem rput_ok (n : Nat) (s : ByteArray) (w : World) (h0 : n ≠ 0) (hn : n < 18446744073709551616) (hs : s.size ≤ 98304) :
    Calls Tryz.prog 85 #[.int .u64 n, .string s] w (PutOk n s.data.toList w) := by
  have KT := Lib.hid (fun w => Tal.refText_c s w (by omega))
  have KP := Lib.hid (fun E x w hE hx => rput_leaf n E x w h0 hn hE hx)
  have q1 : ((n : Int) == 0) = false := beq_eq_false_iff_ne.2 (by omega)
  have q2 : ¬ (98304 : Int) < (s.size : Int) := by omega
  have q3 : (s.size : Int) ≤ 98304 := by omega
  have hLl := Sf.chunks_len _ (Sf.text s.data.toList) (Nat.le_refl _) (Sf.text_pos _)
  have htp := Sf.text_pos s.data.toList
  have htl : (Sf.text s.data.toList).length ≤ 98404 := by
    have := (Ta.num_len s.data.toList.length (by simp; omega)).1
    unfold Sf.text; rw [List.length_append]; simp at *; omega
  have HSL := Lib.hid (show (Sf.chunks (Sf.text s.data.toList)).length = (Sf.sheaf n s.data.toList).length by unfold Sf.sheaf; rw [List.length_map])
  have HLV := Lib.hid (lvs_all n s.data.toList)
  obtain ⟨T, hT⟩ : ∃ T, Sf.text s.data.toList = T := ⟨_, rfl⟩
  have HTX := Lib.hid (show Tal.txt s.data.toList = T from hT)
  rw [hT] at hLl htl htp HSL HLV
  obtain ⟨L, hL⟩ : ∃ L, Sf.chunks T = L := ⟨_, rfl⟩
  have HSN := Lib.hid (fun i h => hL ▸ Sf.chunks_snoc i T h)
  rw [hL] at hLl HSL HLV
  have HL := Lib.hid hLl
  clear h0 hT hL hLl
  obtain ⟨i0, hi, hz0, hz1, hz2⟩ := info_parts infoStr
  go_enter Tryz.func85, Tryz.ntmps85
  go_wp2_with fail
  refine (KT.out _).mono ?_
  rintro e w1 ⟨rfl, b1⟩
  rw [HTX.out]
  have B1 := Lib.hid b1
  have hTs : (⟨T.toArray⟩ : ByteArray).size = T.length := rfl
  clear b1
  go_wp2_with fail
  go_loopw [7, 8, 9, 10, 18, 19, 20, 21, 22, 23, 24, 25, 26, 27, 28, 29, 30, 31, 32, 33, 34, 35, 36, 37, 38, 39, 40] (fun v i _ _ _ _ _ _ _ _ _ _ _ _ _ _ _ _ _ _ _ _ _ _ _ _ _ wr => ∃ k j : Nat, k ≤ L.length ∧ j = 48 * k ∧ i = .int .i64 j ∧ wr.ownsRow w.heap.size 9 1 v (L.take k).length (lvs n (L.take k)) ∧ Below w.heap.size w wr) (fun _ i _ _ _ _ _ _ _ _ _ _ _ _ _ _ _ _ _ _ _ _ _ _ _ _ _ _ => 98600 - (intOf i).toNat)
  case atStart => exact ⟨0, 0, by omega, rfl, rfl, World.ownsRow_nil _ _ _ _, B1.out⟩
  case round =>
    obtain ⟨k, j, hk, hj, rfl, hrow, hB⟩ := hrel
    have HROW := Lib.hid hrow
    have HB := Lib.hid hB
    have HJ := Lib.hid hj
    clear hrow hB
    by_cases hlt : j < T.length
    · have hpe := part_ext T j
      have HS := Lib.hid (HSN.out k (by omega))
      have hk1 : k + 1 ≤ L.length := by have := HL.out; omega
      have hk2 : (L.take k).length = k := by simp; omega
      have hkl : (L.take k).length ≤ 3000 := by omega
      have a0 : (0 : Int) ≤ (j : Int) := by omega
      have a1 : (j : Int) < (T.length : Int) := by omega
      clear hk2 hj
      by_cases h48 : j + 48 ≤ T.length
      · have HPE := Lib.hid (hpe (j + 48) (by omega))
        have a2 : (j : Int) + 48 ≤ (T.length : Int) := by omega
        clear h48 hpe
        go_wp2_with fail
        refine (KP.out _ _ _ HPE.out (by simp; omega)).mono ?_
        rintro e w5 ⟨rfl, b5⟩
        have HB5 := Lib.hid (HB.out.trans (b5.mono HB.out.size))
        have hrow5 := own_later HROW.out b5
        clear b5
        go_wp2_with (at_builtin; refine wpList_append_own _ rfl _ _ 32 rfl w.heap.size 9 i0 (.string ⟨#[]⟩) 1 16 Tryz.underlying32 hi hz0 hz1 hz2 rfl (by decide) _ _ _ rfl (hrow5.alloc _) ⟨w5.heap.size, 0, none⟩ 1 1 [sv (Lf.leaf n ((T.drop j).take 48))] rfl rfl (one_new _ _ _) (by simp [Value.oneCell', sv]) (by unfold maxLen; omega) (by omega) (by simp; have := HB5.out.size; omega) ?_; intro v' w6 hown' hgrow _)
        have HOWN := Lib.hid hown'
        have HB6 := Lib.hid ((HB5.out.alloc HB5.out.size _).grown hgrow (by simp; have := HB5.out.size; omega) (fun k hk => own_ge hrow5 hk))
        clear hown' hgrow hrow5
        exact ⟨⟨k + 1, j + 48, hk1, by have := HJ.out; omega, by simp, by rw [HS.out, lvs_snoc, List.length_append]; have h := HOWN.out; rw [HJ.out] at h; exact h, HB6.out⟩, by simp [intOf]; omega⟩
      · have HPE := Lib.hid (hpe (T.length) (by omega))
        have a2 : (T.length : Int) < (j : Int) + 48 := by omega
        have a3 : (j : Int) ≤ (T.length : Int) := by omega
        clear h48 hpe
        go_wp2_with fail
        refine (KP.out _ _ _ HPE.out (by simp; omega)).mono ?_
        rintro e w5 ⟨rfl, b5⟩
        have HB5 := Lib.hid (HB.out.trans (b5.mono HB.out.size))
        have hrow5 := own_later HROW.out b5
        clear b5
        go_wp2_with (at_builtin; refine wpList_append_own _ rfl _ _ 32 rfl w.heap.size 9 i0 (.string ⟨#[]⟩) 1 16 Tryz.underlying32 hi hz0 hz1 hz2 rfl (by decide) _ _ _ rfl (hrow5.alloc _) ⟨w5.heap.size, 0, none⟩ 1 1 [sv (Lf.leaf n ((T.drop j).take 48))] rfl rfl (one_new _ _ _) (by simp [Value.oneCell', sv]) (by unfold maxLen; omega) (by omega) (by simp; have := HB5.out.size; omega) ?_; intro v' w6 hown' hgrow _)
        have HOWN := Lib.hid hown'
        have HB6 := Lib.hid ((HB5.out.alloc HB5.out.size _).grown hgrow (by simp; have := HB5.out.size; omega) (fun k hk => own_ge hrow5 hk))
        clear hown' hgrow hrow5
        exact ⟨⟨k + 1, j + 48, hk1, by have := HJ.out; omega, by simp, by rw [HS.out, lvs_snoc, List.length_append]; have h := HOWN.out; rw [HJ.out] at h; exact h, HB6.out⟩, by simp [intOf]; omega⟩
    · have hkl : k = L.length := by have := HL.out; omega
      subst hkl
      clear hj
      have hrow := HROW.out
      rw [List.take_length, HLV.out, HSL.out] at hrow
      obtain ⟨g, cap, rfl⟩ := own_form hrow (by rw [← HSL.out]; have := HL.out; omega)
      have HROW2 := Lib.hid hrow
      clear hrow
      go_wp2_with fail
      go_ret2
      exact ⟨g, cap, rfl, HROW2.out, HB.out⟩
end Go.Proofs.YtbbnpcldplmgfaaGreatDoor.Shf
