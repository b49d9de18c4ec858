/- Package quittanceref12: short, bytes. -/
import Derived.Test.YtialjglgkfcdmaaOcRAbove
import Derived.Test.YtialjglgkfcdmaaOrPut
import Derived.Test.YtialjglgkfcdmaaOrRBytes0
namespace Go.Proofs.Ytialjglgkfcdmaa.Or
open Go.RowKit Cm
def StrRes (l : List UInt8) (w : World) (e : Ending) (w' : World) : Prop := e = .returned (.string ⟨l.toArray⟩) ∧ Below w.heap.size w w'
theorem size_mk (l : List UInt8) : (⟨l.toArray⟩ : ByteArray).size = l.length := rfl
set_option maxRecDepth 100000 in
set_option maxHeartbeats 1600000 in
theorem short_c (n : Nat) (w : World) (hn : n < 18446744073709551616) : Calls Try.prog 73 #[.int .u64 (n : Int)] w (StrRes (shortL n) w) := by
  have HN := Lib.hid hn
  have H8 := Lib.hid (short8 hn)
  clear hn
  go_enter Try.func73, Try.ntmps73
  go_wp2_with fail
  go_loopw [0, 3] (fun s0 s3 wr => ∃ (m : Nat) (F : ByteArray), s0 = .int .u64 (m : Int) ∧ s3 = .string F ∧ shortL n = shortL m ++ F.data.toList ∧ m < 18446744073709551616 ∧ Below w.heap.size w wr) (fun s0 _ _ => (intOf s0).toNat)
  case atStart => exact ⟨n, ⟨#[]⟩, rfl, rfl, by simp, HN.out, Below.refl _ _⟩
  case round =>
    obtain ⟨m, F, rfl, rfl, hs, hm, hB⟩ := hrel
    have HB := Lib.hid hB
    have HS := Lib.hid hs
    have HM := Lib.hid hm
    clear hB hs hm
    rcases Nat.eq_zero_or_pos m with h0 | h0
    · have HE := Lib.hid (show shortL n = F.data.toList by rw [HS.out, h0, short_zero]; rfl)
      clear HS
      subst h0
      go_wp2_with fail
      go_ret
      exact ⟨by rw [HE.out]; rfl, HB.out⟩
    · have q1 : (0 : Int) < (m : Int) := by omega
      have hfl : F.size ≤ 8 := by
        have := H8.out
        rw [HS.out, List.length_append] at this
        have e : F.data.toList.length = F.size := by simp
        omega
      have h1 := one_str wr (m % 256) (by omega)
      rw [show ((m % 256 : Nat) : Int) = (m : Int) % 256 by omega] at h1
      have HP := short_pos h0
      obtain ⟨c, hc⟩ : ∃ c, UInt8.ofNat (m % 256) = c := ⟨_, rfl⟩
      rw [hc] at h1 HP
      have HP := Lib.hid HP
      have hcs : (⟨#[c]⟩ : ByteArray).size = 1 := rfl
      have hw : IntKind.u64.wrap ((m : Int) / 256) = (m : Int) / 256 := by have := HM.out; rw [IntKind.wrap_u64]; omega
      clear hc
      go_wp2_with fail
      exact ⟨⟨m / 256, ⟨#[c]⟩ ++ F, by simp, rfl, by rw [HS.out, HP.out]; simp, by have := HM.out; omega, HB.out.alloc HB.out.size _⟩, by simp [intOf]; omega⟩
theorem short_z (z : Int) (w : World) (h0 : 0 ≤ z) (h1 : z < 18446744073709551616) : Calls Try.prog 73 #[.int .u64 z] w fun e w' => ∃ F : ByteArray, e = .returned (.string F) ∧ F.data.toList = shortL z.toNat ∧ F.size ≤ 8 ∧ Below w.heap.size w w' := by
  obtain ⟨m, rfl⟩ : ∃ m : Nat, z = (m : Int) := ⟨z.toNat, by omega⟩
  refine (short_c m w (by omega)).mono ?_
  rintro e w' ⟨rfl, hb⟩
  exact ⟨_, rfl, rfl, short8 (n := m) (by omega), hb⟩
theorem one_z (z : Int) (w : World) (h0 : 0 ≤ z) (h1 : z ≤ 255) : Calls Try.prog 74 #[.int .i64 z] w fun e w' => ∃ F : ByteArray, e = .returned (.string F) ∧ F.data.toList = [UInt8.ofNat z.toNat] ∧ F.size = 1 ∧ Below w.heap.size w w' := by
  obtain ⟨m, rfl⟩ : ∃ m : Nat, z = (m : Int) := ⟨z.toNat, by omega⟩
  refine (one_c m w (by omega)).mono ?_
  rintro e w' ⟨rfl, hb⟩
  exact ⟨_, rfl, rfl, rfl, hb⟩
theorem str_of {F : ByteArray} {l : List UInt8} (h : F.data.toList = l) : Ending.returned (.string F) = Ending.returned (.string ⟨l.toArray⟩) := by
  subst h; rfl
theorem cat_list (F G : ByteArray) : (F ++ G).data.toList = F.data.toList ++ G.data.toList := by simp
theorem ext_one (s : ByteArray) (k : Nat) (h : k < s.size) : (s.extract k (k + 1)).data.toList = [s[k]] := by
  have hl : k < s.data.toList.length := by simpa using h
  have e : (s.extract k (k + 1)).data.toList = (s.data.toList.drop k).take 1 := by simp [List.extract_eq_take_drop]
  rw [e, List.drop_eq_getElem_cons hl, List.take_succ_cons, List.take_zero, byte_at s k h]
theorem cpl_head {n : Nat} (h : n ≤ 8) : cpl (UInt8.ofNat (128 + n)) = UInt8.ofNat (127 - n) := by
  apply UInt8.toNat_inj.1
  rw [cpl_nat]; simp; omega
set_option maxRecDepth 100000 in
set_option maxHeartbeats 3200000 in
theorem bytes_c (c : UInt8) (f : Fd) (w : World) (hc : c.toNat = 110 ∨ c.toNat = 105 ∨ c.toNat = 115) (hok : f.ok) (hs : f.s.size ≤ 100000) : Calls Try.prog 70 #[.int .u8 (c.toNat : Int), f.val] w (StrRes (enc c f) w) := by
  unfold Fd.val
  have HOK := Lib.hid hok
  have HF := Lib.hid (fd_new w f 59)
  have HB := Lib.hid ((Below.refl w.heap.size w).alloc (Nat.le_refl _) (.cells #[.int .u64 f.n, .int .i64 f.i, .string f.s] 59))
  clear hok
  rcases hc with hc | hc | hc
  · have HEN := Lib.hid (enc_n (f := f) hc)
    have KS := Lib.hid (fun w => short_z f.n w HOK.out.n0 HOK.out.n1)
    have d1 : ((c.toNat : Int) == 110) = true := beq_iff_eq.2 (by omega)
    clear hc
    go_enter Try.func70, Try.ntmps70
    go_wp2_with fail
    refine (KS.out _).mono ?_
    rintro e w2 ⟨F, rfl, hF, hF8, b2⟩
    have B2 := Lib.hid (HB.out.trans (b2.mono HB.out.size))
    have HFL := Lib.hid hF
    have K1 := Lib.hid (fun w => one_z (F.size : Int) w (by omega) (by omega))
    clear hF b2
    go_wp2_with fail
    refine (K1.out _).mono ?_
    rintro e w3 ⟨G, rfl, hG, hG1, b3⟩
    have B3 := Lib.hid (B2.out.trans (b3.mono B2.out.size))
    have HGL := Lib.hid hG
    clear hG b3
    go_wp2_with fail
    go_ret
    refine ⟨str_of ?_, B3.out⟩
    rw [cat_list, HGL.out, HEN.out, HFL.out]
    have e : F.size = (shortL f.n.toNat).length := by rw [← HFL.out]; simp
    unfold numL
    simp [e]
  · have d1 : ((c.toNat : Int) == 110) = false := beq_eq_false_iff_ne.2 (by omega)
    have d2 : ((c.toNat : Int) == 105) = true := beq_iff_eq.2 (by omega)
    by_cases hneg : f.i < 0
    · have HEN := Lib.hid (show enc c f = (numL 128 (-f.i - 1).toNat).map cpl by rw [enc_i hc, if_pos hneg])
      have KS := Lib.hid (fun w => short_z (-f.i - 1) w (by omega) (by have := HOK.out.i0; omega))
      have q1 : ¬ (0 : Int) ≤ f.i := by omega
      have q2 : IntKind.i64.wrap (f.i + 1) = f.i + 1 := IntWalk.i64_in _ (by have := HOK.out.i0; have := HOK.out.i1; omega)
      have q3 : IntKind.i64.wrap (-(f.i + 1)) = -f.i - 1 := by rw [IntWalk.i64_in _ (by have := HOK.out.i0; have := HOK.out.i1; omega)]; omega
      have q4 : IntKind.u64.wrap (-f.i - 1) = -f.i - 1 := by rw [IntKind.wrap_u64]; have := HOK.out.i0; omega
      have q5 : IntKind.u64.wrap (-(f.i + 1)) = -f.i - 1 := by rw [IntKind.wrap_u64]; have := HOK.out.i0; omega
      clear hc hneg
      go_enter Try.func70, Try.ntmps70
      go_wp2_with fail
      refine (KS.out _).mono ?_
      rintro e w2 ⟨F, rfl, hF, hF8, b2⟩
      have B2 := Lib.hid (HB.out.trans (b2.mono HB.out.size))
      have HFL := Lib.hid hF
      have K1 := Lib.hid (fun w => one_z (127 - (F.size : Int)) w (by omega) (by omega))
      clear hF b2 q2 q3 q4 q5
      go_wp2_with fail
      refine (K1.out _).mono ?_
      rintro e w3 ⟨G, rfl, hG, hG1, b3⟩
      have B3 := Lib.hid (B2.out.trans (b3.mono B2.out.size))
      have HGL := Lib.hid hG
      clear hG b3
      go_wp2_with fail
      go_loopw [8, 9] (fun s8 s9 wr => ∃ (k : Nat) (T : ByteArray), k ≤ F.size ∧ s8 = .string T ∧ s9 = .int .i64 (k : Int) ∧ T.data.toList = G.data.toList ++ (F.data.toList.take k).map cpl ∧ T.size ≤ 1 + k ∧ Below w.heap.size w wr) (fun _ s9 _ => F.size - (intOf s9).toNat)
      case atStart => exact ⟨0, G, by omega, rfl, rfl, by simp, by omega, B3.out⟩
      case round =>
        obtain ⟨k, T, hk, rfl, rfl, hT, hTs, hB⟩ := hrel
        have HTL := Lib.hid hT
        have HB4 := Lib.hid hB
        clear hT hB
        by_cases hlt : k < F.size
        · have p0 : (0 : Int) ≤ (k : Int) := by omega
          have p1 : (k : Int) < (F.size : Int) := by omega
          have HBY := Lib.hid (byte_at F k hlt)
          obtain ⟨y, hy⟩ : ∃ y, F[k] = y := ⟨_, rfl⟩
          have HY := Lib.hid hy
          have hy9 := y.toNat_lt
          have K2 := Lib.hid (fun w => one_z (255 - (y.toNat : Int)) w (by omega) (by omega))
          have hyy : F[k] = y := hy
          clear hy
          go_wp2_with fail
          refine (K2.out _).mono ?_
          rintro e w5 ⟨H, rfl, hH, hH1, b5⟩
          have B5 := Lib.hid (HB4.out.trans (b5.mono HB4.out.size))
          have HHL := Lib.hid hH
          clear hH b5 hy9
          go_wp2_with fail
          refine ⟨⟨k + 1, T ++ H, by omega, rfl, by simp, ?_, by rw [ByteArray.size_append]; omega, B5.out⟩, by simp [intOf]; omega⟩
          rw [cat_list, HTL.out, HHL.out, List.take_succ_eq_append_getElem (by simpa using hlt), List.map_append, HBY.out, HY.out, List.append_assoc]
          congr 2
          show [_] = [cpl y]
          unfold cpl
          congr 2
          omega
        · obtain rfl : k = F.size := by omega
          go_wp2_with fail
          go_ret
          refine ⟨str_of ?_, HB4.out⟩
          have e : F.data.toList.length = F.size := by simp
          have e2 : F.size = (shortL (-f.i - 1).toNat).length := by rw [← HFL.out]; simp
          rw [HTL.out, HGL.out, HEN.out, List.take_of_length_le (by omega), HFL.out]
          unfold numL
          rw [List.map_cons, cpl_head (by omega), ← e2]
          simp only [List.singleton_append]
          congr 2
          omega
    · have HEN := Lib.hid (show enc c f = numL 128 f.i.toNat by rw [enc_i hc, if_neg hneg])
      have KS := Lib.hid (fun w => short_z f.i w (by omega) (by have := HOK.out.i1; omega))
      have q1 : (0 : Int) ≤ f.i := by omega
      have q4 : IntKind.u64.wrap f.i = f.i := by rw [IntKind.wrap_u64]; have := HOK.out.i1; omega
      clear hc hneg
      go_enter Try.func70, Try.ntmps70
      go_wp2_with fail
      refine (KS.out _).mono ?_
      rintro e w2 ⟨F, rfl, hF, hF8, b2⟩
      have B2 := Lib.hid (HB.out.trans (b2.mono HB.out.size))
      have HFL := Lib.hid hF
      have K1 := Lib.hid (fun w => one_z (128 + (F.size : Int)) w (by omega) (by omega))
      clear hF b2
      go_wp2_with fail
      refine (K1.out _).mono ?_
      rintro e w3 ⟨G, rfl, hG, hG1, b3⟩
      have B3 := Lib.hid (B2.out.trans (b3.mono B2.out.size))
      have HGL := Lib.hid hG
      clear hG b3
      go_wp2_with fail
      go_ret
      refine ⟨str_of ?_, B3.out⟩
      rw [cat_list, HGL.out, HEN.out, HFL.out]
      have e : F.size = (shortL f.i.toNat).length := by rw [← HFL.out]; simp
      unfold numL
      have e2 : (128 + (F.size : Int)).toNat = 128 + F.size := by omega
      rw [e2, e]
      rfl
  · have HEN := Lib.hid (enc_s (f := f) hc)
    have d1 : ((c.toNat : Int) == 110) = false := beq_eq_false_iff_ne.2 (by omega)
    have d2 : ((c.toNat : Int) == 105) = false := beq_eq_false_iff_ne.2 (by omega)
    clear hc
    go_enter Try.func70, Try.ntmps70
    go_wp2_with fail
    obtain ⟨e0, e1, e2, e3⟩ := HF.out
    have hB := HB.out
    generalize w.alloc (.cells #[.int .u64 f.n, .int .i64 f.i, .string f.s] 59) = W1 at e0 e1 e2 e3 hB ⊢
    clear e0 e1
    go_loopw [10, 11] (fun s10 s11 wr => ∃ (k : Nat) (T : ByteArray), k ≤ f.s.size ∧ s10 = .string T ∧ s11 = .int .i64 (k : Int) ∧ T.data.toList = escL (f.s.data.toList.take k) ∧ W1 = wr) (fun _ s11 _ => f.s.size - (intOf s11).toNat)
    case atStart => exact ⟨0, ⟨#[]⟩, by omega, rfl, rfl, by simp [escL], rfl⟩
    case round =>
      obtain ⟨k, T, hk, rfl, rfl, hT, rfl⟩ := hrel
      have HTL := Lib.hid hT
      have hsl : f.s.data.toList.length = f.s.size := by simp
      have hts : T.size ≤ 2 * k := by
        have h1 := esc_len (f.s.data.toList.take k)
        rw [← hT, List.length_take] at h1
        have e : T.data.toList.length = T.size := by simp
        omega
      have HSL := Lib.hid hsl
      clear hT hsl
      by_cases hlt : k < f.s.size
      · have p0 : (0 : Int) ≤ (k : Int) := by omega
        have p1 : (k : Int) < (f.s.size : Int) := by omega
        have p3 : (k : Int) + 1 ≤ (f.s.size : Int) := by omega
        have HBY := Lib.hid (byte_at f.s k hlt)
        have HN := Lib.hid (esc_next f.s.data.toList k (by rw [HSL.out]; exact hlt))
        have HX := Lib.hid (ext_one f.s k hlt)
        have hx1 : (f.s.extract k (k + 1)).size = 1 := by rw [ByteArray.size_extract]; omega
        rw [HBY.out] at HN
        obtain ⟨y, hy⟩ : ∃ y, f.s[k] = y := ⟨_, rfl⟩
        rw [hy] at HN HX
        have hyy : f.s[k] = y := hy
        clear hy
        have hff : (⟨#[255]⟩ : ByteArray).size = 1 := rfl
        by_cases hz : y = 0
        · have q2 : ((y.toNat : Int) == 0) = true := beq_iff_eq.2 (by rw [hz]; rfl)
          have HE := Lib.hid (show escL (f.s.data.toList.take (k + 1)) = escL (f.s.data.toList.take k) ++ [0, 255] by rw [HN.out, if_pos hz])
          have HX2 := Lib.hid (show (f.s.extract k (k + 1)).data.toList = [0] by rw [HX.out, hz])
          clear hz
          go_wp2_with fail
          refine ⟨⟨k + 1, T ++ f.s.extract k (k + 1) ++ ⟨#[255]⟩, by omega, rfl, by simp, ?_, trivial⟩, by simp [intOf]; omega⟩
          rw [cat_list, cat_list, HTL.out, HX2.out, HE.out]
          simp
        · have q2 : ((y.toNat : Int) == 0) = false := beq_eq_false_iff_ne.2 (fun h => hz (UInt8.toNat_inj.1 (by simpa using h)))
          have HE := Lib.hid (show escL (f.s.data.toList.take (k + 1)) = escL (f.s.data.toList.take k) ++ [y] by rw [HN.out, if_neg hz])
          clear hz
          go_wp2_with fail
          refine ⟨⟨k + 1, T ++ f.s.extract k (k + 1), by omega, rfl, by simp, ?_, trivial⟩, by simp [intOf]; omega⟩
          rw [cat_list, HTL.out, HX.out, HE.out]
      · obtain rfl : k = f.s.size := by omega
        have hff : (⟨#[0, 0]⟩ : ByteArray).size = 2 := rfl
        go_wp2_with fail
        go_ret
        refine ⟨str_of ?_, hB⟩
        rw [cat_list, HTL.out, HEN.out, List.take_of_length_le (by rw [HSL.out]; exact Nat.le_refl _)]
end Go.Proofs.Ytialjglgkfcdmaa.Or
