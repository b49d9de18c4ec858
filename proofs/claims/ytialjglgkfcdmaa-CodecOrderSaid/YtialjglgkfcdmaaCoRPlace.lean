/- Package quittanceref15: Place. -/
import Derived.Test.YtialjglgkfcdmaaCoPlace
namespace Go.Proofs.Ytialjglgkfcdmaa.Or
open Go.RowKit Cm
set_option maxRecDepth 100000 in
set_option maxHeartbeats 6400000 in
theorem rplace_c (S : Sch) (n : Int) (w : World) (a : Option Addr) (cap : Nat) (ag : Option Addr) (cg : Nat) (L : List Fd) (hM : Mat w a S.idx) (hr : Fds w ag L) (hf : Fine L) (hl : L.length ≤ 40) (hS : SmallS S) :
    Calls Try.prog 23 #[S.val a cap, .int .i64 n, .slice ag L.length cg] w (PlaceRes S n L w) := by
  have SB := Lib.hid (sb_new w S a cap hM 40)
  have KT := Lib.hid (fun w h => there_c S n w a cap h hS)
  have KF := Lib.hid (fun w h => rfit_c S.kinds w ag cg L h (by have := hS.kinds; omega) (by omega))
  have HR := Lib.hid hr
  have hk40 := hS.kinds
  have HS := Lib.hid hS
  unfold Sch.val at KT
  unfold Sch.val
  have HLN := Lib.hid (show S.kinds.data.toList.length = S.kinds.size by simp)
  clear hM hr
  obtain ⟨y0, y1, y2, y3, -, -, -⟩ := SB.out
  cases ht : thereB S n with
  | false =>
    have HX := Lib.hid (place_no (L := L) ht)
    rw [ht] at KT
    clear ht
    go_enter Try.func23, Try.ntmps23
    go_wp2_with fail
    refine (KT.out _ SB.out.mat).mono ?_
    rintro e w1 ⟨rfl, b1⟩
    have S1 := Lib.hid (SB.out.later b1)
    have R1 := Lib.hid (HR.out.later (below_then SB.out.below b1))
    clear b1 y0 y1 y2 y3
    obtain ⟨y0, y1, y2, y3, -, -, -⟩ := S1.out
    go_wp2_with fail
    go_ret2
    exact ⟨by rw [HX.out]; rfl, S1.out.below⟩
  | true =>
  rw [ht] at KT
  have HT := Lib.hid ht
  by_cases hls : L.length = S.kinds.size
  case neg =>
    have HX := Lib.hid (place_unfit ht (L := L) (fun h => hls (by rw [h.1, HLN.out])))
    have d1 : ((L.length : Int) != (S.kinds.size : Int)) = true := by rw [bne_iff_ne]; omega
    clear ht hls
    go_enter Try.func23, Try.ntmps23
    go_wp2_with fail
    refine (KT.out _ SB.out.mat).mono ?_
    rintro e w1 ⟨rfl, b1⟩
    have S1 := Lib.hid (SB.out.later b1)
    have R1 := Lib.hid (HR.out.later (below_then SB.out.below b1))
    clear b1 y0 y1 y2 y3
    obtain ⟨y0, y1, y2, y3, -, -, -⟩ := S1.out
    go_wp2_with fail
    go_ret2
    exact ⟨by rw [HX.out]; rfl, S1.out.below⟩
  have d1 : ((L.length : Int) != (S.kinds.size : Int)) = false := by rw [bne_eq_false_iff_eq]; omega
  cases hft : fitB S.kinds.data.toList L with
  | false =>
    have HX := Lib.hid (place_unfit ht (L := L) (fun h => by have := h.2; rw [hft] at this; cases this))
    rw [hft] at KF
    clear ht hls hft
    go_enter Try.func23, Try.ntmps23
    go_wp2_with fail
    refine (KT.out _ SB.out.mat).mono ?_
    rintro e w1 ⟨rfl, b1⟩
    have S1 := Lib.hid (SB.out.later b1)
    have R1 := Lib.hid (HR.out.later (below_then SB.out.below b1))
    clear b1 y0 y1 y2 y3
    obtain ⟨y0, y1, y2, y3, -, -, -⟩ := S1.out
    go_wp2_with fail
    refine (KF.out _ R1.out).mono ?_
    rintro e w2 ⟨rfl, b2⟩
    have S2 := Lib.hid (S1.out.later b2)
    have R2 := Lib.hid (R1.out.later b2)
    clear b2 y0 y1 y2 y3
    obtain ⟨y0, y1, y2, y3, -, -, -⟩ := S2.out
    go_wp2_with fail
    go_ret2
    exact ⟨by rw [HX.out]; rfl, S2.out.below⟩
  | true =>
  rw [hft] at KF
  have HREC := Lib.hid (show isRec S L from ⟨by rw [HLN.out]; exact hls, hft⟩)
  have HLS := Lib.hid hls
  have HTK := Lib.hid (there_key ht)
  have KL := Lib.hid (fun w h => rletters_c S (-1) w a cap h hS)
  have KD := Lib.hid (fun w h h2 => fields_c S (-1) w a cap ag cg L h h2 hS (there_key ht) hls d0)
  have HIN := Lib.hid (places_in (there_key ht))
  have HPLN := Lib.hid (places_len (there_key ht) hS)
  have HINN := Lib.hid (places_in ht)
  have HPLNN := Lib.hid (places_len ht hS)
  have KL2 := Lib.hid (fun w h => rletters_c S n w a cap h hS)
  have KD2 := Lib.hid (fun w h h2 => fields_c S n w a cap ag cg L h h2 hS ht hls d0)
  unfold Sch.val at KL KD KL2 KD2
  clear ht hls hft
  obtain ⟨⟨X, z⟩, hp⟩ : ∃ r, keyF S L = r := ⟨_, rfl⟩
  have HF1 := Lib.hid (show Fine (pickL d0 L (placesF S (-1))) from fun f h => hf f (pick_mem (by rw [HLS.out]; exact HIN.out) f h))
  have HPK := Lib.hid (show (pickL d0 L (placesF S (-1))).length = (placesF S (-1)).length by unfold pickL; rw [List.length_map])
  have KQ := Lib.hid (fun w a cap h => rput_as (s := ⟨(lettersF S (-1)).toArray⟩) w a cap (pickL d0 L (placesF S (-1))) rfl rfl h HF1.out (by show (lettersF S (-1)).length ≤ 1000; unfold lettersF pickL; rw [List.length_map]; have := HPLN.out; omega) (by rw [HPK.out]; have := HPLN.out; omega) hp)
  have HP := Lib.hid hp
  clear hp
  by_cases hn : n < 0
  case pos =>
    have HX := Lib.hid (place_key (n := n) HT.out HREC.out (.inr hn))
    rw [HP.out] at HX
    go_enter Try.func23, Try.ntmps23
    go_wp2_with fail
    refine (KT.out _ SB.out.mat).mono ?_
    rintro e w1 ⟨rfl, b1⟩
    have S1 := Lib.hid (SB.out.later b1)
    have R1 := Lib.hid (HR.out.later (below_then SB.out.below b1))
    clear b1 y0 y1 y2 y3
    obtain ⟨y0, y1, y2, y3, -, -, -⟩ := S1.out
    go_wp2_with fail
    refine (KF.out _ R1.out).mono ?_
    rintro e w2 ⟨rfl, b2⟩
    have S2 := Lib.hid (S1.out.later b2)
    have R2 := Lib.hid (R1.out.later b2)
    clear b2 y0 y1 y2 y3
    obtain ⟨y0, y1, y2, y3, -, -, -⟩ := S2.out
    go_wp2_with fail
    refine (KL.out _ S2.out.mat).mono ?_
    rintro e w3 ⟨-, h3, b3⟩
    have S3 := Lib.hid (S2.out.later b3)
    have R3 := Lib.hid (R2.out.later b3)
    obtain rfl := h3 HTK.out
    clear h3
    clear b3 y0 y1 y2 y3
    obtain ⟨y0, y1, y2, y3, -, -, -⟩ := S3.out
    go_wp2_with fail
    refine (KD.out _ S3.out.mat R3.out).mono ?_
    rintro e w4 ⟨a4, c4, rfl, f4, b4⟩
    have S4 := Lib.hid (S3.out.later b4)
    have R4 := Lib.hid (R3.out.later b4)
    have F4 := Lib.hid f4
    clear f4
    clear b4 y0 y1 y2 y3
    obtain ⟨y0, y1, y2, y3, -, -, -⟩ := S4.out
    go_wp2_with fail
    refine (KQ.out _ _ _ F4.out).mono ?_
    rintro e w5 ⟨rfl, b5⟩
    have S5 := Lib.hid (S4.out.later b5)
    have R5 := Lib.hid (R4.out.later b5)
    clear b5 y0 y1 y2 y3
    obtain ⟨y0, y1, y2, y3, -, -, -⟩ := S5.out
    go_wp2_with fail
    go_ret2
    exact ⟨by rw [HX.out]; rfl, S5.out.below⟩
  by_cases hz : z = 0
  case neg =>
    have HX := Lib.hid (place_key (n := n) HT.out HREC.out (.inl (by rw [HP.out]; exact hz)))
    rw [HP.out] at HX
    have d2 : (z != 0) = true := bne_iff_ne.2 hz
    clear hz
    go_enter Try.func23, Try.ntmps23
    go_wp2_with fail
    refine (KT.out _ SB.out.mat).mono ?_
    rintro e w1 ⟨rfl, b1⟩
    have S1 := Lib.hid (SB.out.later b1)
    have R1 := Lib.hid (HR.out.later (below_then SB.out.below b1))
    clear b1 y0 y1 y2 y3
    obtain ⟨y0, y1, y2, y3, -, -, -⟩ := S1.out
    go_wp2_with fail
    refine (KF.out _ R1.out).mono ?_
    rintro e w2 ⟨rfl, b2⟩
    have S2 := Lib.hid (S1.out.later b2)
    have R2 := Lib.hid (R1.out.later b2)
    clear b2 y0 y1 y2 y3
    obtain ⟨y0, y1, y2, y3, -, -, -⟩ := S2.out
    go_wp2_with fail
    refine (KL.out _ S2.out.mat).mono ?_
    rintro e w3 ⟨-, h3, b3⟩
    have S3 := Lib.hid (S2.out.later b3)
    have R3 := Lib.hid (R2.out.later b3)
    obtain rfl := h3 HTK.out
    clear h3
    clear b3 y0 y1 y2 y3
    obtain ⟨y0, y1, y2, y3, -, -, -⟩ := S3.out
    go_wp2_with fail
    refine (KD.out _ S3.out.mat R3.out).mono ?_
    rintro e w4 ⟨a4, c4, rfl, f4, b4⟩
    have S4 := Lib.hid (S3.out.later b4)
    have R4 := Lib.hid (R3.out.later b4)
    have F4 := Lib.hid f4
    clear f4
    clear b4 y0 y1 y2 y3
    obtain ⟨y0, y1, y2, y3, -, -, -⟩ := S4.out
    go_wp2_with fail
    refine (KQ.out _ _ _ F4.out).mono ?_
    rintro e w5 ⟨rfl, b5⟩
    have S5 := Lib.hid (S4.out.later b5)
    have R5 := Lib.hid (R4.out.later b5)
    clear b5 y0 y1 y2 y3
    obtain ⟨y0, y1, y2, y3, -, -, -⟩ := S5.out
    go_wp2_with fail
    go_ret2
    exact ⟨by rw [HX.out]; rfl, S5.out.below⟩
  subst hz
  obtain ⟨⟨Y, z⟩, hp2⟩ : ∃ r, ownF S n L = r := ⟨_, rfl⟩
  have HF2 := Lib.hid (show Fine (pickL d0 L (placesF S n)) from fun f h => hf f (pick_mem (by rw [HLS.out]; exact HINN.out) f h))
  have HPK2 := Lib.hid (show (pickL d0 L (placesF S n)).length = (placesF S n).length by unfold pickL; rw [List.length_map])
  have KQ2 := Lib.hid (fun w a cap h => rput_as (s := ⟨(lettersF S n).toArray⟩) w a cap (pickL d0 L (placesF S n)) rfl rfl h HF2.out (by show (lettersF S n).length ≤ 1000; unfold lettersF pickL; rw [List.length_map]; have := HPLNN.out; omega) (by rw [HPK2.out]; have := HPLNN.out; omega) hp2)
  have HXL := Lib.hid (show X.length ≤ 1024 from put_zero_len HP.out)
  have HN := Lib.hid hn
  have HP2 := Lib.hid hp2
  have HYL := Lib.hid (fun (h : z = 0) => put_zero_len (show putF (lettersF S n) (pickL d0 L (placesF S n)) = (Y, 0) by rw [← h]; exact hp2))
  clear hp2
  by_cases hz : z = 0
  case neg =>
    have HX := Lib.hid (place_err HT.out HREC.out (by rw [HP.out]) HN.out (by rw [HP2.out]; exact hz))
    rw [HP2.out] at HX
    have d2 : (z != 0) = true := bne_iff_ne.2 hz
    clear hz
    go_enter Try.func23, Try.ntmps23
    go_wp2_with fail
    refine (KT.out _ SB.out.mat).mono ?_
    rintro e w1 ⟨rfl, b1⟩
    have S1 := Lib.hid (SB.out.later b1)
    have R1 := Lib.hid (HR.out.later (below_then SB.out.below b1))
    clear b1 y0 y1 y2 y3
    obtain ⟨y0, y1, y2, y3, -, -, -⟩ := S1.out
    go_wp2_with fail
    refine (KF.out _ R1.out).mono ?_
    rintro e w2 ⟨rfl, b2⟩
    have S2 := Lib.hid (S1.out.later b2)
    have R2 := Lib.hid (R1.out.later b2)
    clear b2 y0 y1 y2 y3
    obtain ⟨y0, y1, y2, y3, -, -, -⟩ := S2.out
    go_wp2_with fail
    refine (KL.out _ S2.out.mat).mono ?_
    rintro e w3 ⟨-, h3, b3⟩
    have S3 := Lib.hid (S2.out.later b3)
    have R3 := Lib.hid (R2.out.later b3)
    obtain rfl := h3 HTK.out
    clear h3
    clear b3 y0 y1 y2 y3
    obtain ⟨y0, y1, y2, y3, -, -, -⟩ := S3.out
    go_wp2_with fail
    refine (KD.out _ S3.out.mat R3.out).mono ?_
    rintro e w4 ⟨a4, c4, rfl, f4, b4⟩
    have S4 := Lib.hid (S3.out.later b4)
    have R4 := Lib.hid (R3.out.later b4)
    have F4 := Lib.hid f4
    clear f4
    clear b4 y0 y1 y2 y3
    obtain ⟨y0, y1, y2, y3, -, -, -⟩ := S4.out
    go_wp2_with fail
    refine (KQ.out _ _ _ F4.out).mono ?_
    rintro e w5 ⟨rfl, b5⟩
    have S5 := Lib.hid (S4.out.later b5)
    have R5 := Lib.hid (R4.out.later b5)
    clear b5 y0 y1 y2 y3
    obtain ⟨y0, y1, y2, y3, -, -, -⟩ := S5.out
    go_wp2_with fail
    refine (KL2.out _ S5.out.mat).mono ?_
    rintro e w6 ⟨-, h6, b6⟩
    have S6 := Lib.hid (S5.out.later b6)
    have R6 := Lib.hid (R5.out.later b6)
    obtain rfl := h6 HT.out
    clear h6
    clear b6 y0 y1 y2 y3
    obtain ⟨y0, y1, y2, y3, -, -, -⟩ := S6.out
    go_wp2_with fail
    refine (KD2.out _ S6.out.mat R6.out).mono ?_
    rintro e w7 ⟨a7, c7, rfl, f7, b7⟩
    have S7 := Lib.hid (S6.out.later b7)
    have R7 := Lib.hid (R6.out.later b7)
    have F7 := Lib.hid f7
    clear f7
    clear b7 y0 y1 y2 y3
    obtain ⟨y0, y1, y2, y3, -, -, -⟩ := S7.out
    go_wp2_with fail
    refine (KQ2.out _ _ _ F7.out).mono ?_
    rintro e w8 ⟨rfl, b8⟩
    have S8 := Lib.hid (S7.out.later b8)
    have R8 := Lib.hid (R7.out.later b8)
    clear b8 y0 y1 y2 y3
    obtain ⟨y0, y1, y2, y3, -, -, -⟩ := S8.out
    go_wp2_with fail
    go_ret2
    exact ⟨by rw [HX.out]; rfl, S8.out.below⟩
  subst hz
  have HX := Lib.hid (place_ok HT.out HREC.out (by rw [HP.out]) HN.out (by rw [HP2.out]))
  rw [HP.out, HP2.out] at HX
  have hlen : Y.length + X.length ≤ 9223372036854775807 := by have := HXL.out; have := HYL.out rfl; omega
  go_enter Try.func23, Try.ntmps23
  go_wp2_with fail
  refine (KT.out _ SB.out.mat).mono ?_
  rintro e w1 ⟨rfl, b1⟩
  have S1 := Lib.hid (SB.out.later b1)
  have R1 := Lib.hid (HR.out.later (below_then SB.out.below b1))
  clear b1 y0 y1 y2 y3
  obtain ⟨y0, y1, y2, y3, -, -, -⟩ := S1.out
  go_wp2_with fail
  refine (KF.out _ R1.out).mono ?_
  rintro e w2 ⟨rfl, b2⟩
  have S2 := Lib.hid (S1.out.later b2)
  have R2 := Lib.hid (R1.out.later b2)
  clear b2 y0 y1 y2 y3
  obtain ⟨y0, y1, y2, y3, -, -, -⟩ := S2.out
  go_wp2_with fail
  refine (KL.out _ S2.out.mat).mono ?_
  rintro e w3 ⟨-, h3, b3⟩
  have S3 := Lib.hid (S2.out.later b3)
  have R3 := Lib.hid (R2.out.later b3)
  obtain rfl := h3 HTK.out
  clear h3
  clear b3 y0 y1 y2 y3
  obtain ⟨y0, y1, y2, y3, -, -, -⟩ := S3.out
  go_wp2_with fail
  refine (KD.out _ S3.out.mat R3.out).mono ?_
  rintro e w4 ⟨a4, c4, rfl, f4, b4⟩
  have S4 := Lib.hid (S3.out.later b4)
  have R4 := Lib.hid (R3.out.later b4)
  have F4 := Lib.hid f4
  clear f4
  clear b4 y0 y1 y2 y3
  obtain ⟨y0, y1, y2, y3, -, -, -⟩ := S4.out
  go_wp2_with fail
  refine (KQ.out _ _ _ F4.out).mono ?_
  rintro e w5 ⟨rfl, b5⟩
  have S5 := Lib.hid (S4.out.later b5)
  have R5 := Lib.hid (R4.out.later b5)
  clear b5 y0 y1 y2 y3
  obtain ⟨y0, y1, y2, y3, -, -, -⟩ := S5.out
  go_wp2_with fail
  refine (KL2.out _ S5.out.mat).mono ?_
  rintro e w6 ⟨-, h6, b6⟩
  have S6 := Lib.hid (S5.out.later b6)
  have R6 := Lib.hid (R5.out.later b6)
  obtain rfl := h6 HT.out
  clear h6
  clear b6 y0 y1 y2 y3
  obtain ⟨y0, y1, y2, y3, -, -, -⟩ := S6.out
  go_wp2_with fail
  refine (KD2.out _ S6.out.mat R6.out).mono ?_
  rintro e w7 ⟨a7, c7, rfl, f7, b7⟩
  have S7 := Lib.hid (S6.out.later b7)
  have R7 := Lib.hid (R6.out.later b7)
  have F7 := Lib.hid f7
  clear f7
  clear b7 y0 y1 y2 y3
  obtain ⟨y0, y1, y2, y3, -, -, -⟩ := S7.out
  go_wp2_with fail
  refine (KQ2.out _ _ _ F7.out).mono ?_
  rintro e w8 ⟨rfl, b8⟩
  have S8 := Lib.hid (S7.out.later b8)
  have R8 := Lib.hid (R7.out.later b8)
  clear b8 y0 y1 y2 y3
  obtain ⟨y0, y1, y2, y3, -, -, -⟩ := S8.out
  go_wp2_with fail
  go_ret2
  exact ⟨by rw [HX.out, ← cat_mk2]; rfl, S8.out.below⟩
end Go.Proofs.Ytialjglgkfcdmaa.Or
