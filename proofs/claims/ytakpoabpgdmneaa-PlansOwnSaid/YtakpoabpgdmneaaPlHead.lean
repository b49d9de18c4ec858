/- The statements of plans: head. -/
import Derived.Test.YtakpoabpgdmneaaPlCt
namespace Go.Proofs.Ytakpoabpgdmneaa.Pl
open Go Go.RowKit Ck Go.Maps
theorem goes_step {F : Nat → Prop} {lo : Nat} {w u u' : World} {c n N : Nat} {M : Int → Option Pn} (h : Goes F u u' c M n N) (hb : Below lo w u) (hF : ∀ j, F j → lo ≤ j) (hl : lo ≤ u.heap.size) : ∃ F' K', Ct F' u' c M K' N ∧ K'.length ≤ n ∧ (∀ j, F' j → lo ≤ j) ∧ Below lo w u' := by
  obtain ⟨F', K', h1, h2, h3, h4⟩ := h
  exact ⟨F', K', h1, h2, fun j hj => (h4 j hj).elim (hF j) (Nat.le_trans hl), Keeps.belowT hb h3 hF hl⟩
theorem rep_ok {M : Int → Option Pn} {k : Int} {x : Pn} {y : Pr} (hM : M k = some x) (h1 : y.okB = true) (h2 : ¬ (y.frm ≤ x.last.frm ∨ (x.ret ≠ 0 ∧ x.ret ≤ y.frm))) (h3 : ¬ 100 ≤ x.ps.length) : repriceM M k y = (upd M k (x.more y), 0) := by
  unfold repriceM
  rw [h1, if_neg (by decide), hM]
  show (if _ then _ else _) = _
  rw [if_neg h2, if_neg h3]
theorem rep_no9 {M : Int → Option Pn} {k : Int} {x : Pn} {y : Pr} (hM : M k = some x) (h1 : y.okB = true) (h2 : y.frm ≤ x.last.frm ∨ (x.ret ≠ 0 ∧ x.ret ≤ y.frm)) : repriceM M k y = (M, 9) := by
  unfold repriceM
  rw [h1, if_neg (by decide), hM]
  show (if _ then _ else _) = _
  rw [if_pos h2]
theorem ret_ok {M : Int → Option Pn} {k day : Int} {x : Pn} (hM : M k = some x) (h1 : dayB day = true) (h2 : ¬ (x.ret ≠ 0 ∨ day ≤ x.last.frm)) : retireM M k day = (upd M k (x.end' day), 0) := by
  unfold retireM
  rw [h1, if_neg (by decide), hM]
  show (if _ then _ else _) = _
  rw [if_neg h2]
theorem ret_no9 {M : Int → Option Pn} {k day : Int} {x : Pn} (hM : M k = some x) (h1 : dayB day = true) (h2 : x.ret ≠ 0 ∨ day ≤ x.last.frm) : retireM M k day = (M, 9) := by
  unfold retireM
  rw [h1, if_neg (by decide), hM]
  show (if _ then _ else _) = _
  rw [if_pos h2]
theorem price_is {M : Int → Option Pn} {k day : Int} {x : Pn} (hM : M k = some x) (h1 : dayB day = true) : priceT M k day = priceL x.ps day := by
  unfold priceT
  rw [h1, if_neg (by decide), hM]
def P1 : Pn := ⟨1, ⟨#[97]⟩, 1, [⟨10, 500⟩], 0⟩
def P2 : Pn := ⟨1, ⟨#[97]⟩, 1, [⟨10, 500⟩, ⟨20, 700⟩], 0⟩
def P3 : Pn := ⟨1, ⟨#[97]⟩, 1, [⟨10, 500⟩, ⟨20, 700⟩], 30⟩
def P4 : Pn := ⟨1, ⟨#[97]⟩, 1, [⟨10, 500⟩, ⟨20, 700⟩, ⟨25, 1⟩], 30⟩
theorem add1 : addM (fun _ => none) P1 = (upd (fun _ => none) 1 P1, 0) := by
  unfold addM
  have : P1.okB = true := by rw [okB_rc P1 (by decide)]; decide
  rw [this, if_neg (by decide), if_neg (by decide)]
  rfl
set_option maxRecDepth 100000 in
set_option maxHeartbeats 3200000 in
theorem head_c (w : World) : Calls Try.prog 7 #[] w fun e w' => e = .returned (.bool true) ∧ Below w.heap.size w w' := by
  go_enter Try.func7, Try.ntmps7
  go_wp2_with fail
  refine (ct_new w).mono ?_
  rintro _ w1 ⟨c, F, rfl, hc, hb, hF⟩
  have C := Lib.hid hc
  have B := Lib.hid hb
  have HF := Lib.hid hF
  clear hc hb hF
  have RP : Hid (Rw (w1.alloc (.cells #[.int .i64 10, .int .i64 500] TPrice)) w1.heap.size TPrice [.int .i64 10, .int .i64 500]) := Rw.new w1 [.int .i64 10, .int .i64 500] TPrice
  have hb1 : Below w1.heap.size w1 (w1.alloc (.cells #[.int .i64 10, .int .i64 500] TPrice)) := (Below.refl _ _).alloc (Nat.le_refl _) _
  have C1 := Lib.hid (C.out.later hb1)
  have B1 : Hid (Below w.heap.size w (w1.alloc (.cells #[.int .i64 10, .int .i64 500] TPrice))) := B.out.trans (hb1.mono B.out.size)
  clear C B hb1
  go_wp2_with fail
  generalize w1.alloc (.cells #[.int .i64 10, .int .i64 500] TPrice) = W at RP C1 B1 ⊢
  have hprs : Prs W (some ⟨w1.heap.size, 0, none⟩) P1.ps := fun j hj => by
    obtain rfl : j = 0 := by simp [P1] at hj; exact hj
    exact ⟨_, 0, rfl, RP.out.lt, RP.out.cell 0, RP.out.cell 1⟩
  have K1 := Lib.hid (ct_add C1.out P1 (some ⟨w1.heap.size, 0, none⟩) 1 hprs ⟨by decide, by decide⟩ (by omega) (by simp))
  clear hprs RP
  rw [add1] at K1
  refine K1.out.mono ?_
  rintro _ w2 ⟨rfl, hg⟩
  obtain ⟨F2, K2, c2, l2, f2, b2⟩ := goes_step hg B1.out HF.out B1.out.size
  have hM : upd (fun _ => none) 1 P1 1 = some P1 := upd_same _ _ _
  generalize upd (fun _ => none) 1 P1 = M at c2 hM
  have HM := Lib.hid hM
  have C2 := Lib.hid c2
  have B2 := Lib.hid b2
  have HF2 := Lib.hid f2
  have HL2 := Lib.hid l2
  clear hg c2 b2 f2 hM C1 B1 HF K1 l2
  go_wp2_with fail
  have KK3 := Lib.hid (ct_reprice C2.out 1 ⟨by decide, by decide⟩ ⟨20, 700⟩ (by omega))
  rw [show repriceM M 1 ⟨20, 700⟩ = (upd M 1 P2, 0) from rep_ok HM.out (by decide) (by decide) (by decide)] at KK3
  refine KK3.out.mono ?_
  rintro _ w3 ⟨rfl, hg⟩
  obtain ⟨F3, K3, c3, l3, f3, b3⟩ := goes_step hg B2.out HF2.out B2.out.size
  have hM3 : upd M 1 P2 1 = some P2 := upd_same _ _ _
  generalize upd M 1 P2 = M3 at c3 hM3
  have HM3 := Lib.hid hM3
  clear hM3
  have C3 := Lib.hid c3
  have B3 := Lib.hid b3
  have HF3 := Lib.hid f3
  clear hg c3 b3 f3 l3 C2 B2 HF2 KK3
  go_wp2_with fail
  have KK4 := Lib.hid (ct_price C3.out 1 ⟨by decide, by decide⟩ 9)
  unfold PriceRes at KK4
  rw [show priceT M3 1 9 = (0, 9) from (price_is HM3.out (by decide)).trans (by decide)] at KK4
  refine KK4.out.mono ?_
  rintro _ w4 ⟨rfl, hb⟩
  have C4 := Lib.hid (C3.out.later hb)
  have B4 : Hid (Below w.heap.size w w4) := B3.out.trans (hb.mono B3.out.size)
  have HF4 := HF3
  clear hb C3 B3 KK4
  go_wp2_with fail
  have KK5 := Lib.hid (ct_price C4.out 1 ⟨by decide, by decide⟩ 19)
  unfold PriceRes at KK5
  rw [show priceT M3 1 19 = (500, 0) from (price_is HM3.out (by decide)).trans (by decide)] at KK5
  refine KK5.out.mono ?_
  rintro _ w5 ⟨rfl, hb⟩
  have C5 := Lib.hid (C4.out.later hb)
  have B5 : Hid (Below w.heap.size w w5) := B4.out.trans (hb.mono B4.out.size)
  have HF5 := HF4
  clear hb C4 B4 KK5
  go_wp2_with fail
  have KK6 := Lib.hid (ct_price C5.out 1 ⟨by decide, by decide⟩ 20)
  unfold PriceRes at KK6
  rw [show priceT M3 1 20 = (700, 0) from (price_is HM3.out (by decide)).trans (by decide)] at KK6
  refine KK6.out.mono ?_
  rintro _ w6 ⟨rfl, hb⟩
  have C6 := Lib.hid (C5.out.later hb)
  have B6 : Hid (Below w.heap.size w w6) := B5.out.trans (hb.mono B5.out.size)
  have HF6 := HF5
  clear hb C5 B5 KK6
  go_wp2_with fail
  have KK7 := Lib.hid (ct_reprice C6.out 1 ⟨by decide, by decide⟩ ⟨20, 800⟩ (by omega))
  rw [rep_no9 HM3.out (by decide) (by decide)] at KK7
  refine KK7.out.mono ?_
  rintro _ w7 ⟨rfl, hg⟩
  obtain ⟨F7, K7, c7, l7, f7, b7⟩ := goes_step hg B6.out HF6.out B6.out.size
  have C7 := Lib.hid c7
  have B7 := Lib.hid b7
  have HF7 := Lib.hid f7
  clear hg c7 b7 f7 l7 C6 B6 HF6 KK7
  go_wp2_with fail
  have KK8 := Lib.hid (ct_retire C7.out 1 ⟨by decide, by decide⟩ 30 (by omega))
  rw [show retireM M3 1 30 = (upd M3 1 P3, 0) from ret_ok HM3.out (by decide) (by decide)] at KK8
  refine KK8.out.mono ?_
  rintro _ w8 ⟨rfl, hg⟩
  obtain ⟨F8, K8, c8, l8, f8, b8⟩ := goes_step hg B7.out HF7.out B7.out.size
  have hM8 : upd M3 1 P3 1 = some P3 := upd_same _ _ _
  generalize upd M3 1 P3 = M8 at c8 hM8
  have HM8 := Lib.hid hM8
  clear hM8
  have C8 := Lib.hid c8
  have B8 := Lib.hid b8
  have HF8 := Lib.hid f8
  clear hg c8 b8 f8 l8 C7 B7 HF7 KK8
  go_wp2_with fail
  have KK9 := Lib.hid (ct_retire C8.out 1 ⟨by decide, by decide⟩ 31 (by omega))
  rw [ret_no9 HM8.out (by decide) (by decide)] at KK9
  refine KK9.out.mono ?_
  rintro _ w9 ⟨rfl, hg⟩
  obtain ⟨F9, K9, c9, l9, f9, b9⟩ := goes_step hg B8.out HF8.out B8.out.size
  have C9 := Lib.hid c9
  have B9 := Lib.hid b9
  have HF9 := Lib.hid f9
  clear hg c9 b9 f9 l9 C8 B8 HF8 KK9
  go_wp2_with fail
  have KK10 := Lib.hid (ct_price C9.out 1 ⟨by decide, by decide⟩ 30)
  unfold PriceRes at KK10
  rw [show priceT M8 1 30 = (700, 0) from (price_is HM8.out (by decide)).trans (by decide)] at KK10
  refine KK10.out.mono ?_
  rintro _ w10 ⟨rfl, hb⟩
  have C10 := Lib.hid (C9.out.later hb)
  have B10 : Hid (Below w.heap.size w w10) := B9.out.trans (hb.mono B9.out.size)
  have HF10 := HF9
  clear hb C9 B9 KK10
  go_wp2_with fail
  have KK11 := Lib.hid (ct_reprice C10.out 1 ⟨by decide, by decide⟩ ⟨30, 1⟩ (by omega))
  rw [rep_no9 HM8.out (by decide) (by decide)] at KK11
  refine KK11.out.mono ?_
  rintro _ w11 ⟨rfl, hg⟩
  obtain ⟨F11, K11, c11, l11, f11, b11⟩ := goes_step hg B10.out HF10.out B10.out.size
  have C11 := Lib.hid c11
  have B11 := Lib.hid b11
  have HF11 := Lib.hid f11
  clear hg c11 b11 f11 l11 C10 B10 HF10 KK11
  go_wp2_with fail
  have KK12 := Lib.hid (ct_reprice C11.out 1 ⟨by decide, by decide⟩ ⟨25, 1⟩ (by omega))
  rw [show repriceM M8 1 ⟨25, 1⟩ = (upd M8 1 P4, 0) from rep_ok HM8.out (by decide) (by decide) (by decide)] at KK12
  refine KK12.out.mono ?_
  rintro _ w12 ⟨rfl, hg⟩
  obtain ⟨F12, K12, c12, l12, f12, b12⟩ := goes_step hg B11.out HF11.out B11.out.size
  have hM12 : upd M8 1 P4 1 = some P4 := upd_same _ _ _
  generalize upd M8 1 P4 = M12 at c12 hM12
  have HM12 := Lib.hid hM12
  clear hM12
  have C12 := Lib.hid c12
  have B12 := Lib.hid b12
  have HF12 := Lib.hid f12
  clear hg c12 b12 f12 l12 C11 B11 HF11 KK12
  go_wp2_with fail
  have KK13 := Lib.hid (ct_sold C12.out 1 ⟨by decide, by decide⟩ 29)
  skip
  rw [show soldT M12 1 29 = true from by unfold soldT; rw [price_is HM12.out (by decide), HM12.out]; decide] at KK13
  refine KK13.out.mono ?_
  rintro _ w13 ⟨rfl, hb⟩
  have C13 := Lib.hid (C12.out.later hb)
  have B13 : Hid (Below w.heap.size w w13) := B12.out.trans (hb.mono B12.out.size)
  have HF13 := HF12
  clear hb C12 B12 KK13
  go_wp2_with fail
  have KK14 := Lib.hid (ct_sold C13.out 1 ⟨by decide, by decide⟩ 30)
  skip
  rw [show soldT M12 1 30 = false from by unfold soldT; rw [price_is HM12.out (by decide), HM12.out]; decide] at KK14
  refine KK14.out.mono ?_
  rintro _ w14 ⟨rfl, hb⟩
  have C14 := Lib.hid (C13.out.later hb)
  have B14 : Hid (Below w.heap.size w w14) := B13.out.trans (hb.mono B13.out.size)
  have HF14 := HF13
  clear hb C13 B13 KK14
  go_wp2_with fail
  go_ret
  exact ⟨rfl, B14.out⟩
end Go.Proofs.Ytakpoabpgdmneaa.Pl
