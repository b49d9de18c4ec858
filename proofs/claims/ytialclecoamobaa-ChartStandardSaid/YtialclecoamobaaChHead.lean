/- Package chart: the calls whose answers the document fixes. -/
import Derived.Test.YtialclecoamobaaChCt
namespace Go.Proofs.Ytialclecoamobaa.Ch
open Go Go.RowKit Ck Go.Maps
theorem validB_of (a : A5) (h1 : 1 ≤ a.code ∧ a.code ≤ 9999) (h2 : sideM a.cls ≠ 0) (h3 : a.name.data.toList.isEmpty = false) (h4 : a.name.size ≤ 60) (h5 : a.shut = false) : a.validB = true := by
  unfold A5.validB
  rw [ByteArray.toList_eq, h3, h5]
  simp [h1.1, h1.2, h2, h4]
def HM0 : Int → Option Acc := fun _ => none
def HM1 : Int → Option Acc := upd HM0 1 ⟨1, 0, 1, ⟨#[97]⟩, false, 1, 0⟩
def HM2 : Int → Option Acc := upd (upd HM1 1 ⟨1, 0, 1, ⟨#[97]⟩, false, 1, 1⟩) 2 ⟨2, 1, 1, ⟨#[98]⟩, false, 2, 0⟩
def HM3 : Int → Option Acc := upd HM2 2 ⟨2, 1, 1, ⟨#[98]⟩, true, 2, 0⟩
def HM4 : Int → Option Acc := upd HM3 1 ⟨1, 0, 1, ⟨#[97]⟩, true, 1, 1⟩
def HA1 : A5 := ⟨1, 0, 1, ⟨#[97]⟩, false⟩
def HA2 : A5 := ⟨2, 1, 1, ⟨#[98]⟩, false⟩
def HA3 : A5 := ⟨3, 2, 3, ⟨#[99]⟩, false⟩
def HA4 : A5 := ⟨4, 1, 1, ⟨#[100]⟩, false⟩
theorem fits_of {a : A5} (h1 : I64 a.code) (h2 : I64 a.up) (h3 : a.name.size ≤ 9223372036854775807) : a.Fits := ⟨h1, h2, h3⟩
theorem hv1 : HA1.validB = true := validB_of _ (by decide) (by decide) rfl (by decide) rfl
theorem hf1 : HA1.Fits := ⟨by unfold I64; decide, by unfold I64; decide, by decide⟩
theorem hv2 : HA2.validB = true := validB_of _ (by decide) (by decide) rfl (by decide) rfl
theorem hf2 : HA2.Fits := ⟨by unfold I64; decide, by unfold I64; decide, by decide⟩
theorem hv3 : HA3.validB = true := validB_of _ (by decide) (by decide) rfl (by decide) rfl
theorem hf3 : HA3.Fits := ⟨by unfold I64; decide, by unfold I64; decide, by decide⟩
theorem hv4 : HA4.validB = true := validB_of _ (by decide) (by decide) rfl (by decide) rfl
theorem hf4 : HA4.Fits := ⟨by unfold I64; decide, by unfold I64; decide, by decide⟩
theorem he1 : addM HM0 HA1 = (HM1, 0) := by
  unfold addM
  rw [if_neg (by rw [hv1]; decide)]
  rfl
theorem he2 : addM HM1 HA2 = (HM2, 0) := by
  unfold addM
  rw [if_neg (by rw [hv2]; decide)]
  rfl
theorem he3 : addM HM2 HA3 = (HM2, 9) := by
  unfold addM
  rw [if_neg (by rw [hv3]; decide)]
  rfl
theorem he4 : addM HM4 HA4 = (HM4, 9) := by
  unfold addM
  rw [if_neg (by rw [hv4]; decide)]
  rfl
theorem hk2 : Ks HM2 [1, 2] := ⟨by unfold Up; decide, fun c => by
  unfold HM2 HM1 HM0 upd
  by_cases h1 : c = 1
  · subst h1; simp
  · by_cases h2 : c = 2
    · subst h2; simp
    · simp [h1, h2]⟩
theorem hk3 : Ks HM3 [1, 2] := hk2.old rfl _
theorem hk4 : Ks HM4 [1, 2] := hk3.old rfl _
theorem hu2 : undL HM2 [1, 2] 1 = [1, 2] := by decide
theorem hs1 : shutM HM2 [1, 2] 1 = (HM2, 9) := by rfl
theorem hs2 : shutM HM2 [1, 2] 2 = (HM3, 0) := by rfl
theorem hs3 : shutM HM3 [1, 2] 1 = (HM4, 0) := by rfl
theorem hl1 : leafM HM4 1 = false := by decide
theorem hl2 : leafM HM4 2 = true := by decide
theorem i64_1 : I64 1 := by unfold I64; decide
theorem i64_2 : I64 2 := by unfold I64; decide

set_option maxRecDepth 100000 in
set_option maxHeartbeats 3200000 in
theorem head_c (w : World) : Calls Try.prog 7 #[] w fun e w' => e = .returned (.bool true) ∧ Below w.heap.size w w' := by
  have KN := Lib.hid (ct_new w)
  go_enter Try.func7, Try.ntmps7
  go_wp2_with fail
  refine KN.out.mono ?_
  rintro e w1 ⟨c, rfl, h1, l1⟩
  have H1 := Lib.hid h1
  have L1 := Lib.hid l1
  clear h1 l1 KN
  go_wp2_with fail
  have KA := Lib.hid (ct_add H1.out L1.out.b.size HA1 hf1 (by omega))
  rw [show addM (fun _ => none) HA1 = (HM1, 0) from he1] at KA
  unfold HA1 A5.val at KA
  simp only at KA
  go_wp2_with fail
  refine KA.out.mono ?_
  rintro e w2 ⟨rfl, ⟨K2, h2⟩, l2⟩
  have H2 := Lib.hid h2
  have L2 : Hid (Left w.heap.size w w2) := L1.out.trans l2
  clear h2 l2 KA
  have KA := Lib.hid (ct_add H2.out L2.out.b.size HA2 hf2 (by omega))
  rw [he2] at KA
  unfold HA2 A5.val at KA
  simp only at KA
  go_wp2_with fail
  refine KA.out.mono ?_
  rintro e w3 ⟨rfl, ⟨K3, h3⟩, l3⟩
  have H3 := Lib.hid h3
  have L3 : Hid (Left w.heap.size w w3) := L2.out.trans l3
  clear h3 l3 KA
  obtain rfl : K3 = [1, 2] := H3.out.gm.ks.unique hk2
  have KA := Lib.hid (ct_add H3.out L3.out.b.size HA3 hf3 (by omega))
  rw [he3] at KA
  unfold HA3 A5.val at KA
  simp only at KA
  go_wp2_with fail
  refine KA.out.mono ?_
  rintro e w4 ⟨rfl, ⟨K4, h4⟩, l4⟩
  have H4 := Lib.hid h4
  have L4 : Hid (Left w.heap.size w w4) := L3.out.trans l4
  clear h4 l4 KA
  obtain rfl : K4 = [1, 2] := H4.out.gm.ks.unique hk2
  have KU := Lib.hid (ct_under H4.out 1 i64_1)
  rw [hu2] at KU
  unfold IntsRes at KU
  go_wp2_with fail
  refine KU.out.mono ?_
  rintro e w5 ⟨v, rfl, hv, hb⟩
  have H5 := Lib.hid (H4.out.later hb)
  have L5 : Hid (Left w.heap.size w w5) := L4.out.trans (Left.of hb L4.out.b.size)
  obtain ⟨va, vc, rfl⟩ := own_form hv
  have H5f : Hid (Cf w.heap.size (.slice va 2 vc) w5 c HM2 [1, 2] 3) := H4.out.cf hb fun j hj => (hv.lt j hj).1
  have V5 : Hid (w5.ownsRow w4.heap.size TInt 1 (.slice va 2 vc) 2 ([1, 2].map iv)) := hv
  clear hb hv KU H5
  go_wp2_with fail
  have KA := Lib.hid (cf_shut H5f.out L5.out.b.size V5.out 1 i64_1 (by omega))
  rw [hs1] at KA
  go_wp2_with fail
  refine KA.out.mono ?_
  rintro e w6 ⟨rfl, ⟨K6, h6⟩, l6, v6⟩
  obtain rfl : K6 = [1, 2] := h6.ct.gm.ks.unique hk2
  have H6f := Lib.hid h6
  have V6 := Lib.hid v6
  have L6 : Hid (Left w.heap.size w w6) := L5.out.trans l6
  clear h6 l6 v6 KA
  have KA := Lib.hid (cf_shut H6f.out L6.out.b.size V6.out 2 i64_2 (by omega))
  rw [hs2] at KA
  go_wp2_with fail
  refine KA.out.mono ?_
  rintro e w7 ⟨rfl, ⟨K7, h7⟩, l7, v7⟩
  obtain rfl : K7 = [1, 2] := h7.ct.gm.ks.unique hk3
  have H7f := Lib.hid h7
  have V7 := Lib.hid v7
  have L7 : Hid (Left w.heap.size w w7) := L6.out.trans l7
  clear h7 l7 v7 KA
  have KA := Lib.hid (cf_shut H7f.out L7.out.b.size V7.out 1 i64_1 (by omega))
  rw [hs3] at KA
  go_wp2_with fail
  refine KA.out.mono ?_
  rintro e w8 ⟨rfl, ⟨K8, h8⟩, l8, v8⟩
  obtain rfl : K8 = [1, 2] := h8.ct.gm.ks.unique hk4
  have H8f := Lib.hid h8
  have V8 := Lib.hid v8
  have L8 : Hid (Left w.heap.size w w8) := L7.out.trans l8
  clear h8 l8 v8 KA
  have KA := Lib.hid (cf_add H8f.out L8.out.b.size V8.out HA4 hf4 (by omega))
  rw [he4] at KA
  unfold HA4 A5.val at KA
  simp only at KA
  go_wp2_with fail
  refine KA.out.mono ?_
  rintro e w9 ⟨rfl, ⟨K9, h9⟩, l9, v9⟩
  obtain rfl : K9 = [1, 2] := h9.ct.gm.ks.unique hk4
  have H9f := Lib.hid h9
  have V9 := Lib.hid v9
  have L9 : Hid (Left w.heap.size w w9) := L8.out.trans l9
  clear h9 l9 v9 KA
  have R9 : Hid (Rw (w9.alloc (.cells #[.int .i64 1, .int .i64 2] TInt)) w9.heap.size TInt [.int .i64 1, .int .i64 2]) := Rw.new w9 [.int .i64 1, .int .i64 2] TInt
  have B9 : Hid (Below w9.heap.size w9 (w9.alloc (.cells #[.int .i64 1, .int .i64 2] TInt))) := (Below.refl _ w9).alloc (Nat.le_refl _) _
  go_wp2_with fail
  generalize w9.alloc (.cells #[.int .i64 1, .int .i64 2] TInt) = w10 at R9 B9 ⊢
  have I1 : Hid (Ins w10 va [1, 2]) := by
    obtain ⟨a, cap, e, h, _⟩ := ins_own (own_later V9.out B9.out) rfl
    cases e
    exact h
  have I2 : Hid (Ins w10 (some ⟨w9.heap.size, 0, none⟩) [1, 2]) := fun i hi => ⟨w9.heap.size, 0, rfl, R9.out.lt, by
    rw [Nat.zero_add, R9.out.cell]
    match i, hi with
    | 0, _ => rfl
    | 1, _ => rfl⟩
  have H10 := Lib.hid (H9f.out.ct.later B9.out)
  have L10 : Hid (Left w.heap.size w w10) := L9.out.trans (Left.of B9.out L9.out.b.size)
  have KS := Lib.hid (same_ints [1, 2] _ _ vc 2 w10 I1.out I2.out (by decide))
  simp only [List.length_cons, List.length_nil] at KS
  clear B9 I1 I2 R9 V9
  refine KS.out.mono ?_
  rintro e w11 ⟨rfl, hb⟩
  have H11 := Lib.hid (H10.out.later hb)
  have L11 : Hid (Left w.heap.size w w11) := L10.out.trans (Left.of hb L10.out.b.size)
  have KL := Lib.hid (ct_leaf H11.out 1 i64_1)
  rw [hl1] at KL
  clear hb KS
  go_wp2_with fail
  refine KL.out.mono ?_
  rintro e w12 ⟨rfl, hb⟩
  have H12 := Lib.hid (H11.out.later hb)
  have L12 : Hid (Left w.heap.size w w12) := L11.out.trans (Left.of hb L11.out.b.size)
  have KL2 := Lib.hid (ct_leaf H12.out 2 i64_2)
  rw [hl2] at KL2
  clear hb KL
  go_wp2_with fail
  refine KL2.out.mono ?_
  rintro e w13 ⟨rfl, hb⟩
  have L13 : Hid (Left w.heap.size w w13) := L12.out.trans (Left.of hb L12.out.b.size)
  have KT := Lib.hid std_c
  have KT2 := Lib.hid rstd_c
  clear hb KL2
  go_wp2_with fail
  refine (KT.out _).mono ?_
  rintro e w14 ⟨b1, rfl, _, hr1, hb1⟩
  have R1 := Lib.hid hr1
  have L14 : Hid (Left w.heap.size w w14) := L13.out.trans (Left.of hb1 L13.out.b.size)
  clear hr1 hb1
  go_wp2_with fail
  refine (KT2.out _).mono ?_
  rintro e w15 ⟨b2, rfl, _, hr2, hb2⟩
  have L15 : Hid (Left w.heap.size w w15) := L14.out.trans (Left.of hb2 L14.out.b.size)
  have KS := Lib.hid (same_accs stdL _ _ 6 6 w15 (acs_rw (R1.out.later hb2)) (acs_rw hr2) (by decide))
  rw [show stdL.length = 6 from rfl] at KS
  clear hr2 hb2
  go_wp2_with fail
  refine KS.out.mono ?_
  rintro e w16 ⟨rfl, hb⟩
  have L16 : Hid (Left w.heap.size w w16) := L15.out.trans (Left.of hb L15.out.b.size)
  clear hb KS
  go_wp2_with fail
  go_ret
  exact ⟨rfl, L16.out.b⟩
end Go.Proofs.Ytialclecoamobaa.Ch
