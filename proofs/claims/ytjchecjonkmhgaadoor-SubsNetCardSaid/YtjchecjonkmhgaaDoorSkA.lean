/- Joined: SuSum SuNet0 SuNet1 SuTus. -/
import Derived.Test.YtjchecjonkmhgaaDoorSjB
import Derived.Deep.RegionWith
import Derived.Test.YtjchecjonkmhgaaDoorSuWh0
import Derived.Maps.AppendAt
import Derived.Test.YtjchecjonkmhgaaDoorSuAll1
import Derived.Test.YtjchecjonkmhgaaDoorSuDue
import Derived.Test.YtjchecjonkmhgaaDoorSuInv
import Derived.Deep.DeepCutAuto
import Derived.Deep.RegionHeld3
import Derived.Test.YtjchecjonkmhgaaDoorSuOpen
section
namespace Go.Proofs.YtjchecjonkmhgaaDoor
open Go.RowKit
set_option maxHeartbeats 400000 in
theorem less_c (h l h' l' : Int) (w : World) (h1 : h < 18446744073709551616) (l0 : 0 ≤ l) (l1 : l < 18446744073709551616) (h0' : 0 ≤ h') (l0' : 0 ≤ l') (l1' : l' < 18446744073709551616)
    (hle : h' * 18446744073709551616 + l' ≤ h * 18446744073709551616 + l) :
    Calls Tryd.prog 47 #[.agg #[.int .u64 h, .int .u64 l], .agg #[.int .u64 h', .int .u64 l']] w fun e w' =>
      e = .returned (.agg #[.int .u64 ((h * 18446744073709551616 + l - (h' * 18446744073709551616 + l')) / 18446744073709551616), .int .u64 ((h * 18446744073709551616 + l - (h' * 18446744073709551616 + l')) % 18446744073709551616)]) ∧ Below w.heap.size w w' := by
  by_cases hc : l < l'
  · have hw : IntKind.u64.wrap (l - l') = l - l' + 18446744073709551616 := by rw [IntKind.wrap_u64]; omega
    go_enter Tryd.func47, Tryd.ntmps47
    go_wp2
    exact bodyPost_ret (v := .agg #[.int .u64 ((h * 18446744073709551616 + l - (h' * 18446744073709551616 + l')) / 18446744073709551616), .int .u64 ((h * 18446744073709551616 + l - (h' * 18446744073709551616 + l')) % 18446744073709551616)]) (by simp [results, Tryd.results47, go_sem]; omega) rfl ⟨rfl, (((Below.refl _ _).alloc (Nat.le_refl _) _).alloc (by simp) _).alloc (by simp; omega) _⟩
  · go_enter Tryd.func47, Tryd.ntmps47
    go_wp2
    exact bodyPost_ret (v := .agg #[.int .u64 ((h * 18446744073709551616 + l - (h' * 18446744073709551616 + l')) / 18446744073709551616), .int .u64 ((h * 18446744073709551616 + l - (h' * 18446744073709551616 + l')) % 18446744073709551616)]) (by simp [results, Tryd.results47, go_sem]; omega) rfl ⟨rfl, (((Below.refl _ _).alloc (Nat.le_refl _) _).alloc (by simp) _).alloc (by simp; omega) _⟩
set_option maxHeartbeats 400000 in
theorem below_c (h l h' l' : Int) (w : World) (b : Bool) (l0 : 0 ≤ l) (l1 : l < 18446744073709551616) (l0' : 0 ≤ l') (l1' : l' < 18446744073709551616)
    (hb : b = decide (h * 18446744073709551616 + l < h' * 18446744073709551616 + l')) :
    Calls Tryd.prog 45 #[.agg #[.int .u64 h, .int .u64 l], .agg #[.int .u64 h', .int .u64 l']] w fun e w' => e = .returned (.bool b) ∧ Below w.heap.size w w' := by
  have HB := Lib.hid hb
  clear hb
  by_cases c1 : h < h'
  · go_enter Tryd.func45, Tryd.ntmps45
    go_wp2
    go_ret
    exact ⟨ret_bool (by rw [HB.out, decide_eq_true (by omega)]), ((Below.refl _ _).alloc (Nat.le_refl _) _).alloc (by simp) _⟩
  by_cases c2 : h = h'
  · subst c2
    by_cases c3 : l < l'
    · go_enter Tryd.func45, Tryd.ntmps45
      go_wp2
      go_ret
      exact ⟨ret_bool (by rw [HB.out, decide_eq_true (by omega)]), ((Below.refl _ _).alloc (Nat.le_refl _) _).alloc (by simp) _⟩
    · go_enter Tryd.func45, Tryd.ntmps45
      go_wp2
      go_ret
      exact ⟨ret_bool (by rw [HB.out, decide_eq_false (by omega)]), ((Below.refl _ _).alloc (Nat.le_refl _) _).alloc (by simp) _⟩
  · go_enter Tryd.func45, Tryd.ntmps45
    go_wp2
    go_ret
    exact ⟨ret_bool (by rw [HB.out, decide_eq_false (by omega)]), ((Below.refl _ _).alloc (Nat.le_refl _) _).alloc (by simp) _⟩
theorem below_is (U D : Int) (w : World) (b : Bool) (_u0 : 0 ≤ U) (_d0 : 0 ≤ D) (hb : decide (U < D) = b) :
    Calls Tryd.prog 45 #[.agg #[.int .u64 (U / 18446744073709551616), .int .u64 (U % 18446744073709551616)], .agg #[.int .u64 (D / 18446744073709551616), .int .u64 (D % 18446744073709551616)]] w fun e w' => e = .returned (.bool b) ∧ Below w.heap.size w w' :=
  below_c _ _ _ _ w b (by omega) (by omega) (by omega) (by omega) (by rw [Ar.words, Ar.words, hb])
theorem less_is (U D : Int) (w : World) (_u0 : 0 ≤ D) (_h : D ≤ U) (_u1 : U ≤ 85070591730234615865843651857942052864) :
    Calls Tryd.prog 47 #[.agg #[.int .u64 (U / 18446744073709551616), .int .u64 (U % 18446744073709551616)], .agg #[.int .u64 (D / 18446744073709551616), .int .u64 (D % 18446744073709551616)]] w fun e w' =>
      e = .returned (.agg #[.int .u64 ((U - D) / 18446744073709551616), .int .u64 ((U - D) % 18446744073709551616)]) ∧ Below w.heap.size w w' := by
  have := less_c (U / 18446744073709551616) (U % 18446744073709551616) (D / 18446744073709551616) (D % 18446744073709551616) w (by omega) (by omega) (by omega) (by omega) (by omega) (by omega) (by rw [Ar.words, Ar.words]; omega)
  rwa [Ar.words, Ar.words] at this
set_option maxRecDepth 100000 in
set_option maxHeartbeats 1600000 in
theorem sum_c (b off len cap : Nat) (zs : List Int) (w : World) (hb : b < w.heap.size) (hl : len ≤ zs.length) (hm : len ≤ 17592186044416) (hz : ∀ x ∈ zs, -9223372036854775808 ≤ x ∧ x ≤ 9223372036854775807)
    (hc : ∀ j, j < zs.length → w.cell? ⟨b, off + j, none⟩ = some (.int .i64 (zs.getD j 0))) :
    Calls Tryd.prog 23 #[.slice (some ⟨b, off, none⟩) len cap] w (Told (zs.take len).sum w) := by
  have hmf := makeF
  have hstart : Two w.heap.size 0 0 ((w.alloc (.cells #[.int .u64 0, .int .u64 0] 94)).alloc (.cells #[.int .u64 0, .int .u64 0] 94)) := by
    constructor <;> simp [go_sem]
  have HS := Lib.hid hstart
  clear hstart
  go_enter Tryd.func23, Tryd.ntmps23
  go_wp2
  go_loopw [7, 13] (fun _ s wr => ∃ k : Nat, k ≤ len ∧ s = .int .i64 k ∧ Two w.heap.size (Ar.posS (zs.take k)) (Ar.negS (zs.take k)) wr ∧ Below w.heap.size w wr) (fun _ s _ => len - (intOf s).toNat)
  case atStart => exact ⟨0, by omega, rfl, HS.out, by repeat (first | exact Below.refl _ _ | refine Below.alloc ?_ (by simp) _)⟩
  case round =>
    obtain ⟨k, hk, rfl, hT, hB⟩ := hrel
    clear HS
    by_cases hlt : k < len
    · have hcell : wr.cell? ⟨b, off + k, none⟩ = some (.int .i64 (zs.getD k 0)) := by rw [hB.cell hb]; exact hc k (by omega)
      have hbd := hz (zs.getD k 0) (by simp [show k < zs.length by omega])
      have hsn := Ar.sums_bd (zs.take k) (fun x hx => hz x (List.mem_of_mem_take hx))
      have hlen : (zs.take k).length ≤ k := List.length_take_le _ _
      have hlen' : ((zs.take k).length : Int) ≤ 17592186044416 := by omega
      have hts := Ar.take_snoc zs k (by omega)
      have HP := Lib.hid (show Ar.posS (zs.take (k + 1)) = Ar.posS (zs.take k) + if zs.getD k 0 < 0 then 0 else zs.getD k 0 by rw [hts, Ar.posS_snoc])
      have HN := Lib.hid (show Ar.negS (zs.take (k + 1)) = Ar.negS (zs.take k) + if zs.getD k 0 < 0 then -zs.getD k 0 else 0 by rw [hts, Ar.negS_snoc])
      clear hts hlen hc hz
      obtain ⟨x, hx⟩ : ∃ x, x = zs.getD k 0 := ⟨_, rfl⟩
      rw [← hx] at hcell hbd HP HN
      clear hx
      generalize zs.take k = t0 at *
      obtain ⟨p0, p1, n0, n1⟩ := hsn
      have hps : Ar.posS t0 ≤ 162259276829213363391578010288128 := by omega
      have hns : Ar.negS t0 ≤ 162259276829213363391578010288128 := by omega
      clear p1 n1 hlen'
      obtain ⟨u0, u1, d0, d1, f0, f1, f2, f3, sz⟩ := id hT
      have HT := Lib.hid hT
      clear hT
      generalize hP : Ar.posS t0 = U at *
      generalize hN : Ar.negS t0 = D at *
      clear hP hN
      by_cases hneg : x < 0
      · have HPN := Lib.hid (show Ar.posS (zs.take (k + 1)) = U ∧ Ar.negS (zs.take (k + 1)) = D + -x by rw [HP.out, HN.out, if_pos hneg, if_pos hneg]; exact ⟨by omega, rfl⟩)
        clear HP HN
        go_wp2
        go_region_with (first | (go_at_call 44; refine (magnitude_is x (-x) _ hbd.1 hbd.2 (by unfold Ar.mag; split <;> omega)).mono ?_; rintro e w' ⟨rfl, rfl⟩) | (go_at_call 43; refine (plus_is D (-x) _ (by omega) (by omega) (by omega) (by omega)).mono ?_; rintro e w5 ⟨rfl, hb5⟩; have T5 := Two.later (by first | exact HT.out | exact HT.out.drew | exact HT.out.drew.drew) hb5; have B5 : Below w.heap.size w w5 := (by first | exact hB.trans (hb5.mono hB.size) | exact hB.drew.trans (hb5.mono hB.size) | exact hB.drew.drew.trans (hb5.mono hB.size)); clear hb5; obtain ⟨v0, v1, e0, e1, g0, g1, g2, g3, sz5⟩ := id T5))
        all_goals
          go_wp2
          exact ⟨⟨k + 1, by omega, by go_num, ⟨by simp [go_sem, HPN.out.1, v0], by simp [go_sem, HPN.out.1, v1], by simp [go_sem, HPN.out.2, e0], by simp [go_sem, HPN.out.2, e1], by simp [go_sem, g0], by simp [go_sem, g1], by simp [go_sem, g2], by simp [go_sem, g3], by simp [go_sem, sz5]⟩, (B5.setCell (by simp) _).setCell (by simp) _⟩, by simp [intOf]; omega⟩
      · have HPN := Lib.hid (show Ar.posS (zs.take (k + 1)) = U + x ∧ Ar.negS (zs.take (k + 1)) = D by rw [HP.out, HN.out, if_neg hneg, if_neg hneg]; exact ⟨rfl, by omega⟩)
        clear HP HN
        go_wp2
        go_region_with (first | (go_at_call 44; refine (magnitude_is x x _ hbd.1 hbd.2 (by unfold Ar.mag; split <;> omega)).mono ?_; rintro e w' ⟨rfl, rfl⟩) | (go_at_call 43; refine (plus_is U x _ (by omega) (by omega) (by omega) (by omega)).mono ?_; rintro e w5 ⟨rfl, hb5⟩; have T5 := Two.later (by first | exact HT.out | exact HT.out.drew | exact HT.out.drew.drew) hb5; have B5 : Below w.heap.size w w5 := (by first | exact hB.trans (hb5.mono hB.size) | exact hB.drew.trans (hb5.mono hB.size) | exact hB.drew.drew.trans (hb5.mono hB.size)); clear hb5; obtain ⟨v0, v1, e0, e1, g0, g1, g2, g3, sz5⟩ := id T5))
        all_goals
          go_wp2
          exact ⟨⟨k + 1, by omega, by go_num, ⟨by simp [go_sem, HPN.out.1, v0], by simp [go_sem, HPN.out.1, v1], by simp [go_sem, HPN.out.2, e0], by simp [go_sem, HPN.out.2, e1], by simp [go_sem, g0], by simp [go_sem, g1], by simp [go_sem, g2], by simp [go_sem, g3], by simp [go_sem, sz5]⟩, (B5.setCell (by simp) _).setCell (by simp) _⟩, by simp [intOf]; omega⟩
    · obtain rfl : k = len := by omega
      have hsn := Ar.sums_bd (zs.take k) (fun x hx => hz x (List.mem_of_mem_take hx))
      have hlen : (zs.take k).length ≤ k := List.length_take_le _ _
      have hlen' : ((zs.take k).length : Int) ≤ 17592186044416 := by omega
      have HE := Lib.hid (Ar.sum_parts (zs.take k))
      clear hlen hc hz hlt
      obtain ⟨p0, p1, n0, n1⟩ := hsn
      have hps : Ar.posS (zs.take k) ≤ 162259276829213363391578010288128 := by omega
      have hns : Ar.negS (zs.take k) ≤ 162259276829213363391578010288128 := by omega
      clear p1 n1 hlen'
      obtain ⟨u0, u1, d0, d1, f0, f1, f2, f3, sz⟩ := id hT
      have HT := Lib.hid hT
      clear hT
      generalize Ar.posS (zs.take k) = U at *
      generalize Ar.negS (zs.take k) = D at *
      generalize (zs.take k).sum = S at *
      by_cases hUD : U < D
      · go_wp2_with fail
        refine (below_is U D _ true p0 n0 (decide_eq_true (by omega))).mono ?_
        rintro e w1 ⟨rfl, hb1⟩
        have T1 := HT.out.later hb1
        have B1 : Below w.heap.size w w1 := hB.trans (hb1.mono hB.size)
        clear hb1 u0 u1 d0 d1 f0 f1 f2 f3 sz
        obtain ⟨u0, u1, d0, d1, f0, f1, f2, f3, sz⟩ := id T1
        go_wp2_with fail
        go_region
        go_wp2_with fail
        obtain ⟨wy, hwy⟩ : ∃ wy, wy = ((((w1.setCell ⟨w.heap.size, 0, none⟩ (.int .u64 (D / 18446744073709551616))).setCell ⟨w.heap.size, 1, none⟩ (.int .u64 (D % 18446744073709551616))).setCell ⟨w.heap.size + 1, 0, none⟩ (.int .u64 (U / 18446744073709551616))).setCell ⟨w.heap.size + 1, 1, none⟩ (.int .u64 (U % 18446744073709551616))) := ⟨_, rfl⟩
        rw [← hwy]
        have TY : Two w.heap.size D U wy := by subst hwy; constructor <;> simp [go_sem, u0, u1, d0, d1, f0, f1, f2, f3, sz]
        have BY : Below w.heap.size w wy := by subst hwy; exact (((B1.setCell (by simp) _).setCell (by simp) _).setCell (by simp) _).setCell (by simp) _
        have hyz : wy.heap.size = w1.heap.size := by subst hwy; simp
        try rw [← hyz]
        clear hwy u0 u1 d0 d1 f0 f1 f2 f3 sz T1 B1 hyz HT
        refine (signs1_n (-1) wy.heap.size _ (by simp) (by simp [go_sem]) (by omega)).mono ?_
        rintro e w2 ⟨rfl, hb2, hc2, hz2⟩
        simp at hc2 hz2
        have hs2 := hb2.size
        simp at hs2
        have hyn := TY.sz
        have TA := Two.later TY ((Below.refl _ _).alloc (Nat.le_refl _) (.cells #[.int .i64 (-1)] 2))
        have T2 : Two w.heap.size D U w2 := Two.later (by first | exact TA | exact TA.drew) hb2
        have BA : Below w.heap.size w (wy.alloc (.cells #[.int .i64 (-1)] 2)) := BY.alloc (by omega) _
        have B2 : Below w.heap.size w w2 := by first | exact BA.trans (hb2.mono BA.size) | exact BA.drew.trans (hb2.mono BA.size)
        clear TA BA
        clear hb2
        obtain ⟨u0, u1, d0, d1, f0, f1, f2, f3, sz⟩ := T2
        go_wp2_with fail
        refine (less_is D U _ (by omega) (by omega) (by omega)).mono ?_
        rintro e w3 ⟨rfl, hb3⟩
        have hc3 : w3.cell? ⟨wy.heap.size + 1, 0, none⟩ = some (.bool true) := by rw [hb3.cell (by simpa using hz2)]; exact hc2
        have hs3 := hb3.size
        have B3 := B2.trans (hb3.mono (by omega))
        clear hb3
        go_wp2_with fail
        refine (give_is true (D - U) (Ar.sg true (D - U)) (wy.heap.size + 1) _ (by omega) hc3 (by omega) (by omega) rfl _ _ ⟨rfl, rfl⟩).mono ?_
        rintro e w4 ⟨rfl, hb4⟩
        have B4 := B3.trans (hb4.mono (by omega))
        clear hb4
        go_wp2_with fail
        go_ret2
        have hE : S = Ar.sg true (D - U) := by rw [HE.out]; unfold Ar.sg; simp only [if_true]; omega
        exact ⟨ret_ib (by rw [hE]) (by rw [hE]), B4⟩
      · go_wp2_with fail
        refine (below_is U D _ false p0 n0 (decide_eq_false (by omega))).mono ?_
        rintro e w1 ⟨rfl, hb1⟩
        have T1 := HT.out.later hb1
        have B1 : Below w.heap.size w w1 := hB.trans (hb1.mono hB.size)
        clear hb1 u0 u1 d0 d1 f0 f1 f2 f3 sz
        obtain ⟨u0, u1, d0, d1, f0, f1, f2, f3, sz⟩ := id T1
        go_wp2_with fail
        obtain ⟨wy, hwy⟩ : ∃ wy, wy = w1 := ⟨_, rfl⟩
        rw [← hwy]
        have TY : Two w.heap.size U D wy := by subst hwy; constructor <;> simp [go_sem, u0, u1, d0, d1, f0, f1, f2, f3, sz]
        have BY : Below w.heap.size w wy := by subst hwy; exact B1
        have hyz : wy.heap.size = w1.heap.size := by subst hwy; simp
        try rw [← hyz]
        clear hwy u0 u1 d0 d1 f0 f1 f2 f3 sz T1 B1 hyz HT
        refine (signs1_p 1 wy.heap.size _ (by simp) (by simp [go_sem]) (by omega)).mono ?_
        rintro e w2 ⟨rfl, hb2, hc2, hz2⟩
        simp at hc2 hz2
        have hs2 := hb2.size
        simp at hs2
        have hyn := TY.sz
        have TA := Two.later TY ((Below.refl _ _).alloc (Nat.le_refl _) (.cells #[.int .i64 1] 2))
        have T2 : Two w.heap.size U D w2 := Two.later (by first | exact TA | exact TA.drew) hb2
        have BA : Below w.heap.size w (wy.alloc (.cells #[.int .i64 1] 2)) := BY.alloc (by omega) _
        have B2 : Below w.heap.size w w2 := by first | exact BA.trans (hb2.mono BA.size) | exact BA.drew.trans (hb2.mono BA.size)
        clear TA BA
        clear hb2
        obtain ⟨u0, u1, d0, d1, f0, f1, f2, f3, sz⟩ := T2
        go_wp2_with fail
        refine (less_is U D _ (by omega) (by omega) (by omega)).mono ?_
        rintro e w3 ⟨rfl, hb3⟩
        have hc3 : w3.cell? ⟨wy.heap.size + 1, 0, none⟩ = some (.bool false) := by rw [hb3.cell (by simpa using hz2)]; exact hc2
        have hs3 := hb3.size
        have B3 := B2.trans (hb3.mono (by omega))
        clear hb3
        go_wp2_with fail
        refine (give_is false (U - D) (Ar.sg false (U - D)) (wy.heap.size + 1) _ (by omega) hc3 (by omega) (by omega) rfl _ _ ⟨rfl, rfl⟩).mono ?_
        rintro e w4 ⟨rfl, hb4⟩
        have B4 := B3.trans (hb4.mono (by omega))
        clear hb4
        go_wp2_with fail
        go_ret2
        have hE : S = Ar.sg false (U - D) := by rw [HE.out]; unfold Ar.sg; simp only [Bool.false_eq_true, if_false]
        exact ⟨ret_ib (by rw [hE]) (by rw [hE]), B4⟩
end Go.Proofs.YtjchecjonkmhgaaDoor
end
section
namespace Go.Proofs.YtjchecjonkmhgaaDoor
open Go.RowKit
set_option maxHeartbeats 800000 in
theorem sum_0 (a : Option Addr) (cap : Nat) (w : World) : Calls Tryd.prog 23 #[.slice a 0 cap] w fun e w' => e = .returned (.tuple #[.int .i64 0, .bool true]) ∧ Below w.heap.size w w' := by
  have HS := Lib.hid (show Two w.heap.size 0 0 ((w.alloc (.cells #[.int .u64 0, .int .u64 0] 94)).alloc (.cells #[.int .u64 0, .int .u64 0] 94)) by constructor <;> simp [go_sem])
  have hmf := makeF
  go_enter Tryd.func23, Tryd.ntmps23
  go_wp2
  refine wp_loop_rounds 1 ?_
  rw [rounds_succ]
  go_wp2_with fail
  refine (below_c 0 0 0 0 _ false (by omega) (by omega) (by omega) (by omega) (by decide)).mono ?_
  rintro e w1 ⟨rfl, b1⟩
  have z1 := b1.size
  simp at z1
  have B1 : Below w.heap.size w w1 := (((Below.refl _ _).alloc (Nat.le_refl _) _).alloc (by simp) _).trans (b1.mono (by simp; omega))
  have T1 := HS.out.later b1
  have c0 : w1.cell? ⟨w.heap.size, 0, none⟩ = some (.int .u64 0) := T1.u0
  have c1 : w1.cell? ⟨w.heap.size, 1, none⟩ = some (.int .u64 0) := T1.u1
  have c2 : w1.cell? ⟨w.heap.size + 1, 0, none⟩ = some (.int .u64 0) := T1.d0
  have c3 : w1.cell? ⟨w.heap.size + 1, 1, none⟩ = some (.int .u64 0) := T1.d1
  clear T1 HS
  clear b1
  go_wp2_with fail
  refine (signs1_p 1 w1.heap.size _ (by simp) (by simp [go_sem]) (by omega)).mono ?_
  rintro e w2 ⟨rfl, b2, d1, d2⟩
  simp at d1 d2
  have B2 : Below w.heap.size w w2 := (B1.alloc (by omega) _).trans (b2.mono (by simp; omega))
  have e0 : w2.cell? ⟨w.heap.size, 0, none⟩ = some (.int .u64 0) := by rw [b2.cell (by simp; omega), World.cell?_alloc_past _ _ _ (by omega)]; exact c0
  have e1 : w2.cell? ⟨w.heap.size, 1, none⟩ = some (.int .u64 0) := by rw [b2.cell (by simp; omega), World.cell?_alloc_past _ _ _ (by omega)]; exact c1
  have e2 : w2.cell? ⟨w.heap.size + 1, 0, none⟩ = some (.int .u64 0) := by rw [b2.cell (by simp; omega), World.cell?_alloc_past _ _ _ (by omega)]; exact c2
  have e3 : w2.cell? ⟨w.heap.size + 1, 1, none⟩ = some (.int .u64 0) := by rw [b2.cell (by simp; omega), World.cell?_alloc_past _ _ _ (by omega)]; exact c3
  clear b2 c0 c1 c2 c3
  go_wp2_with fail
  refine (less_is 0 0 _ (by omega) (by omega) (by omega)).mono ?_
  rintro e w3 ⟨rfl, b3⟩
  have B3 := B2.trans (b3.mono B2.size)
  have d3 : w3.cell? ⟨w1.heap.size + 1, 0, none⟩ = some (.bool false) := by rw [b3.cell (by simpa using d2)]; exact d1
  have z3 := b3.size
  clear b3
  go_wp2_with fail
  refine (give_is false 0 0 (w1.heap.size + 1) _ (by omega) d3 (by omega) (by omega) rfl 0 true (by decide)).mono ?_
  rintro e w4 ⟨rfl, b4⟩
  have B4 := B3.trans (b4.mono B3.size)
  go_wp2_with fail
  go_ret2
  exact ⟨rfl, B4⟩

end Go.Proofs.YtjchecjonkmhgaaDoor
namespace Go.Proofs.YtjchecjonkmhgaaDoor.Su
open Go.RowKit Pr Cw An Rf
def vals (s : List Int) : List Value := s.map (Value.int .i64)
theorem vals_app (s t : List Int) : vals (s ++ t) = vals s ++ vals t := List.map_append ..
theorem infoI : (Tryd.prog.info? 2).map (fun i => (i.zero, i.size, i.bytes)) = some (some (.int .i64 0), 1, 8) := by kernel_rfl
/-- The parts of a list in memory, together. -/
theorem asum_own (base : Nat) (v : Value) (xs : List Int) (w : World) (h : w.ownsRow base 2 1 v xs.length (vals xs)) (hl : xs.length ≤ 100000) (hx : ∀ x ∈ xs, I64 x) :
    Calls Tryd.prog 23 #[v] w (Told xs.sum w) := by
  rcases id h.2 with ⟨rfl, h0⟩ | ⟨g, cap, cur, rfl, hg, hrest⟩
  · have he : xs = [] := List.length_eq_zero_iff.1 h0
    subst he
    exact (sum_0 none 0 w).mono fun e w' ⟨p, q⟩ => ⟨p, q⟩
  · have hlt := (h.lt g rfl).2
    have hh := sum_c g 0 xs.length cap xs w hlt (Nat.le_refl _) (by omega) hx (by
      intro j hj
      have := h.cells rfl j (.int .i64 xs[j]) (by simp [vals, hj])
      rw [Go.WideShapes.add_plain] at this
      rw [this]; simp [List.getD, List.getElem?_eq_getElem hj])
    rwa [List.take_length] at hh
theorem own_ge {w : World} {base e size n k : Nat} {v : Value} {xs : List Value} (h : w.ownsRow base e size v n xs) (hk : v.ownBlock = some k) : base ≤ k := (h.lt k hk).1
/-- A turn that is asked for. -/
structure Tu where
  d : Int
  p : Int
  q : Int
structure Tu.Fits (x : Tu) : Prop where
  d : 0 ≤ x.d ∧ x.d ≤ 255
  p : U64 x.p
  q : I64 x.q
def Tus (w : World) (a : Option Addr) (L : List Tu) : Prop :=
  ∀ j (h : j < L.length), ∃ b off, a = some ⟨b, off, none⟩ ∧ b < w.heap.size ∧ w.cell? ⟨b, off + j * 3, none⟩ = some (.int .u8 L[j].d) ∧ w.cell? ⟨b, off + j * 3 + 1, none⟩ = some (.int .u64 L[j].p) ∧ w.cell? ⟨b, off + j * 3 + 2, none⟩ = some (.int .i64 L[j].q)
theorem Tus.later {w w' : World} {a : Option Addr} {L : List Tu} (h : Tus w a L) (hb : Below w.heap.size w w') : Tus w' a L := by
  intro j hj
  obtain ⟨b, off, ha, hlt, c0, c1, c2⟩ := h j hj
  have k : ∀ o, w'.cell? ⟨b, o, none⟩ = w.cell? ⟨b, o, none⟩ := fun o => hb.cell (by simpa using hlt)
  exact ⟨b, off, ha, Nat.lt_of_lt_of_le hlt hb.size, by rw [k]; exact c0, by rw [k]; exact c1, by rw [k]; exact c2⟩
/-- What stands behind some turns: the subscription, from when on, what was told and what falls on days. -/
structure Net (c : Cy) (m : Int) (k : Nat) (N : Sb) (at' : Int) (G W : List Int) (i : Nat) : Prop where
  ok : N.Ok m
  cy : N.c = c
  b : N.b = (k : Int) + 1
  e : N.e = 0
  lo : bnd c m k ≤ at'
  hi : at' < bnd c m (k + 1)
  s : N.s ≤ at'
  sum : G.sum = W.sum + amt c m k N.p at' (bnd c m (k + 1))
  gl : G.length ≤ 2 * i + 1
  wl : W.length ≤ i
  gb : ∀ x ∈ G, I64 x
  wb : ∀ x ∈ W, I64 x
theorem Net.has {c : Cy} {m : Int} {k : Nat} {N : Sb} {at' : Int} {G W : List Int} {i : Nat} (h : Net c m k N at' G W i) : Has c m (k + 1) := by
  have := h.ok.has
  rw [h.cy, h.b, show ((k : Int) + 1).toNat = k + 1 by omega] at this
  exact this
theorem Net.c {c : Cy} {m : Int} {k : Nat} {N : Sb} {at' : Int} {G W : List Int} {i : Nat} (h : Net c m k N at' G W i) : c.Ok := h.cy ▸ h.ok.c
theorem Net.skip {c : Cy} {m : Int} {k : Nat} {N : Sb} {at' : Int} {G W : List Int} {i : Nat} (h : Net c m k N at' G W i) : Net c m k N at' G W (i + 1) :=
  ⟨h.ok, h.cy, h.b, h.e, h.lo, h.hi, h.s, h.sum, by have := h.gl; omega, by have := h.wl; omega, h.gb, h.wb⟩
theorem amt_cut {c : Cy} {m : Int} {k : Nat} {p a b d : Int} (h : c.Ok) (hin : In m c.s) (hh : Has c m (k + 1)) (p0 : 0 ≤ p) (p1 : p < 4611686018427387904) (h1 : bnd c m k ≤ a) (h2 : a ≤ b) (h3 : b ≤ d) (h4 : d ≤ bnd c m (k + 1)) :
    amt c m k p a d = amt c m k p a b + amt c m k p b d := by
  rw [(amt_du h hin hh p a d p0 p1 h1 (Int.le_trans h2 h3) h4).1, (amt_du h hin hh p a b p0 p1 h1 h2 (Int.le_trans h3 h4)).1, (amt_du h hin hh p b d p0 p1 (Int.le_trans h1 h2) h3 h4).1]
  omega
theorem amt_0 {c : Cy} {m : Int} {k : Nat} {p a : Int} (h : c.Ok) (hin : In m c.s) (hh : Has c m (k + 1)) (p0 : 0 ≤ p) (p1 : p < 4611686018427387904) (h1 : bnd c m k ≤ a) (h4 : a ≤ bnd c m (k + 1)) : amt c m k p a a = 0 := by
  rw [(amt_du h hin hh p a a p0 p1 h1 (Int.le_refl _) h4).1]
  omega
theorem i64_amt {c : Cy} {m : Int} {k : Nat} {p a b : Int} (p0 : 0 ≤ p) (p1 : p < 4611686018427387904) : I64 (amt c m k p a b) ∧ I64 (-(amt c m k p a b)) := by
  have := amt_bd (c := c) (m := m) (k := k) p0 a b
  unfold I64
  omega
theorem Net.turn {c : Cy} {m : Int} {k : Nat} {N : Sb} {at' on tp tq : Int} {G W : List Int} {i : Nat} (h : Net c m k N at' G W i) (hin : In m c.s) (h1 : at' ≤ on) (h2 : on < bnd c m (k + 1)) (hp : U64 tp) (ht : 1 ≤ tp) (q0 : 0 ≤ tq) (q1 : tq < 4611686018427387904) :
    Net c m k (N.turned tp tq on) on (G ++ [amt c m k tq on (bnd c m (k + 1)), -(amt c m k N.p on (bnd c m (k + 1)))]) (W ++ [amt c m k N.p at' on]) (i + 1) := by
  have hb := per_bd h.c hin h.has
  have n0 := h.ok.num
  have hlo := h.lo
  have hcut := amt_cut h.c hin h.has n0.p0 n0.p1 h.lo h1 (Int.le_of_lt h2) (Int.le_refl _)
  have hs := h.sum
  have hws : Wi N.c.s on := .inr ⟨by omega, by omega, by
    rw [h.cy]
    have := bnd_le (i := 0) (j := k) h.c hin (Nat.zero_le k)
    rw [bnd_0] at this
    omega⟩
  refine ⟨⟨⟨n0.id, n0.cu, by show 0 < tp; omega, q0, q1, n0.b0, n0.b1⟩, h.ok.c, h.ok.has, hws, h.ok.we⟩, h.cy, h.b, h.e, by omega, h2, Int.le_refl _, ?_, ?_, ?_, ?_, ?_⟩
  · simp only [List.sum_append, List.sum_cons, List.sum_nil]
    show _ = _ + amt c m k tq on (bnd c m (k + 1))
    omega
  · have := h.gl; simp; omega
  · have := h.wl; simp; omega
  · intro x hx
    rcases List.mem_append.1 hx with hx | hx
    · exact h.gb x hx
    · simp only [List.mem_cons, List.not_mem_nil, or_false] at hx
      rcases hx with rfl | rfl
      · exact (i64_amt q0 q1).1
      · exact (i64_amt n0.p0 n0.p1).2
  · intro x hx
    rcases List.mem_append.1 hx with hx | hx
    · exact h.wb x hx
    · simp only [List.mem_cons, List.not_mem_nil, or_false] at hx
      subst hx
      exact (i64_amt n0.p0 n0.p1).1
/-- The subscription that the law begins with. -/
def cl (b : Int) : Int := if b < 0 then 0 else if 1000 < b then 1000 else b
theorem cl_bd (b : Int) : 0 ≤ cl b ∧ cl b ≤ 1000 := by unfold cl; split <;> (try split) <;> omega
def Sb.fresh (s : Sb) : Sb := { s with b := cl s.b, s := 0, e := 0 }
theorem fresh_fits {s : Sb} (h : s.Fits) : s.fresh.Fits := by
  have := cl_bd s.b
  exact ⟨h.id, h.cu, h.pl, h.c, h.p, by show I64 (cl s.b); unfold I64; omega, by show I64 0; unfold I64; omega, by show I64 0; unfold I64; omega⟩
/-- Due of one period: refused, none, or one. -/
theorem due_one (s : Sb) (hf : s.Fits) (he : s.e = 0) (hs : s.s = 0) : (∀ w, Tab w → Calls Tryd.prog 9 #[s.val, .int .i64 3652059, .int .i64 1] w (DueNo w)) ∨
    (∀ w, Tab w → Calls Tryd.prog 9 #[s.val, .int .i64 3652059, .int .i64 1] w (DueOut (s.after 0) [] 0 w)) ∨
    ∃ (m : Int), In m s.c.s ∧ s.c.Ok ∧ Has s.c m s.b.toNat ∧ 0 ≤ s.b ∧ s.b ≤ 2000 ∧ Net s.c m s.b.toNat (s.after 1) (bnd s.c m s.b.toNat) [amt s.c m s.b.toNat s.p (bnd s.c m s.b.toNat) (bnd s.c m (s.b.toNat + 1))] [] 0 ∧
      ∀ w, Tab w → Calls Tryd.prog 9 #[s.val, .int .i64 3652059, .int .i64 1] w (DueOut (s.after 1) [⟨s.b, bnd s.c m s.b.toNat, bnd s.c m (s.b.toNat + 1), amt s.c m s.b.toNat s.p (bnd s.c m s.b.toNat) (bnd s.c m (s.b.toNat + 1))⟩] 0 w) := by
  obtain ⟨m, hin⟩ := month_ex s.c
  by_cases h : s.Ok m
  · have hi := hin h.c
    obtain ⟨n, hn⟩ := many_ex s m 3652059 1 (by decide)
    have hle := hn.le (by decide) h.num
    have hD : ∀ w, Tab w → Calls Tryd.prog 9 #[s.val, .int .i64 3652059, .int .i64 1] w (DueOut (s.after n) (bills s m n) 0 w) := fun w hw => (due_in s m 3652059 1 w hw hi h (by decide) (by decide) (by decide)).mono fun _ _ hr => due_out_yes hn hr
    have b0 := h.num.b0
    rcases (show n = 0 ∨ n = 1 by omega) with rfl | rfl
    · exact .inr (.inl hD)
    · refine .inr (.inr ⟨m, hi, h.c, h.has, b0, h.num.b1, ?_, ?_⟩)
      · have hns := not_stop (hn.1 0 (by decide))
        rw [Nat.add_zero] at hns
        have hb := per_bd h.c hi hns.1
        have ha := i64_amt (c := s.c) (m := m) (k := s.b.toNat) (a := bnd s.c m s.b.toNat) (b := bnd s.c m (s.b.toNat + 1)) h.num.p0 h.num.p1
        refine ⟨after_ok h hn (by decide), rfl, ?_, he, Int.le_refl _, hb.2.1, ?_, ?_, by simp, by simp, ?_, fun x hx => absurd hx (by simp)⟩
        · show s.b + ((1 : Nat) : Int) = _
          omega
        · show s.s ≤ _
          omega
        · simp only [List.sum_cons, List.sum_nil]
          show _ = 0 + amt s.c m s.b.toNat s.p (bnd s.c m s.b.toNat) (bnd s.c m (s.b.toNat + 1))
          omega
        · intro x hx
          simp only [List.mem_cons, List.not_mem_nil, or_false] at hx
          subst hx
          exact ha.1
      · have e : bills s m 1 = [⟨s.b, bnd s.c m s.b.toNat, bnd s.c m (s.b.toNat + 1), amt s.c m s.b.toNat s.p (bnd s.c m s.b.toNat) (bnd s.c m (s.b.toNat + 1))⟩] := by
          show [bill s m (s.b.toNat + 0)] = _
          rw [Nat.add_zero]
          unfold bill
          rw [he, show en 0 (bnd s.c m (s.b.toNat + 1)) = bnd s.c m (s.b.toNat + 1) by unfold en; simp, show ((s.b.toNat : Nat) : Int) = s.b by omega]
        rw [e] at hD
        exact hD
  · exact .inl fun w hw => due_bad s m 3652059 1 w hw hf hin h
theorem blk_grown {W W' : World} {B : Nat} {cs : Array Value} {t : TypeId} {base e size n : Nat} {v : Value} {ys : List Value} (h : Blk W B cs t) (hg : W.grownBy W' v.ownBlock) (ho : W.ownsRow base e size v n ys) (hne : t ≠ e) : Blk W' B cs t := (hg.block B h.lt (own_other_type ho h hne)).trans h
theorem own_grown {W W' : World} {base e size n : Nat} {gv vv : Value} {xs : List Value} (h : W.ownsRow base e size gv n xs) (hg : W.grownBy W' vv.ownBlock) (hsep : ∀ g, gv.ownBlock = some g → vv.ownBlock ≠ some g) : W'.ownsRow base e size gv n xs := h.kept hg (by
  cases hx : gv.ownBlock with
  | none => exact .inl rfl
  | some g => exact .inr fun e => hsep g hx e.symm)
theorem sep_app {W : World} {base e size n : Nat} {gv vv vv' : Value} {xs : List Value} (h : W.ownsRow base e size gv n xs) (hsep : ∀ g, gv.ownBlock = some g → vv.ownBlock ≠ some g) (hat : vv'.ownBlock = vv.ownBlock ∨ vv'.ownBlock = some W.heap.size) : ∀ g, gv.ownBlock = some g → vv'.ownBlock ≠ some g := by
  intro g hg e
  have h1 := (h.lt g hg).2
  rcases hat with h2 | h2
  · exact hsep g hg (h2.symm.trans e)
  · rw [h2] at e
    injection e with e
    omega
theorem sep_app' {W : World} {base e size n : Nat} {gv vv gv' : Value} {xs : List Value} (h : W.ownsRow base e size vv n xs) (hsep : ∀ g, gv.ownBlock = some g → vv.ownBlock ≠ some g) (hat : gv'.ownBlock = gv.ownBlock ∨ gv'.ownBlock = some W.heap.size) : ∀ g, gv'.ownBlock = some g → vv.ownBlock ≠ some g := by
  intro g hg e
  have h1 := (h.lt g e).2
  rcases hat with h2 | h2
  · exact hsep g (h2.symm.trans hg) e
  · rw [h2] at hg
    injection hg with hg
    omega
theorem own_lit (w : World) (x : Value) (t : TypeId) : (w.alloc (.cells #[x] t)).ownsRow w.heap.size t 1 (.slice (some ⟨w.heap.size, 0, none⟩) 1 1) 1 [x] := ⟨rfl, .inr ⟨w.heap.size, 1, #[x], rfl, Nat.le_refl _, World.alloc_heap_new w _, Nat.le_refl _, by decide, rfl, rfl⟩⟩
/-- What is kept from round to round. -/
def Lp (c : Cy) (m : Int) (k len B0 G1 : Nat) (w : World) (xv gv vv iv : Value) (wr : World) : Prop :=
  ∃ (j : Nat) (N : Sb) (x : Int) (G V : List Int), iv = .int .i64 (j : Int) ∧ xv = .int .i64 x ∧ j ≤ len ∧ j ≤ 20 ∧ Net c m k N x G V j ∧ wr.ownsRow B0 2 1 gv G.length (vals G) ∧ wr.ownsRow B0 2 1 vv V.length (vals V) ∧
    (∀ g, gv.ownBlock = some g → vv.ownBlock ≠ some g) ∧ Blk wr G1 N.cells 26 ∧ Below w.heap.size w wr ∧ B0 ≤ wr.heap.size
section
variable {c : Cy} {m : Int} {k : Nat} {N : Sb} {at' : Int} {G V : List Int} {i : Nat}
theorem Net.per (h : Net c m k N at' G V i) {on : Int} (h1 : at' ≤ on) (h2 : on < bnd c m (k + 1)) : Per N.c m on k := by
  rw [h.cy]
  exact ⟨h.has, Int.le_trans h.lo h1, h2⟩
theorem Net.days (h : Net c m k N at' G V i) (hin : In m c.s) {on : Int} (h1 : at' ≤ on) (h2 : on ≤ bnd c m (k + 1)) : 1 ≤ on ∧ on ≤ 3652059 := by
  have := per_bd h.c hin h.has
  have := h.lo
  omega
/-- What Change does on a day of the period. -/
theorem Net.chg (h : Net c m k N at' G V i) (hin : In m c.s) {on tp tq : Int} (h1 : at' ≤ on) (h2 : on < bnd c m (k + 1)) (hp : U64 tp) : ∃ (A : Sb) (X : Tn) (z : Int),
    (∀ w, Tab w → Calls Tryd.prog 17 #[N.val, .int .i64 on, .agg #[.int .u64 tp, .int .i64 tq]] w (TurnOut A X z w)) ∧
    ((z = 2 ∧ A = Sb.none ∧ X = Tn.none) ∨ (z = 0 ∧ 1 ≤ tp ∧ 0 ≤ tq ∧ tq < 4611686018427387904 ∧ A = N.turned tp tq on ∧ X = ⟨on, bnd c m (k + 1), amt c m k N.p on (bnd c m (k + 1)), amt c m k tq on (bnd c m (k + 1))⟩)) := by
  have hd := h.days hin h1 (Int.le_of_lt h2)
  have hinN : In m N.c.s := h.cy ▸ hin
  have hb := h.b
  have hs := h.s
  have he : en N.e (bnd N.c m (k + 1)) = bnd c m (k + 1) := by rw [h.e, h.cy]; unfold en; simp
  by_cases ht : tp = 0
  · exact ⟨_, _, 2, fun w hw => chg_plan N m on tp tq w hw hinN h.ok hd ht, .inl ⟨rfl, rfl, rfl⟩⟩
  · have ht' : 1 ≤ tp := by have := hp.1; omega
    by_cases hq : 0 ≤ tq ∧ tq < 4611686018427387904
    · refine ⟨N.turned tp tq on, ⟨on, bnd c m (k + 1), amt c m k N.p on (bnd c m (k + 1)), amt c m k tq on (bnd c m (k + 1))⟩, 0, fun w hw => (chg_ok N m on tp tq w hw hinN h.ok hd ht' hq.1 hq.2 k (h.per h1 h2) ⟨by omega, by rw [he]; omega, by omega⟩).mono fun e w' hr => ⟨?_, hr.2.2⟩, .inr ⟨rfl, ht', hq.1, hq.2, rfl, rfl⟩⟩
      rw [hr.2.1]
      unfold turnOf
      rw [he, h.cy]
    · exact ⟨_, _, 2, fun w hw => chg_price N m on tp tq w hw hinN h.ok hd ht' (by omega), .inl ⟨rfl, rfl, rfl⟩⟩
/-- What Cancel does. -/
theorem Net.can (h : Net c m k N at' G V i) (hin : In m c.s) (w : World) (hw : Tab w) : Calls Tryd.prog 19 #[N.val, .int .i64 at', .bool true] w (TurnOut (N.ended at') ⟨at', bnd c m (k + 1), amt c m k N.p at' (bnd c m (k + 1)), 0⟩ 0 w) := by
  have hd := h.days hin (Int.le_refl _) (Int.le_of_lt h.hi)
  have hinN : In m N.c.s := h.cy ▸ hin
  have hb := h.b
  have hs := h.s
  have hlo := h.lo
  have h0 := bnd_le (i := 0) (j := k) h.c hin (Nat.zero_le k)
  rw [bnd_0] at h0
  refine (can_at1 N m at' w hw hinN h.ok hd h.e (by rw [h.cy]; omega) (by omega) k (h.per (Int.le_refl _) h.hi) hb).mono fun e w' hr => ⟨?_, hr.2⟩
  rw [hr.1]
  unfold canEnd canTurn
  rw [if_pos rfl, if_pos ⟨rfl, by omega⟩, h.cy]
theorem Net.endok (h : Net c m k N at' G V i) (hin : In m c.s) : (N.ended at').Ok m := by
  have hd := h.days hin (Int.le_refl _) (Int.le_of_lt h.hi)
  have hlo := h.lo
  have h0 := bnd_le (i := 0) (j := k) h.c hin (Nat.zero_le k)
  rw [bnd_0] at h0
  exact ended_ok h.ok hd.1 hd.2 (by rw [h.cy]; omega)
/-- Nothing is billed behind an end. -/
theorem Net.none (h : Net c m k N at' G V i) (hin : In m c.s) (w : World) (hw : Tab w) : Calls Tryd.prog 9 #[(N.ended at').val, .int .i64 3652059, .int .i64 1000] w (DueOut (N.ended at') [] 0 w) := by
  have hd := h.days hin (Int.le_refl _) (Int.le_of_lt h.hi)
  have hb := h.b
  have hhi := h.hi
  have hM : Many (N.ended at') m 3652059 1000 0 := by
    refine ⟨fun i hi => absurd hi (by omega), ?_⟩
    refine .inr (.inr (.inr (.inr ⟨by show at' ≠ 0; omega, ?_⟩)))
    show at' ≤ bnd N.c m (N.b.toNat + 0)
    rw [h.cy, Nat.add_zero, hb, show ((k : Int) + 1).toNat = k + 1 by omega]
    omega
  refine (due_in (N.ended at') m 3652059 1000 w hw (h.cy ▸ hin) (h.endok hin) (by decide) (by decide) (by decide)).mono fun _ _ hr => ?_
  have h1 := due_out_yes hM hr
  rwa [show (N.ended at').after 0 = N.ended at' by unfold Sb.after; simp, show bills (N.ended at') m 0 = [] from rfl] at h1
/-- What falls on days. -/
theorem Net.on (h : Net c m k N at' G V i) (hin : In m c.s) {on : Int} (h1 : at' ≤ on) (h2 : on ≤ bnd c m (k + 1)) (w : World) : Calls Tryd.prog 22 #[N.val, .int .i64 (bnd c m (k + 1)), .int .i64 N.p, .int .i64 at', .int .i64 on] w fun e w' => e = .returned (.int .i64 (amt c m k N.p at' on)) ∧ Below w.heap.size w w' := by
  have hd := h.days hin (Int.le_refl _) (Int.le_of_lt h.hi)
  have hd2 := h.days hin h1 h2
  have hh := ron_s N (mo c m k) (bnd c m (k + 1)) N.p at' on w h.ok.c (mo_in h.c hin h.has) hd.1 hd.2 hd2.1 hd2.2
  rw [h.cy] at hh
  exact hh
end
end Go.Proofs.YtjchecjonkmhgaaDoor.Su
end
section
namespace Go.Proofs.YtjchecjonkmhgaaDoor.Su
open Go.RowKit Pr Cw An Rf
structure Gz (u0 : World) (V0 V1 V2 V3 V4 V5 V6 V7 V8 : Value) (A T : Array Value) (f0 f1 f2 f3 f4 f5 f6 f7 f8 f9 f10 f11 f12 f13 f14 f15 f16 : Bool) (x0 x1 x2 x3 x4 x5 x6 x7 x8 x9 x10 x11 x12 x13 x16 : Value) (u : World) : Prop where
  two : Two u0 A T f12 f14 f13 f15 x12 x13 u
  d6 : f14 = true → f12 = true
  d7 : f15 = true → f13 = true
  v0 : f0 = true → x0 = V0
  v1 : f1 = true → x1 = V1
  v2 : f2 = true → x2 = V2
  v3 : f3 = true → x3 = V3
  v4 : f4 = true → x4 = V4
  v5 : f5 = true → x5 = V5
  v6 : f6 = true → x6 = V6
  v7 : f7 = true → x7 = V7
  v8 : f8 = true → x8 = V7
  v9 : f9 = true → x9 = .agg A
  v10 : f10 = true → x10 = .agg T
  v11 : f11 = true → x11 = V8
  v16 : f16 = true → x16 = V8
theorem Gz.start {u0 u : World} {V0 V1 V2 V3 V4 V5 V6 V7 V8 : Value} {A T : Array Value} {f0 f1 f2 f3 f4 f5 f6 f7 f8 f9 f10 f11 f12 f13 f14 f15 f16 : Bool} {x0 x1 x2 x3 x4 x5 x6 x7 x8 x9 x10 x11 x12 x13 x16 : Value} (h : f0 = false ∧ f1 = false ∧ f2 = false ∧ f3 = false ∧ f4 = false ∧ f5 = false ∧ f6 = false ∧ f7 = false ∧ f8 = false ∧ f9 = false ∧ f10 = false ∧ f11 = false ∧ f12 = false ∧ f13 = false ∧ f14 = false ∧ f15 = false ∧ f16 = false) (hb : Below u0.heap.size u0 u) :
    Gz u0 V0 V1 V2 V3 V4 V5 V6 V7 V8 A T f0 f1 f2 f3 f4 f5 f6 f7 f8 f9 f10 f11 f12 f13 f14 f15 f16 x0 x1 x2 x3 x4 x5 x6 x7 x8 x9 x10 x11 x12 x13 x16 u := by
  obtain ⟨rfl, rfl, rfl, rfl, rfl, rfl, rfl, rfl, rfl, rfl, rfl, rfl, rfl, rfl, rfl, rfl, rfl⟩ := h
  exact ⟨⟨hb, Own.no _ _, Own.no _ _, nofun⟩, nofun, nofun, nofun, nofun, nofun, nofun, nofun, nofun, nofun, nofun, nofun, nofun, nofun, nofun, nofun⟩
end Go.Proofs.YtjchecjonkmhgaaDoor.Su
end
section
namespace Go.Proofs.YtjchecjonkmhgaaDoor.Su
open Go.RowKit Pr Cw An
open Go.ChangeShapes Go.WideShapes Go.ChangeAt Go.Joins Go.WideMaps Go.WideElems Go.Deep
instance : Inhabited Tu := ⟨⟨0, 0, 0⟩⟩
section
variable {H : Type} {enc : TypeId × Value → H} {P : Program} {w : World} {base : Nat} {held : Bool}
theorem trod_struct2' {t : TypeId} {f0 f1 : Field} {fuel : Nat} {cs : List Value} {x : DataW H × List MemPlace} (ht : P.underlying t = some (.struct #[f0, f1])) (h : DataW.trod enc P w base (fun _ => true) held fuel t cs = some x) :
    ∃ y0 y1 m, DataW.trod enc P w base (fun _ => true) held m f0.type ((cs.drop f0.offset).take (P.cellsOf f0.type)) = some y0 ∧ DataW.trod enc P w base (fun _ => true) held m f1.type ((cs.drop f1.offset).take (P.cellsOf f1.type)) = some y1 := by
  obtain ⟨xs, m, _, _, _, hlen, hf⟩ := DataW.trod_struct ht h
  match xs, hlen with
  | [y0, y1], _ => exact ⟨y0, y1, m, by simpa using hf 0 f0 rfl, by simpa using hf 1 f1 rfl⟩
theorem open_tus {t e : TypeId} {f0 f1 g0 g1 : Field} {fuel : Nat} {v : Value} {y : DataW H × List MemPlace} (ht : P.underlying t = some (.slice e)) (he : P.underlying e = some (.struct #[f0, f1])) (hs1 : P.underlying f1.type = some (.struct #[g0, g1])) (hC : P.cellsOf e = 3)
    (o0 : f0.offset = 0) (k0 : P.cellsOf f0.type = 1) (o1 : f1.offset = 1) (k1 : P.cellsOf f1.type = 2) (p0 : g0.offset = 0) (q0 : P.cellsOf g0.type = 1) (p1 : g1.offset = 1) (q1 : P.cellsOf g1.type = 1)
    (u0 : P.underlying f0.type = some (.int .u8)) (v0 : P.underlying g0.type = some (.int .u64)) (v1 : P.underlying g1.type = some (.int .i64))
    (h : DataW.trod enc P w base (fun _ => true) held fuel t [v] = some y) :
    ∃ a cap L, v = .slice a (List.length L) cap ∧ Tus w a L ∧ L.length ≤ maxLen ∧ ∀ x ∈ L, Tu.Fits x := by
  rcases open_slice ht h with ⟨hcs, _⟩ | ⟨a, len, cap, m, n, D, Pl, hcs, _, hl, hm, hmm, _, hx⟩
  · simp at hcs
    exact ⟨none, 0, [], hcs, fun j hj => by simp at hj, by simp, by simp⟩
  · simp at hcs
    have hlm : len ≤ m := by rw [hmm]; split <;> omega
    rw [hC] at hx
    have hall : ∀ i, i < len → ∃ x : Tu, (w.cell? (a.add (i * 3)) = some (.int .u8 x.d) ∧ w.cell? ((a.add (i * 3)).add 1) = some (.int .u64 x.p) ∧ w.cell? ((a.add (i * 3)).add 2) = some (.int .i64 x.q)) ∧ x.Fits := by
      intro i hi
      obtain ⟨cs', h1, h2⟩ := hx i (by omega)
      obtain ⟨_, hlen, hat⟩ := World.cells?_some h1
      obtain ⟨z0, z1, k, a0, a1⟩ := trod_struct2' he h2
      match cs', hlen with
      | [c0, c1, c2], _ =>
        simp only [o0, k0, o1, k1] at a0 a1
        obtain ⟨y0, y1, k2, b0, b1⟩ := trod_struct2' hs1 a1
        simp [p0, q0, p1, q1] at b0 b1
        simp at a0
        obtain ⟨x0, e0, _, wx0⟩ := DataW.trod_int u0 a0
        obtain ⟨x1, e1, _, wx1⟩ := DataW.trod_int v0 b0
        obtain ⟨x2, e2, _, wx2⟩ := DataW.trod_int v1 b1
        simp at e0 e1 e2
        subst e0 e1 e2
        have a0 := hat 0 (by omega)
        have a1 := hat 1 (by omega)
        have a2 := hat 2 (by omega)
        refine ⟨⟨x0, x1, x2⟩, ⟨?_, ?_, ?_⟩, ⟨bounds_u8 wx0, bounds_u64 wx1, bounds_i64 wx2⟩⟩
        · simpa [Addr.add] using a0
        · simpa using a1
        · simpa using a2
    obtain ⟨V, hV⟩ := choose_lt (α := Tu) (p := fun i x => (w.cell? (a.add (i * 3)) = some (.int .u8 x.d) ∧ w.cell? ((a.add (i * 3)).add 1) = some (.int .u64 x.p) ∧ w.cell? ((a.add (i * 3)).add 2) = some (.int .i64 x.q)) ∧ x.Fits) hall
    refine ⟨some a, cap, (List.range len).map V, by simpa using hcs, ?_, by simp; omega, ?_⟩
    · intro j hj
      have hj' : j < len := by simpa using hj
      obtain ⟨⟨c0, c1, c2⟩, _⟩ := hV j hj'
      have c00 := (hV 0 (by omega)).1.1
      obtain ⟨ab, ao, spot⟩ := a
      have hspot : spot = none := by simpa [Addr.add] using World.cell?_spot c00
      subst hspot
      rw [Go.WideShapes.add_plain] at c0 c1 c2
      rw [Go.WideShapes.add_plain] at c1 c2
      refine ⟨ab, ao, rfl, World.block_lt_of_cell? w ⟨ab, ao + j * 3, none⟩ c0, ?_, ?_, ?_⟩
      · rw [c0]; simp
      · rw [c1]; simp
      · rw [c2]; simp
    · intro x hx
      obtain ⟨i, hi, rfl⟩ := List.mem_map.1 hx
      exact (hV i (List.mem_range.1 hi)).2
end
end Go.Proofs.YtjchecjonkmhgaaDoor.Su
end
