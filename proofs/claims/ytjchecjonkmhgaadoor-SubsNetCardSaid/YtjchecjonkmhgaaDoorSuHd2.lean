/- The document's example, called. -/
import Derived.Test.YtjchecjonkmhgaaDoorSuHd1
import Derived.Deep.DeepCutAuto
import Derived.Deep.RegionHeld3
namespace Go.Proofs.YtjchecjonkmhgaaDoor.Su
open Go.RowKit Pr Cw An Rf
set_option maxRecDepth 100000 in
set_option maxHeartbeats 16000000 in
theorem head_c (w : World) (hw : Tab w) : Calls Tryd.prog 16 #[] w fun e w' => e = .returned (.bool true) ∧ Below w.heap.size w w' := by
  go_enter Tryd.func16, Tryd.ntmps16
  go_wp2_with fail
  refine (d0110 _).mono ?_
  rintro e w1 ⟨rfl, rfl⟩
  go_upto_region 2 with (fail)
  obtain ⟨W1, hW1⟩ : ∃ W1, w.alloc (.cells #[.int .u64 1, .int .u64 1, .int .u64 1, .int .i64 738895, .int .i64 15, .int .i64 1, .int .i64 3100, .int .i64 0, .int .i64 0, .int .i64 0] 26) = W1 := ⟨_, rfl⟩
  have K1 := Lib.hid (show Blk W1 w.heap.size #[.int .u64 1, .int .u64 1, .int .u64 1, .int .i64 738895, .int .i64 15, .int .i64 1, .int .i64 3100, .int .i64 0, .int .i64 0, .int .i64 0] 26 by rw [← hW1]; exact Blk.new w _ _)
  have B1 := Lib.hid (show Below w.heap.size w W1 by rw [← hW1]; exact (Below.refl _ w).alloc (Nat.le_refl _) _)
  have T1 := Lib.hid (tab_later hw B1.out)
  rw [hW1]
  clear hW1
  go_cut [2, 3, 4] (fun s2 s3 s4 wx => ∃ ad cap G, s2 = .slice ad 3 cap ∧ s3 = .pointer (some ⟨G, 0, Option.none⟩) ∧ s4 = .int .i64 0 ∧ Blk wx G #[.int .u64 1, .int .u64 1, .int .u64 1, .int .i64 738895, .int .i64 15, .int .i64 1, .int .i64 3100, .int .i64 3, .int .i64 0, .int .i64 0] 26 ∧ Rb wx ad ex3b ∧ Below W1.heap.size W1 wx)
  case first =>
    refine wp_region_inv (I := (fun A L a u => ∃ (ad : Option Addr) (cap : Nat) (xl xd xc xm y0 y1 y2 x3 x2 x4 : Value), a = putAll A [(19, xl), (20, xd), (21, xc), (18, xm), (22, y0), (23, y1), (24, y2), (3, x3), (2, x2), (4, x4)] ∧ Fy W1 ad cap (L 0) (L 1) (L 2) (L 3) (L 4) (L 5) (L 6) (L 7) (L 8) (L 9) (L 10) xl xd xc xm y0 y1 y2 x3 x2 x4 u)) (by kernel_rfl) (by kernel_rfl) ?_ ?_ ?_
    · intro L hL
      exact ⟨Option.none, 0, _, _, _, _, _, _, _, _, _, _, by (simp only [putAll, Act.put, List.setIfInBounds_toArray, List.set_cons_zero, List.set_cons_succ]; rfl), Fy.start ⟨hL 0 (by decide), hL 1 (by decide), hL 2 (by decide), hL 3 (by decide), hL 4 (by decide), hL 5 (by decide), hL 6 (by decide), hL 7 (by decide), hL 8 (by decide), hL 9 (by decide), hL 10 (by decide)⟩ ((Below.refl _ W1).drew)⟩
    refine Steps.cons (i := 0) rfl ?_ ?_
    · rintro L a u ⟨ad, cap, xl, xd, xc, xm, y0, y1, y2, x3, x2, x4, rfl, hF⟩ hi hd K hK
      simp only [putAll, Act.put, List.setIfInBounds_toArray, List.set_cons_zero, List.set_cons_succ]
      (try simp [Region.binds] at hd)
      have hs := K1.out.later hF.b
      have q0 : u.cell? ⟨w.heap.size, 0, Option.none⟩ = some (.int .u64 1) := hs.cell 0
      have q1 : u.cell? ⟨w.heap.size, 1, Option.none⟩ = some (.int .u64 1) := hs.cell 1
      have q2 : u.cell? ⟨w.heap.size, 2, Option.none⟩ = some (.int .u64 1) := hs.cell 2
      have q3 : u.cell? ⟨w.heap.size, 3, Option.none⟩ = some (.int .i64 738895) := hs.cell 3
      have q4 : u.cell? ⟨w.heap.size, 4, Option.none⟩ = some (.int .i64 15) := hs.cell 4
      have q5 : u.cell? ⟨w.heap.size, 5, Option.none⟩ = some (.int .i64 1) := hs.cell 5
      have q6 : u.cell? ⟨w.heap.size, 6, Option.none⟩ = some (.int .i64 3100) := hs.cell 6
      have q7 : u.cell? ⟨w.heap.size, 7, Option.none⟩ = some (.int .i64 0) := hs.cell 7
      have q8 : u.cell? ⟨w.heap.size, 8, Option.none⟩ = some (.int .i64 0) := hs.cell 8
      have q9 : u.cell? ⟨w.heap.size, 9, Option.none⟩ = some (.int .i64 0) := hs.cell 9
      go_simp
      exact hK.out _ _ ⟨_, _, _, _, _, _, _, _, _, _, _, _, by (simp only [putAll, Act.put, List.setIfInBounds_toArray, List.set_cons_zero, List.set_cons_succ]), hF.load⟩
    refine Steps.cons (i := 1) rfl ?_ ?_
    · rintro L a u ⟨ad, cap, xl, xd, xc, xm, y0, y1, y2, x3, x2, x4, rfl, hF⟩ hi hd K hK
      simp only [putAll, Act.put, List.setIfInBounds_toArray, List.set_cons_zero, List.set_cons_succ]
      (try simp [Region.binds] at hd)
      go_simp
      refine (d0220 _).mono ?_
      rintro e u1 ⟨rfl, rfl⟩
      go_wp2_with fail
      exact hK.out _ _ ⟨_, _, _, _, _, _, _, _, _, _, _, _, by (simp only [putAll, Act.put, List.setIfInBounds_toArray, List.set_cons_zero, List.set_cons_succ]), hF.day⟩
    refine Steps.cons (i := 2) rfl ?_ ?_
    · rintro L a u ⟨ad, cap, xl, xd, xc, xm, y0, y1, y2, x3, x2, x4, rfl, hF⟩ hi hd K hK
      simp only [putAll, Act.put, List.setIfInBounds_toArray, List.set_cons_zero, List.set_cons_succ]
      (try simp [Region.binds] at hd)
      obtain rfl := hF.vl (by simp [hd])
      obtain rfl := hF.vd (by simp [hd])
      go_simp
      refine (ex_dueb _ (tab_later T1.out hF.b)).mono ?_
      rintro e u1 ⟨ad1, cap1, rfl, hR1, hb1⟩
      go_wp2_with fail
      exact hK.out _ _ ⟨ad1, cap1, _, _, _, _, _, _, _, _, _, _, by (simp only [putAll, Act.put, List.setIfInBounds_toArray, List.set_cons_zero, List.set_cons_succ]), hF.call hi hR1 hb1⟩
    refine Steps.cons (i := 3) rfl ?_ ?_
    · rintro L a u ⟨ad, cap, xl, xd, xc, xm, y0, y1, y2, x3, x2, x4, rfl, hF⟩ hi hd K hK
      simp only [putAll, Act.put, List.setIfInBounds_toArray, List.set_cons_zero, List.set_cons_succ]
      (try simp [Region.binds] at hd)
      obtain rfl := hF.vc (by simp [hd])
      go_simp
      exact hK.out _ _ ⟨_, _, _, _, _, _, _, _, _, _, _, _, by (simp only [putAll, Act.put, List.setIfInBounds_toArray, List.set_cons_zero, List.set_cons_succ]), hF.move (by simp [hd])⟩
    refine Steps.cons (i := 4) rfl ?_ ?_
    · rintro L a u ⟨ad, cap, xl, xd, xc, xm, y0, y1, y2, x3, x2, x4, rfl, hF⟩ hi hd K hK
      simp only [putAll, Act.put, List.setIfInBounds_toArray, List.set_cons_zero, List.set_cons_succ]
      (try simp [Region.binds] at hd)
      obtain ⟨hfc, rfl⟩ := hF.vm (by simp [hd])
      go_simp
      exact hK.out _ _ ⟨_, _, _, _, _, _, _, _, _, _, _, _, by (simp only [putAll, Act.put, List.setIfInBounds_toArray, List.set_cons_zero, List.set_cons_succ]), hF.ex0 (by simp [hd])⟩
    refine Steps.cons (i := 5) rfl ?_ ?_
    · rintro L a u ⟨ad, cap, xl, xd, xc, xm, y0, y1, y2, x3, x2, x4, rfl, hF⟩ hi hd K hK
      simp only [putAll, Act.put, List.setIfInBounds_toArray, List.set_cons_zero, List.set_cons_succ]
      (try simp [Region.binds] at hd)
      obtain ⟨hfc, rfl⟩ := hF.vm (by simp [hd])
      go_simp
      exact hK.out _ _ ⟨_, _, _, _, _, _, _, _, _, _, _, _, by (simp only [putAll, Act.put, List.setIfInBounds_toArray, List.set_cons_zero, List.set_cons_succ]), hF.ex1⟩
    refine Steps.cons (i := 6) rfl ?_ ?_
    · rintro L a u ⟨ad, cap, xl, xd, xc, xm, y0, y1, y2, x3, x2, x4, rfl, hF⟩ hi hd K hK
      simp only [putAll, Act.put, List.setIfInBounds_toArray, List.set_cons_zero, List.set_cons_succ]
      (try simp [Region.binds] at hd)
      obtain ⟨hfc, rfl⟩ := hF.vm (by simp [hd])
      go_simp
      exact hK.out _ _ ⟨_, _, _, _, _, _, _, _, _, _, _, _, by (simp only [putAll, Act.put, List.setIfInBounds_toArray, List.set_cons_zero, List.set_cons_succ]), hF.ex2⟩
    refine Steps.cons (i := 7) rfl ?_ ?_
    · rintro L a u ⟨ad, cap, xl, xd, xc, xm, y0, y1, y2, x3, x2, x4, rfl, hF⟩ hi hd K hK
      simp only [putAll, Act.put, List.setIfInBounds_toArray, List.set_cons_zero, List.set_cons_succ]
      (try simp [Region.binds] at hd)
      go_simp
      exact hK.out _ _ ⟨_, _, _, _, _, _, _, _, _, _, _, _, by (simp only [putAll, Act.put, List.setIfInBounds_toArray, List.set_cons_zero, List.set_cons_succ]), hF.alloc hi⟩
    refine Steps.cons (i := 8) rfl ?_ ?_
    · rintro L a u ⟨ad, cap, xl, xd, xc, xm, y0, y1, y2, x3, x2, x4, rfl, hF⟩ hi hd K hK
      simp only [putAll, Act.put, List.setIfInBounds_toArray, List.set_cons_zero, List.set_cons_succ]
      (try simp [Region.binds] at hd)
      obtain ⟨hfc, rfl⟩ := hF.v0 (by simp [hd])
      go_simp
      exact hK.out _ _ ⟨_, _, _, _, _, _, _, _, _, _, _, _, by (simp only [putAll, Act.put, List.setIfInBounds_toArray, List.set_cons_zero, List.set_cons_succ]), hF.as2 (by simp [hd])⟩
    refine Steps.cons (i := 9) rfl ?_ ?_
    · rintro L a u ⟨ad, cap, xl, xd, xc, xm, y0, y1, y2, x3, x2, x4, rfl, hF⟩ hi hd K hK
      simp only [putAll, Act.put, List.setIfInBounds_toArray, List.set_cons_zero, List.set_cons_succ]
      (try simp [Region.binds] at hd)
      obtain rfl := hF.v1 (by simp [hd])
      obtain ⟨B, rfl, hB⟩ := hF.at3 (by simp [hd]) hi
      obtain ⟨q0, q1, q2, q3, q4, q5, q6, q7, q8, q9, r0, r1, r2, r3, r4, r5, r6, r7, r8, r9⟩ := blk_writes hB
      go_simp
      exact hK.out _ _ ⟨_, _, _, _, _, _, _, _, _, _, _, _, by (simp only [putAll, Act.put, List.setIfInBounds_toArray, List.set_cons_zero, List.set_cons_succ]), hF.store (by simp [hd]) hi⟩
    refine Steps.cons (i := 10) rfl ?_ ?_
    · rintro L a u ⟨ad, cap, xl, xd, xc, xm, y0, y1, y2, x3, x2, x4, rfl, hF⟩ hi hd K hK
      simp only [putAll, Act.put, List.setIfInBounds_toArray, List.set_cons_zero, List.set_cons_succ]
      (try simp [Region.binds] at hd)
      obtain rfl := hF.v2 (by simp [hd])
      go_simp
      exact hK.out _ _ ⟨_, _, _, _, _, _, _, _, _, _, _, _, by (simp only [putAll, Act.put, List.setIfInBounds_toArray, List.set_cons_zero, List.set_cons_succ]), hF.as4⟩
    · exact Steps.nil
    · rintro L a u ⟨ad, cap, xl, xd, xc, xm, y0, y1, y2, x3, x2, x4, rfl, hF⟩ hall
      obtain ⟨-, rfl⟩ := hF.w2 (hall 8 (by decide))
      obtain rfl := hF.w4 (hall 10 (by decide))
      obtain ⟨B, rfl, hB0, hB⟩ := hF.o (hall 7 (by decide))
      rw [hall 9 (by decide)] at hB
      have hR := hF.rb (hall 2 (by decide))
      have hb := hF.b
      clear hF hall
      simp only [putAll, Act.put, List.setIfInBounds_toArray, List.set_cons_zero, List.set_cons_succ]
      go_wp2_with fail
      go_meet
      exact ⟨ad, cap, B, rfl, rfl, rfl, hB, hR.1, hb⟩
  obtain ⟨ad, cap, G, rfl, rfl, rfl, hG, hR, hbx⟩ := hcut
  have T2 := tab_later T1.out hbx
  have B2 := Lib.hid (B1.out.trans (hbx.mono B1.out.size))
  clear hbx T1 B1 K1
  go_wp2_with fail
  refine (d0110 _).mono ?_
  rintro e wd ⟨rfl, rfl⟩
  go_wp2_with fail
  refine (d0115 _).mono ?_
  rintro e wd ⟨rfl, rfl⟩
  go_wp2_with fail
  refine (d0115 _).mono ?_
  rintro e wd ⟨rfl, rfl⟩
  go_wp2_with fail
  refine (d0215 _).mono ?_
  rintro e wd ⟨rfl, rfl⟩
  go_wp2_with fail
  refine (d0215 _).mono ?_
  rintro e wd ⟨rfl, rfl⟩
  go_wp2_with fail
  refine (d0315 _).mono ?_
  rintro e wd ⟨rfl, rfl⟩
  go_upto_region 4 with (fail)
  obtain ⟨W4, hW4⟩ : ∃ W4, wc.alloc (.cells #[.int .i64 0, .int .i64 738895, .int .i64 738900, .int .i64 500, .int .i64 1, .int .i64 738900, .int .i64 738931, .int .i64 3100, .int .i64 2, .int .i64 738931, .int .i64 738960, .int .i64 3100] 57) = W4 := ⟨_, rfl⟩
  have hb4 : Below wc.heap.size wc W4 := by rw [← hW4]; exact (Below.refl _ wc).alloc (Nat.le_refl _) _
  have hW : Blk W4 wc.heap.size #[.int .i64 0, .int .i64 738895, .int .i64 738900, .int .i64 500, .int .i64 1, .int .i64 738900, .int .i64 738931, .int .i64 3100, .int .i64 2, .int .i64 738931, .int .i64 738960, .int .i64 3100] 57 := by rw [← hW4]; exact Blk.new wc _ _
  rw [hW4]
  have G4 := Lib.hid (hG.later hb4)
  have R4 := Lib.hid (hR.later hb4)
  have X4 := Lib.hid (show Rb W4 (some ⟨wc.heap.size, 0, Option.none⟩) ex3b from rb_of hW)
  have T4 := Lib.hid (tab_later T2 hb4)
  have B4 := Lib.hid (B2.out.trans (hb4.mono B2.out.size))
  generalize wc.heap.size = GW at *
  clear hW hb4 hW4 hG hR T2 B2
  go_cut [7, 8] (fun s7 s8 wx => ∃ B6 B7, s7 = .pointer (some ⟨B7, 0, Option.none⟩) ∧ s8 = .int .i64 0 ∧ Blk wx B6 #[.int .u64 1, .int .u64 1, .int .u64 2, .int .i64 738895, .int .i64 15, .int .i64 1, .int .i64 6200, .int .i64 3, .int .i64 738946, .int .i64 0] 26 ∧ Blk wx B7 #[.int .i64 738946, .int .i64 738960, .int .i64 1497, .int .i64 2994] 45 ∧ Below W4.heap.size W4 wx)
  case first =>
    refine wp_region_inv (I := (fun A L a u => ∃ (xl xd xo xc xm y0 y1 y2 x6 x7 x8 : Value), a = putAll A [(36, xl), (37, xd), (38, xo), (39, xc), (35, xm), (40, y0), (41, y1), (42, y2), (6, x6), (7, x7), (8, x8)] ∧ Fz W4 (.agg #[.int .u64 1, .int .u64 1, .int .u64 1, .int .i64 738895, .int .i64 15, .int .i64 1, .int .i64 3100, .int .i64 3, .int .i64 0, .int .i64 0]) (.int .i64 738946) (.agg #[.int .u64 2, .int .i64 6200]) (.tuple #[.agg #[.int .u64 1, .int .u64 1, .int .u64 2, .int .i64 738895, .int .i64 15, .int .i64 1, .int .i64 6200, .int .i64 3, .int .i64 738946, .int .i64 0], .agg #[.int .i64 738946, .int .i64 738960, .int .i64 1497, .int .i64 2994], .int .i64 0]) #[.int .u64 1, .int .u64 1, .int .u64 2, .int .i64 738895, .int .i64 15, .int .i64 1, .int .i64 6200, .int .i64 3, .int .i64 738946, .int .i64 0] #[.int .i64 738946, .int .i64 738960, .int .i64 1497, .int .i64 2994] (L 0) (L 1) (L 2) (L 3) (L 4) (L 5) (L 6) (L 7) (L 8) (L 10) (L 9) (L 11) (L 12) xl xd xo xc xm y0 y1 y2 x6 x7 x8 u)) (by kernel_rfl) (by kernel_rfl) ?_ ?_ ?_
    · intro L hL
      exact ⟨_, _, _, _, _, _, _, _, _, _, _, by (simp only [putAll, Act.put, List.setIfInBounds_toArray, List.set_cons_zero, List.set_cons_succ]; rfl), Fz.start ⟨hL 0 (by decide), hL 1 (by decide), hL 2 (by decide), hL 3 (by decide), hL 4 (by decide), hL 5 (by decide), hL 6 (by decide), hL 7 (by decide), hL 8 (by decide), hL 10 (by decide), hL 9 (by decide), hL 11 (by decide), hL 12 (by decide)⟩ ((Below.refl _ W4).drew)⟩
    refine Steps.cons (i := 0) rfl ?_ ?_
    · rintro L a u ⟨xl, xd, xo, xc, xm, y0, y1, y2, x6, x7, x8, rfl, hF⟩ hi hd K hK
      simp only [putAll, Act.put, List.setIfInBounds_toArray, List.set_cons_zero, List.set_cons_succ]
      (try simp [Region.binds] at hd)
      have hs := G4.out.later hF.two.b
      have q0 : u.cell? ⟨G, 0, Option.none⟩ = some (.int .u64 1) := hs.cell 0
      have q1 : u.cell? ⟨G, 1, Option.none⟩ = some (.int .u64 1) := hs.cell 1
      have q2 : u.cell? ⟨G, 2, Option.none⟩ = some (.int .u64 1) := hs.cell 2
      have q3 : u.cell? ⟨G, 3, Option.none⟩ = some (.int .i64 738895) := hs.cell 3
      have q4 : u.cell? ⟨G, 4, Option.none⟩ = some (.int .i64 15) := hs.cell 4
      have q5 : u.cell? ⟨G, 5, Option.none⟩ = some (.int .i64 1) := hs.cell 5
      have q6 : u.cell? ⟨G, 6, Option.none⟩ = some (.int .i64 3100) := hs.cell 6
      have q7 : u.cell? ⟨G, 7, Option.none⟩ = some (.int .i64 3) := hs.cell 7
      have q8 : u.cell? ⟨G, 8, Option.none⟩ = some (.int .i64 0) := hs.cell 8
      have q9 : u.cell? ⟨G, 9, Option.none⟩ = some (.int .i64 0) := hs.cell 9
      go_simp
      exact hK.out _ _ ⟨_, _, _, _, _, _, _, _, _, _, _, by (simp only [putAll, Act.put, List.setIfInBounds_toArray, List.set_cons_zero, List.set_cons_succ]), ⟨hF.two, hF.d6, hF.d7, fun _ => rfl, hF.vd, hF.vo, hF.vc, hF.vm, hF.v0, hF.v1, hF.v2, hF.v8⟩⟩
    refine Steps.cons (i := 1) rfl ?_ ?_
    · rintro L a u ⟨xl, xd, xo, xc, xm, y0, y1, y2, x6, x7, x8, rfl, hF⟩ hi hd K hK
      simp only [putAll, Act.put, List.setIfInBounds_toArray, List.set_cons_zero, List.set_cons_succ]
      (try simp [Region.binds] at hd)
      go_simp
      refine (d0301 _).mono ?_
      rintro e u1 ⟨rfl, rfl⟩
      go_wp2_with fail
      exact hK.out _ _ ⟨_, _, _, _, _, _, _, _, _, _, _, by (simp only [putAll, Act.put, List.setIfInBounds_toArray, List.set_cons_zero, List.set_cons_succ]), ⟨hF.two, hF.d6, hF.d7, hF.vl, fun _ => rfl, hF.vo, hF.vc, hF.vm, hF.v0, hF.v1, hF.v2, hF.v8⟩⟩
    refine Steps.cons (i := 2) rfl ?_ ?_
    · rintro L a u ⟨xl, xd, xo, xc, xm, y0, y1, y2, x6, x7, x8, rfl, hF⟩ hi hd K hK
      simp only [putAll, Act.put, List.setIfInBounds_toArray, List.set_cons_zero, List.set_cons_succ]
      (try simp [Region.binds] at hd)
      go_simp
      exact hK.out _ _ ⟨_, _, _, _, _, _, _, _, _, _, _, by (simp only [putAll, Act.put, List.setIfInBounds_toArray, List.set_cons_zero, List.set_cons_succ]), ⟨hF.two, hF.d6, hF.d7, hF.vl, hF.vd, fun _ => rfl, hF.vc, hF.vm, hF.v0, hF.v1, hF.v2, hF.v8⟩⟩
    refine Steps.cons (i := 3) rfl ?_ ?_
    · rintro L a u ⟨xl, xd, xo, xc, xm, y0, y1, y2, x6, x7, x8, rfl, hF⟩ hi hd K hK
      simp only [putAll, Act.put, List.setIfInBounds_toArray, List.set_cons_zero, List.set_cons_succ]
      (try simp [Region.binds] at hd)
      obtain rfl := hF.vl (by simp [hd])
      obtain rfl := hF.vd (by simp [hd])
      obtain rfl := hF.vo (by simp [hd])
      go_simp
      refine (ex_chg _ (tab_later T4.out hF.two.b)).mono ?_
      rintro e u1 ⟨rfl, hb1⟩
      go_wp2_with fail
      exact hK.out _ _ ⟨_, _, _, _, _, _, _, _, _, _, _, by (simp only [putAll, Act.put, List.setIfInBounds_toArray, List.set_cons_zero, List.set_cons_succ]), ⟨hF.two.later hb1, hF.d6, hF.d7, hF.vl, hF.vd, hF.vo, fun _ => rfl, hF.vm, hF.v0, hF.v1, hF.v2, hF.v8⟩⟩
    refine Steps.cons (i := 4) rfl ?_ ?_
    · rintro L a u ⟨xl, xd, xo, xc, xm, y0, y1, y2, x6, x7, x8, rfl, hF⟩ hi hd K hK
      simp only [putAll, Act.put, List.setIfInBounds_toArray, List.set_cons_zero, List.set_cons_succ]
      (try simp [Region.binds] at hd)
      obtain rfl := hF.vc (by simp [hd])
      go_simp
      exact hK.out _ _ ⟨_, _, _, _, _, _, _, _, _, _, _, by (simp only [putAll, Act.put, List.setIfInBounds_toArray, List.set_cons_zero, List.set_cons_succ]), ⟨hF.two, hF.d6, hF.d7, hF.vl, hF.vd, hF.vo, hF.vc, fun _ => rfl, hF.v0, hF.v1, hF.v2, hF.v8⟩⟩
    refine Steps.cons (i := 5) rfl ?_ ?_
    · rintro L a u ⟨xl, xd, xo, xc, xm, y0, y1, y2, x6, x7, x8, rfl, hF⟩ hi hd K hK
      simp only [putAll, Act.put, List.setIfInBounds_toArray, List.set_cons_zero, List.set_cons_succ]
      (try simp [Region.binds] at hd)
      obtain rfl := hF.vm (by simp [hd])
      go_simp
      exact hK.out _ _ ⟨_, _, _, _, _, _, _, _, _, _, _, by (simp only [putAll, Act.put, List.setIfInBounds_toArray, List.set_cons_zero, List.set_cons_succ]), ⟨hF.two, hF.d6, hF.d7, hF.vl, hF.vd, hF.vo, hF.vc, hF.vm, fun _ => rfl, hF.v1, hF.v2, hF.v8⟩⟩
    refine Steps.cons (i := 6) rfl ?_ ?_
    · rintro L a u ⟨xl, xd, xo, xc, xm, y0, y1, y2, x6, x7, x8, rfl, hF⟩ hi hd K hK
      simp only [putAll, Act.put, List.setIfInBounds_toArray, List.set_cons_zero, List.set_cons_succ]
      (try simp [Region.binds] at hd)
      obtain rfl := hF.vm (by simp [hd])
      go_simp
      exact hK.out _ _ ⟨_, _, _, _, _, _, _, _, _, _, _, by (simp only [putAll, Act.put, List.setIfInBounds_toArray, List.set_cons_zero, List.set_cons_succ]), ⟨hF.two, hF.d6, hF.d7, hF.vl, hF.vd, hF.vo, hF.vc, hF.vm, hF.v0, fun _ => rfl, hF.v2, hF.v8⟩⟩
    refine Steps.cons (i := 7) rfl ?_ ?_
    · rintro L a u ⟨xl, xd, xo, xc, xm, y0, y1, y2, x6, x7, x8, rfl, hF⟩ hi hd K hK
      simp only [putAll, Act.put, List.setIfInBounds_toArray, List.set_cons_zero, List.set_cons_succ]
      (try simp [Region.binds] at hd)
      obtain rfl := hF.vm (by simp [hd])
      go_simp
      exact hK.out _ _ ⟨_, _, _, _, _, _, _, _, _, _, _, by (simp only [putAll, Act.put, List.setIfInBounds_toArray, List.set_cons_zero, List.set_cons_succ]), ⟨hF.two, hF.d6, hF.d7, hF.vl, hF.vd, hF.vo, hF.vc, hF.vm, hF.v0, hF.v1, fun _ => rfl, hF.v8⟩⟩
    refine Steps.cons (i := 8) rfl ?_ ?_
    · rintro L a u ⟨xl, xd, xo, xc, xm, y0, y1, y2, x6, x7, x8, rfl, hF⟩ hi hd K hK
      simp only [putAll, Act.put, List.setIfInBounds_toArray, List.set_cons_zero, List.set_cons_succ]
      (try simp [Region.binds] at hd)
      go_simp
      exact hK.out _ _ ⟨_, _, _, _, _, _, _, _, _, _, _, by (simp only [putAll, Act.put, List.setIfInBounds_toArray, List.set_cons_zero, List.set_cons_succ]), ⟨hF.two.al6 (off_of hF.d6 hi), fun _ => rfl, hF.d7, hF.vl, hF.vd, hF.vo, hF.vc, hF.vm, hF.v0, hF.v1, hF.v2, hF.v8⟩⟩
    refine Steps.cons (i := 9) rfl ?_ ?_
    · rintro L a u ⟨xl, xd, xo, xc, xm, y0, y1, y2, x6, x7, x8, rfl, hF⟩ hi hd K hK
      simp only [putAll, Act.put, List.setIfInBounds_toArray, List.set_cons_zero, List.set_cons_succ]
      (try simp [Region.binds] at hd)
      go_simp
      exact hK.out _ _ ⟨_, _, _, _, _, _, _, _, _, _, _, by (simp only [putAll, Act.put, List.setIfInBounds_toArray, List.set_cons_zero, List.set_cons_succ]), ⟨hF.two.al7 (off_of hF.d7 hi), hF.d6, fun _ => rfl, hF.vl, hF.vd, hF.vo, hF.vc, hF.vm, hF.v0, hF.v1, hF.v2, hF.v8⟩⟩
    refine Steps.cons (i := 10) rfl ?_ ?_
    · rintro L a u ⟨xl, xd, xo, xc, xm, y0, y1, y2, x6, x7, x8, rfl, hF⟩ hi hd K hK
      simp only [putAll, Act.put, List.setIfInBounds_toArray, List.set_cons_zero, List.set_cons_succ]
      (try simp [Region.binds] at hd)
      obtain rfl := hF.v0 (by simp [hd])
      have ha : L 8 = true := by simp [hd]
      obtain ⟨B, rfl, hB⟩ := hF.two.at6 ha hi
      obtain ⟨q0, q1, q2, q3, q4, q5, q6, q7, q8, q9, r0, r1, r2, r3, r4, r5, r6, r7, r8, r9⟩ := blk_writes hB
      go_simp
      exact hK.out _ _ ⟨_, _, _, _, _, _, _, _, _, _, _, by (simp only [putAll, Act.put, List.setIfInBounds_toArray, List.set_cons_zero, List.set_cons_succ]), ⟨hF.two.st6 ha hi, fun _ => ha, hF.d7, hF.vl, hF.vd, hF.vo, hF.vc, hF.vm, hF.v0, hF.v1, hF.v2, hF.v8⟩⟩
    refine Steps.cons (i := 11) rfl ?_ ?_
    · rintro L a u ⟨xl, xd, xo, xc, xm, y0, y1, y2, x6, x7, x8, rfl, hF⟩ hi hd K hK
      simp only [putAll, Act.put, List.setIfInBounds_toArray, List.set_cons_zero, List.set_cons_succ]
      (try simp [Region.binds] at hd)
      obtain rfl := hF.v1 (by simp [hd])
      have ha : L 9 = true := by simp [hd]
      obtain ⟨B, rfl, hB⟩ := hF.two.at7 ha hi
      obtain ⟨q0, q1, q2, q3, r0, r1, r2, r3⟩ := blk_four hB
      go_simp
      exact hK.out _ _ ⟨_, _, _, _, _, _, _, _, _, _, _, by (simp only [putAll, Act.put, List.setIfInBounds_toArray, List.set_cons_zero, List.set_cons_succ]), ⟨hF.two.st7 ha hi, hF.d6, fun _ => ha, hF.vl, hF.vd, hF.vo, hF.vc, hF.vm, hF.v0, hF.v1, hF.v2, hF.v8⟩⟩
    refine Steps.cons (i := 12) rfl ?_ ?_
    · rintro L a u ⟨xl, xd, xo, xc, xm, y0, y1, y2, x6, x7, x8, rfl, hF⟩ hi hd K hK
      simp only [putAll, Act.put, List.setIfInBounds_toArray, List.set_cons_zero, List.set_cons_succ]
      (try simp [Region.binds] at hd)
      obtain rfl := hF.v2 (by simp [hd])
      go_simp
      exact hK.out _ _ ⟨_, _, _, _, _, _, _, _, _, _, _, by (simp only [putAll, Act.put, List.setIfInBounds_toArray, List.set_cons_zero, List.set_cons_succ]), ⟨hF.two, hF.d6, hF.d7, hF.vl, hF.vd, hF.vo, hF.vc, hF.vm, hF.v0, hF.v1, hF.v2, fun _ => rfl⟩⟩
    · exact Steps.nil
    · rintro L a u ⟨xl, xd, xo, xc, xm, y0, y1, y2, x6, x7, x8, rfl, hF⟩ hall
      obtain rfl := hF.v8 (hall 12 (by decide))
      obtain ⟨B6, rfl, -, hB6⟩ := hF.two.o6 (hall 8 (by decide))
      obtain ⟨B7, rfl, -, hB7⟩ := hF.two.o7 (hall 9 (by decide))
      rw [hall 10 (by decide)] at hB6
      rw [hall 11 (by decide)] at hB7
      have hb := hF.two.b
      clear hF hall
      simp only [putAll, Act.put, List.setIfInBounds_toArray, List.set_cons_zero, List.set_cons_succ]
      go_wp2_with fail
      go_meet
      exact ⟨B6, B7, rfl, rfl, hB6, hB7, hb⟩
  obtain ⟨-, P7, rfl, rfl, -, hP7, hb5⟩ := hcut
  generalize wc = W5 at *
  have G5 := Lib.hid (G4.out.later hb5)
  have R5 := Lib.hid (R4.out.later hb5)
  have X5 := Lib.hid (X4.out.later hb5)
  have T5 := Lib.hid (tab_later T4.out hb5)
  have B5 := Lib.hid (B4.out.trans (hb5.mono B4.out.size))
  have P5 := Lib.hid hP7
  clear hb5 G4 R4 X4 T4 B4 hP7
  go_wp2_with fail
  go_cut [9, 10, 11] (fun s9 s10 s11 wx => ∃ B6 B7, s9 = .pointer (some ⟨B6, 0, Option.none⟩) ∧ s10 = .pointer (some ⟨B7, 0, Option.none⟩) ∧ s11 = .int .i64 0 ∧ Blk wx B6 #[.int .u64 1, .int .u64 1, .int .u64 1, .int .i64 738895, .int .i64 15, .int .i64 1, .int .i64 3100, .int .i64 3, .int .i64 0, .int .i64 738960] 26 ∧ Blk wx B7 #[.int .i64 0, .int .i64 0, .int .i64 0, .int .i64 0] 45 ∧ Below W5.heap.size W5 wx)
  case first =>
    refine wp_region_inv (I := (fun A L a u => ∃ (xl xd xc xm y0 y1 y2 x6 x7 x8 : Value), a = putAll A [(44, xl), (45, xd), (46, xc), (43, xm), (47, y0), (48, y1), (49, y2), (9, x6), (10, x7), (11, x8)] ∧ Fz W5 (.agg #[.int .u64 1, .int .u64 1, .int .u64 1, .int .i64 738895, .int .i64 15, .int .i64 1, .int .i64 3100, .int .i64 3, .int .i64 0, .int .i64 0]) (.int .i64 738946) (undef) (.tuple #[.agg #[.int .u64 1, .int .u64 1, .int .u64 1, .int .i64 738895, .int .i64 15, .int .i64 1, .int .i64 3100, .int .i64 3, .int .i64 0, .int .i64 738960], .agg #[.int .i64 0, .int .i64 0, .int .i64 0, .int .i64 0], .int .i64 0]) #[.int .u64 1, .int .u64 1, .int .u64 1, .int .i64 738895, .int .i64 15, .int .i64 1, .int .i64 3100, .int .i64 3, .int .i64 0, .int .i64 738960] #[.int .i64 0, .int .i64 0, .int .i64 0, .int .i64 0] (L 0) (L 1) false (L 2) (L 3) (L 4) (L 5) (L 6) (L 7) (L 9) (L 8) (L 10) (L 11) xl xd undef xc xm y0 y1 y2 x6 x7 x8 u)) (by kernel_rfl) (by kernel_rfl) ?_ ?_ ?_
    · intro L hL
      exact ⟨_, _, _, _, _, _, _, _, _, _, by (simp only [putAll, Act.put, List.setIfInBounds_toArray, List.set_cons_zero, List.set_cons_succ]; rfl), Fz.start ⟨hL 0 (by decide), hL 1 (by decide), rfl, hL 2 (by decide), hL 3 (by decide), hL 4 (by decide), hL 5 (by decide), hL 6 (by decide), hL 7 (by decide), hL 9 (by decide), hL 8 (by decide), hL 10 (by decide), hL 11 (by decide)⟩ ((Below.refl _ W5).drew)⟩
    refine Steps.cons (i := 0) rfl ?_ ?_
    · rintro L a u ⟨xl, xd, xc, xm, y0, y1, y2, x6, x7, x8, rfl, hF⟩ hi hd K hK
      simp only [putAll, Act.put, List.setIfInBounds_toArray, List.set_cons_zero, List.set_cons_succ]
      (try simp [Region.binds] at hd)
      have hs := G5.out.later hF.two.b
      have q0 : u.cell? ⟨G, 0, Option.none⟩ = some (.int .u64 1) := hs.cell 0
      have q1 : u.cell? ⟨G, 1, Option.none⟩ = some (.int .u64 1) := hs.cell 1
      have q2 : u.cell? ⟨G, 2, Option.none⟩ = some (.int .u64 1) := hs.cell 2
      have q3 : u.cell? ⟨G, 3, Option.none⟩ = some (.int .i64 738895) := hs.cell 3
      have q4 : u.cell? ⟨G, 4, Option.none⟩ = some (.int .i64 15) := hs.cell 4
      have q5 : u.cell? ⟨G, 5, Option.none⟩ = some (.int .i64 1) := hs.cell 5
      have q6 : u.cell? ⟨G, 6, Option.none⟩ = some (.int .i64 3100) := hs.cell 6
      have q7 : u.cell? ⟨G, 7, Option.none⟩ = some (.int .i64 3) := hs.cell 7
      have q8 : u.cell? ⟨G, 8, Option.none⟩ = some (.int .i64 0) := hs.cell 8
      have q9 : u.cell? ⟨G, 9, Option.none⟩ = some (.int .i64 0) := hs.cell 9
      go_simp
      exact hK.out _ _ ⟨_, _, _, _, _, _, _, _, _, _, by (simp only [putAll, Act.put, List.setIfInBounds_toArray, List.set_cons_zero, List.set_cons_succ]), ⟨hF.two, hF.d6, hF.d7, fun _ => rfl, hF.vd, hF.vo, hF.vc, hF.vm, hF.v0, hF.v1, hF.v2, hF.v8⟩⟩
    refine Steps.cons (i := 1) rfl ?_ ?_
    · rintro L a u ⟨xl, xd, xc, xm, y0, y1, y2, x6, x7, x8, rfl, hF⟩ hi hd K hK
      simp only [putAll, Act.put, List.setIfInBounds_toArray, List.set_cons_zero, List.set_cons_succ]
      (try simp [Region.binds] at hd)
      go_simp
      refine (d0301 _).mono ?_
      rintro e u1 ⟨rfl, rfl⟩
      go_wp2_with fail
      exact hK.out _ _ ⟨_, _, _, _, _, _, _, _, _, _, by (simp only [putAll, Act.put, List.setIfInBounds_toArray, List.set_cons_zero, List.set_cons_succ]), ⟨hF.two, hF.d6, hF.d7, hF.vl, fun _ => rfl, hF.vo, hF.vc, hF.vm, hF.v0, hF.v1, hF.v2, hF.v8⟩⟩
    refine Steps.cons (i := 2) rfl ?_ ?_
    · rintro L a u ⟨xl, xd, xc, xm, y0, y1, y2, x6, x7, x8, rfl, hF⟩ hi hd K hK
      simp only [putAll, Act.put, List.setIfInBounds_toArray, List.set_cons_zero, List.set_cons_succ]
      (try simp [Region.binds] at hd)
      obtain rfl := hF.vl (by simp [hd])
      obtain rfl := hF.vd (by simp [hd])
      go_simp
      refine (ex_can0 _ (tab_later T5.out hF.two.b)).mono ?_
      rintro e u1 ⟨rfl, hb1⟩
      go_wp2_with fail
      exact hK.out _ _ ⟨_, _, _, _, _, _, _, _, _, _, by (simp only [putAll, Act.put, List.setIfInBounds_toArray, List.set_cons_zero, List.set_cons_succ]), ⟨hF.two.later hb1, hF.d6, hF.d7, hF.vl, hF.vd, hF.vo, fun _ => rfl, hF.vm, hF.v0, hF.v1, hF.v2, hF.v8⟩⟩
    refine Steps.cons (i := 3) rfl ?_ ?_
    · rintro L a u ⟨xl, xd, xc, xm, y0, y1, y2, x6, x7, x8, rfl, hF⟩ hi hd K hK
      simp only [putAll, Act.put, List.setIfInBounds_toArray, List.set_cons_zero, List.set_cons_succ]
      (try simp [Region.binds] at hd)
      obtain rfl := hF.vc (by simp [hd])
      go_simp
      exact hK.out _ _ ⟨_, _, _, _, _, _, _, _, _, _, by (simp only [putAll, Act.put, List.setIfInBounds_toArray, List.set_cons_zero, List.set_cons_succ]), ⟨hF.two, hF.d6, hF.d7, hF.vl, hF.vd, hF.vo, hF.vc, fun _ => rfl, hF.v0, hF.v1, hF.v2, hF.v8⟩⟩
    refine Steps.cons (i := 4) rfl ?_ ?_
    · rintro L a u ⟨xl, xd, xc, xm, y0, y1, y2, x6, x7, x8, rfl, hF⟩ hi hd K hK
      simp only [putAll, Act.put, List.setIfInBounds_toArray, List.set_cons_zero, List.set_cons_succ]
      (try simp [Region.binds] at hd)
      obtain rfl := hF.vm (by simp [hd])
      go_simp
      exact hK.out _ _ ⟨_, _, _, _, _, _, _, _, _, _, by (simp only [putAll, Act.put, List.setIfInBounds_toArray, List.set_cons_zero, List.set_cons_succ]), ⟨hF.two, hF.d6, hF.d7, hF.vl, hF.vd, hF.vo, hF.vc, hF.vm, fun _ => rfl, hF.v1, hF.v2, hF.v8⟩⟩
    refine Steps.cons (i := 5) rfl ?_ ?_
    · rintro L a u ⟨xl, xd, xc, xm, y0, y1, y2, x6, x7, x8, rfl, hF⟩ hi hd K hK
      simp only [putAll, Act.put, List.setIfInBounds_toArray, List.set_cons_zero, List.set_cons_succ]
      (try simp [Region.binds] at hd)
      obtain rfl := hF.vm (by simp [hd])
      go_simp
      exact hK.out _ _ ⟨_, _, _, _, _, _, _, _, _, _, by (simp only [putAll, Act.put, List.setIfInBounds_toArray, List.set_cons_zero, List.set_cons_succ]), ⟨hF.two, hF.d6, hF.d7, hF.vl, hF.vd, hF.vo, hF.vc, hF.vm, hF.v0, fun _ => rfl, hF.v2, hF.v8⟩⟩
    refine Steps.cons (i := 6) rfl ?_ ?_
    · rintro L a u ⟨xl, xd, xc, xm, y0, y1, y2, x6, x7, x8, rfl, hF⟩ hi hd K hK
      simp only [putAll, Act.put, List.setIfInBounds_toArray, List.set_cons_zero, List.set_cons_succ]
      (try simp [Region.binds] at hd)
      obtain rfl := hF.vm (by simp [hd])
      go_simp
      exact hK.out _ _ ⟨_, _, _, _, _, _, _, _, _, _, by (simp only [putAll, Act.put, List.setIfInBounds_toArray, List.set_cons_zero, List.set_cons_succ]), ⟨hF.two, hF.d6, hF.d7, hF.vl, hF.vd, hF.vo, hF.vc, hF.vm, hF.v0, hF.v1, fun _ => rfl, hF.v8⟩⟩
    refine Steps.cons (i := 7) rfl ?_ ?_
    · rintro L a u ⟨xl, xd, xc, xm, y0, y1, y2, x6, x7, x8, rfl, hF⟩ hi hd K hK
      simp only [putAll, Act.put, List.setIfInBounds_toArray, List.set_cons_zero, List.set_cons_succ]
      (try simp [Region.binds] at hd)
      go_simp
      exact hK.out _ _ ⟨_, _, _, _, _, _, _, _, _, _, by (simp only [putAll, Act.put, List.setIfInBounds_toArray, List.set_cons_zero, List.set_cons_succ]), ⟨hF.two.al6 (off_of hF.d6 hi), fun _ => rfl, hF.d7, hF.vl, hF.vd, hF.vo, hF.vc, hF.vm, hF.v0, hF.v1, hF.v2, hF.v8⟩⟩
    refine Steps.cons (i := 8) rfl ?_ ?_
    · rintro L a u ⟨xl, xd, xc, xm, y0, y1, y2, x6, x7, x8, rfl, hF⟩ hi hd K hK
      simp only [putAll, Act.put, List.setIfInBounds_toArray, List.set_cons_zero, List.set_cons_succ]
      (try simp [Region.binds] at hd)
      go_simp
      exact hK.out _ _ ⟨_, _, _, _, _, _, _, _, _, _, by (simp only [putAll, Act.put, List.setIfInBounds_toArray, List.set_cons_zero, List.set_cons_succ]), ⟨hF.two.al7 (off_of hF.d7 hi), hF.d6, fun _ => rfl, hF.vl, hF.vd, hF.vo, hF.vc, hF.vm, hF.v0, hF.v1, hF.v2, hF.v8⟩⟩
    refine Steps.cons (i := 9) rfl ?_ ?_
    · rintro L a u ⟨xl, xd, xc, xm, y0, y1, y2, x6, x7, x8, rfl, hF⟩ hi hd K hK
      simp only [putAll, Act.put, List.setIfInBounds_toArray, List.set_cons_zero, List.set_cons_succ]
      (try simp [Region.binds] at hd)
      obtain rfl := hF.v0 (by simp [hd])
      have ha : L 7 = true := by simp [hd]
      obtain ⟨B, rfl, hB⟩ := hF.two.at6 ha hi
      obtain ⟨q0, q1, q2, q3, q4, q5, q6, q7, q8, q9, r0, r1, r2, r3, r4, r5, r6, r7, r8, r9⟩ := blk_writes hB
      go_simp
      exact hK.out _ _ ⟨_, _, _, _, _, _, _, _, _, _, by (simp only [putAll, Act.put, List.setIfInBounds_toArray, List.set_cons_zero, List.set_cons_succ]), ⟨hF.two.st6 ha hi, fun _ => ha, hF.d7, hF.vl, hF.vd, hF.vo, hF.vc, hF.vm, hF.v0, hF.v1, hF.v2, hF.v8⟩⟩
    refine Steps.cons (i := 10) rfl ?_ ?_
    · rintro L a u ⟨xl, xd, xc, xm, y0, y1, y2, x6, x7, x8, rfl, hF⟩ hi hd K hK
      simp only [putAll, Act.put, List.setIfInBounds_toArray, List.set_cons_zero, List.set_cons_succ]
      (try simp [Region.binds] at hd)
      obtain rfl := hF.v1 (by simp [hd])
      have ha : L 8 = true := by simp [hd]
      obtain ⟨B, rfl, hB⟩ := hF.two.at7 ha hi
      obtain ⟨q0, q1, q2, q3, r0, r1, r2, r3⟩ := blk_four hB
      go_simp
      exact hK.out _ _ ⟨_, _, _, _, _, _, _, _, _, _, by (simp only [putAll, Act.put, List.setIfInBounds_toArray, List.set_cons_zero, List.set_cons_succ]), ⟨hF.two.st7 ha hi, hF.d6, fun _ => ha, hF.vl, hF.vd, hF.vo, hF.vc, hF.vm, hF.v0, hF.v1, hF.v2, hF.v8⟩⟩
    refine Steps.cons (i := 11) rfl ?_ ?_
    · rintro L a u ⟨xl, xd, xc, xm, y0, y1, y2, x6, x7, x8, rfl, hF⟩ hi hd K hK
      simp only [putAll, Act.put, List.setIfInBounds_toArray, List.set_cons_zero, List.set_cons_succ]
      (try simp [Region.binds] at hd)
      obtain rfl := hF.v2 (by simp [hd])
      go_simp
      exact hK.out _ _ ⟨_, _, _, _, _, _, _, _, _, _, by (simp only [putAll, Act.put, List.setIfInBounds_toArray, List.set_cons_zero, List.set_cons_succ]), ⟨hF.two, hF.d6, hF.d7, hF.vl, hF.vd, hF.vo, hF.vc, hF.vm, hF.v0, hF.v1, hF.v2, fun _ => rfl⟩⟩
    · exact Steps.nil
    · rintro L a u ⟨xl, xd, xc, xm, y0, y1, y2, x6, x7, x8, rfl, hF⟩ hall
      obtain rfl := hF.v8 (hall 11 (by decide))
      obtain ⟨B6, rfl, -, hB6⟩ := hF.two.o6 (hall 7 (by decide))
      obtain ⟨B7, rfl, -, hB7⟩ := hF.two.o7 (hall 8 (by decide))
      rw [hall 9 (by decide)] at hB6
      rw [hall 10 (by decide)] at hB7
      have hb := hF.two.b
      clear hF hall
      simp only [putAll, Act.put, List.setIfInBounds_toArray, List.set_cons_zero, List.set_cons_succ]
      go_wp2_with fail
      go_meet
      exact ⟨B6, B7, rfl, rfl, rfl, hB6, hB7, hb⟩
  obtain ⟨P9, P10, rfl, rfl, rfl, hP9, hP10, hb6⟩ := hcut
  generalize wc = W6 at *
  have G6 := Lib.hid (G5.out.later hb6)
  have R6 := Lib.hid (R5.out.later hb6)
  have X6 := Lib.hid (X5.out.later hb6)
  have T6 := Lib.hid (tab_later T5.out hb6)
  have B6 := Lib.hid (B5.out.trans (hb6.mono B5.out.size))
  have P6 := Lib.hid (P5.out.later hb6)
  have N6 := Lib.hid hP9
  have M6 := Lib.hid hP10
  clear hb6 G5 R5 X5 T5 B5 P5 hP9 hP10
  go_wp2_with fail
  go_cut [12, 13, 14] (fun s12 s13 s14 wx => ∃ B6 B7, s12 = .pointer (some ⟨B6, 0, Option.none⟩) ∧ s13 = .pointer (some ⟨B7, 0, Option.none⟩) ∧ s14 = .int .i64 0 ∧ Blk wx B6 #[.int .u64 1, .int .u64 1, .int .u64 1, .int .i64 738895, .int .i64 15, .int .i64 1, .int .i64 3100, .int .i64 3, .int .i64 0, .int .i64 738946] 26 ∧ Blk wx B7 #[.int .i64 738946, .int .i64 738960, .int .i64 1497, .int .i64 0] 45 ∧ Below W6.heap.size W6 wx)
  case first =>
    refine wp_region_inv (I := (fun A L a u => ∃ (xl xd xc xm y0 y1 y2 x6 x7 x8 : Value), a = putAll A [(51, xl), (52, xd), (53, xc), (50, xm), (54, y0), (55, y1), (56, y2), (12, x6), (13, x7), (14, x8)] ∧ Fz W6 (.agg #[.int .u64 1, .int .u64 1, .int .u64 1, .int .i64 738895, .int .i64 15, .int .i64 1, .int .i64 3100, .int .i64 3, .int .i64 0, .int .i64 0]) (.int .i64 738946) (undef) (.tuple #[.agg #[.int .u64 1, .int .u64 1, .int .u64 1, .int .i64 738895, .int .i64 15, .int .i64 1, .int .i64 3100, .int .i64 3, .int .i64 0, .int .i64 738946], .agg #[.int .i64 738946, .int .i64 738960, .int .i64 1497, .int .i64 0], .int .i64 0]) #[.int .u64 1, .int .u64 1, .int .u64 1, .int .i64 738895, .int .i64 15, .int .i64 1, .int .i64 3100, .int .i64 3, .int .i64 0, .int .i64 738946] #[.int .i64 738946, .int .i64 738960, .int .i64 1497, .int .i64 0] (L 0) (L 1) false (L 2) (L 3) (L 4) (L 5) (L 6) (L 7) (L 9) (L 8) (L 10) (L 11) xl xd undef xc xm y0 y1 y2 x6 x7 x8 u)) (by kernel_rfl) (by kernel_rfl) ?_ ?_ ?_
    · intro L hL
      exact ⟨_, _, _, _, _, _, _, _, _, _, by (simp only [putAll, Act.put, List.setIfInBounds_toArray, List.set_cons_zero, List.set_cons_succ]; rfl), Fz.start ⟨hL 0 (by decide), hL 1 (by decide), rfl, hL 2 (by decide), hL 3 (by decide), hL 4 (by decide), hL 5 (by decide), hL 6 (by decide), hL 7 (by decide), hL 9 (by decide), hL 8 (by decide), hL 10 (by decide), hL 11 (by decide)⟩ ((Below.refl _ W6).drew)⟩
    refine Steps.cons (i := 0) rfl ?_ ?_
    · rintro L a u ⟨xl, xd, xc, xm, y0, y1, y2, x6, x7, x8, rfl, hF⟩ hi hd K hK
      simp only [putAll, Act.put, List.setIfInBounds_toArray, List.set_cons_zero, List.set_cons_succ]
      (try simp [Region.binds] at hd)
      have hs := G6.out.later hF.two.b
      have q0 : u.cell? ⟨G, 0, Option.none⟩ = some (.int .u64 1) := hs.cell 0
      have q1 : u.cell? ⟨G, 1, Option.none⟩ = some (.int .u64 1) := hs.cell 1
      have q2 : u.cell? ⟨G, 2, Option.none⟩ = some (.int .u64 1) := hs.cell 2
      have q3 : u.cell? ⟨G, 3, Option.none⟩ = some (.int .i64 738895) := hs.cell 3
      have q4 : u.cell? ⟨G, 4, Option.none⟩ = some (.int .i64 15) := hs.cell 4
      have q5 : u.cell? ⟨G, 5, Option.none⟩ = some (.int .i64 1) := hs.cell 5
      have q6 : u.cell? ⟨G, 6, Option.none⟩ = some (.int .i64 3100) := hs.cell 6
      have q7 : u.cell? ⟨G, 7, Option.none⟩ = some (.int .i64 3) := hs.cell 7
      have q8 : u.cell? ⟨G, 8, Option.none⟩ = some (.int .i64 0) := hs.cell 8
      have q9 : u.cell? ⟨G, 9, Option.none⟩ = some (.int .i64 0) := hs.cell 9
      go_simp
      exact hK.out _ _ ⟨_, _, _, _, _, _, _, _, _, _, by (simp only [putAll, Act.put, List.setIfInBounds_toArray, List.set_cons_zero, List.set_cons_succ]), ⟨hF.two, hF.d6, hF.d7, fun _ => rfl, hF.vd, hF.vo, hF.vc, hF.vm, hF.v0, hF.v1, hF.v2, hF.v8⟩⟩
    refine Steps.cons (i := 1) rfl ?_ ?_
    · rintro L a u ⟨xl, xd, xc, xm, y0, y1, y2, x6, x7, x8, rfl, hF⟩ hi hd K hK
      simp only [putAll, Act.put, List.setIfInBounds_toArray, List.set_cons_zero, List.set_cons_succ]
      (try simp [Region.binds] at hd)
      go_simp
      refine (d0301 _).mono ?_
      rintro e u1 ⟨rfl, rfl⟩
      go_wp2_with fail
      exact hK.out _ _ ⟨_, _, _, _, _, _, _, _, _, _, by (simp only [putAll, Act.put, List.setIfInBounds_toArray, List.set_cons_zero, List.set_cons_succ]), ⟨hF.two, hF.d6, hF.d7, hF.vl, fun _ => rfl, hF.vo, hF.vc, hF.vm, hF.v0, hF.v1, hF.v2, hF.v8⟩⟩
    refine Steps.cons (i := 2) rfl ?_ ?_
    · rintro L a u ⟨xl, xd, xc, xm, y0, y1, y2, x6, x7, x8, rfl, hF⟩ hi hd K hK
      simp only [putAll, Act.put, List.setIfInBounds_toArray, List.set_cons_zero, List.set_cons_succ]
      (try simp [Region.binds] at hd)
      obtain rfl := hF.vl (by simp [hd])
      obtain rfl := hF.vd (by simp [hd])
      go_simp
      refine (ex_can1 _ (tab_later T6.out hF.two.b)).mono ?_
      rintro e u1 ⟨rfl, hb1⟩
      go_wp2_with fail
      exact hK.out _ _ ⟨_, _, _, _, _, _, _, _, _, _, by (simp only [putAll, Act.put, List.setIfInBounds_toArray, List.set_cons_zero, List.set_cons_succ]), ⟨hF.two.later hb1, hF.d6, hF.d7, hF.vl, hF.vd, hF.vo, fun _ => rfl, hF.vm, hF.v0, hF.v1, hF.v2, hF.v8⟩⟩
    refine Steps.cons (i := 3) rfl ?_ ?_
    · rintro L a u ⟨xl, xd, xc, xm, y0, y1, y2, x6, x7, x8, rfl, hF⟩ hi hd K hK
      simp only [putAll, Act.put, List.setIfInBounds_toArray, List.set_cons_zero, List.set_cons_succ]
      (try simp [Region.binds] at hd)
      obtain rfl := hF.vc (by simp [hd])
      go_simp
      exact hK.out _ _ ⟨_, _, _, _, _, _, _, _, _, _, by (simp only [putAll, Act.put, List.setIfInBounds_toArray, List.set_cons_zero, List.set_cons_succ]), ⟨hF.two, hF.d6, hF.d7, hF.vl, hF.vd, hF.vo, hF.vc, fun _ => rfl, hF.v0, hF.v1, hF.v2, hF.v8⟩⟩
    refine Steps.cons (i := 4) rfl ?_ ?_
    · rintro L a u ⟨xl, xd, xc, xm, y0, y1, y2, x6, x7, x8, rfl, hF⟩ hi hd K hK
      simp only [putAll, Act.put, List.setIfInBounds_toArray, List.set_cons_zero, List.set_cons_succ]
      (try simp [Region.binds] at hd)
      obtain rfl := hF.vm (by simp [hd])
      go_simp
      exact hK.out _ _ ⟨_, _, _, _, _, _, _, _, _, _, by (simp only [putAll, Act.put, List.setIfInBounds_toArray, List.set_cons_zero, List.set_cons_succ]), ⟨hF.two, hF.d6, hF.d7, hF.vl, hF.vd, hF.vo, hF.vc, hF.vm, fun _ => rfl, hF.v1, hF.v2, hF.v8⟩⟩
    refine Steps.cons (i := 5) rfl ?_ ?_
    · rintro L a u ⟨xl, xd, xc, xm, y0, y1, y2, x6, x7, x8, rfl, hF⟩ hi hd K hK
      simp only [putAll, Act.put, List.setIfInBounds_toArray, List.set_cons_zero, List.set_cons_succ]
      (try simp [Region.binds] at hd)
      obtain rfl := hF.vm (by simp [hd])
      go_simp
      exact hK.out _ _ ⟨_, _, _, _, _, _, _, _, _, _, by (simp only [putAll, Act.put, List.setIfInBounds_toArray, List.set_cons_zero, List.set_cons_succ]), ⟨hF.two, hF.d6, hF.d7, hF.vl, hF.vd, hF.vo, hF.vc, hF.vm, hF.v0, fun _ => rfl, hF.v2, hF.v8⟩⟩
    refine Steps.cons (i := 6) rfl ?_ ?_
    · rintro L a u ⟨xl, xd, xc, xm, y0, y1, y2, x6, x7, x8, rfl, hF⟩ hi hd K hK
      simp only [putAll, Act.put, List.setIfInBounds_toArray, List.set_cons_zero, List.set_cons_succ]
      (try simp [Region.binds] at hd)
      obtain rfl := hF.vm (by simp [hd])
      go_simp
      exact hK.out _ _ ⟨_, _, _, _, _, _, _, _, _, _, by (simp only [putAll, Act.put, List.setIfInBounds_toArray, List.set_cons_zero, List.set_cons_succ]), ⟨hF.two, hF.d6, hF.d7, hF.vl, hF.vd, hF.vo, hF.vc, hF.vm, hF.v0, hF.v1, fun _ => rfl, hF.v8⟩⟩
    refine Steps.cons (i := 7) rfl ?_ ?_
    · rintro L a u ⟨xl, xd, xc, xm, y0, y1, y2, x6, x7, x8, rfl, hF⟩ hi hd K hK
      simp only [putAll, Act.put, List.setIfInBounds_toArray, List.set_cons_zero, List.set_cons_succ]
      (try simp [Region.binds] at hd)
      go_simp
      exact hK.out _ _ ⟨_, _, _, _, _, _, _, _, _, _, by (simp only [putAll, Act.put, List.setIfInBounds_toArray, List.set_cons_zero, List.set_cons_succ]), ⟨hF.two.al6 (off_of hF.d6 hi), fun _ => rfl, hF.d7, hF.vl, hF.vd, hF.vo, hF.vc, hF.vm, hF.v0, hF.v1, hF.v2, hF.v8⟩⟩
    refine Steps.cons (i := 8) rfl ?_ ?_
    · rintro L a u ⟨xl, xd, xc, xm, y0, y1, y2, x6, x7, x8, rfl, hF⟩ hi hd K hK
      simp only [putAll, Act.put, List.setIfInBounds_toArray, List.set_cons_zero, List.set_cons_succ]
      (try simp [Region.binds] at hd)
      go_simp
      exact hK.out _ _ ⟨_, _, _, _, _, _, _, _, _, _, by (simp only [putAll, Act.put, List.setIfInBounds_toArray, List.set_cons_zero, List.set_cons_succ]), ⟨hF.two.al7 (off_of hF.d7 hi), hF.d6, fun _ => rfl, hF.vl, hF.vd, hF.vo, hF.vc, hF.vm, hF.v0, hF.v1, hF.v2, hF.v8⟩⟩
    refine Steps.cons (i := 9) rfl ?_ ?_
    · rintro L a u ⟨xl, xd, xc, xm, y0, y1, y2, x6, x7, x8, rfl, hF⟩ hi hd K hK
      simp only [putAll, Act.put, List.setIfInBounds_toArray, List.set_cons_zero, List.set_cons_succ]
      (try simp [Region.binds] at hd)
      obtain rfl := hF.v0 (by simp [hd])
      have ha : L 7 = true := by simp [hd]
      obtain ⟨B, rfl, hB⟩ := hF.two.at6 ha hi
      obtain ⟨q0, q1, q2, q3, q4, q5, q6, q7, q8, q9, r0, r1, r2, r3, r4, r5, r6, r7, r8, r9⟩ := blk_writes hB
      go_simp
      exact hK.out _ _ ⟨_, _, _, _, _, _, _, _, _, _, by (simp only [putAll, Act.put, List.setIfInBounds_toArray, List.set_cons_zero, List.set_cons_succ]), ⟨hF.two.st6 ha hi, fun _ => ha, hF.d7, hF.vl, hF.vd, hF.vo, hF.vc, hF.vm, hF.v0, hF.v1, hF.v2, hF.v8⟩⟩
    refine Steps.cons (i := 10) rfl ?_ ?_
    · rintro L a u ⟨xl, xd, xc, xm, y0, y1, y2, x6, x7, x8, rfl, hF⟩ hi hd K hK
      simp only [putAll, Act.put, List.setIfInBounds_toArray, List.set_cons_zero, List.set_cons_succ]
      (try simp [Region.binds] at hd)
      obtain rfl := hF.v1 (by simp [hd])
      have ha : L 8 = true := by simp [hd]
      obtain ⟨B, rfl, hB⟩ := hF.two.at7 ha hi
      obtain ⟨q0, q1, q2, q3, r0, r1, r2, r3⟩ := blk_four hB
      go_simp
      exact hK.out _ _ ⟨_, _, _, _, _, _, _, _, _, _, by (simp only [putAll, Act.put, List.setIfInBounds_toArray, List.set_cons_zero, List.set_cons_succ]), ⟨hF.two.st7 ha hi, hF.d6, fun _ => ha, hF.vl, hF.vd, hF.vo, hF.vc, hF.vm, hF.v0, hF.v1, hF.v2, hF.v8⟩⟩
    refine Steps.cons (i := 11) rfl ?_ ?_
    · rintro L a u ⟨xl, xd, xc, xm, y0, y1, y2, x6, x7, x8, rfl, hF⟩ hi hd K hK
      simp only [putAll, Act.put, List.setIfInBounds_toArray, List.set_cons_zero, List.set_cons_succ]
      (try simp [Region.binds] at hd)
      obtain rfl := hF.v2 (by simp [hd])
      go_simp
      exact hK.out _ _ ⟨_, _, _, _, _, _, _, _, _, _, by (simp only [putAll, Act.put, List.setIfInBounds_toArray, List.set_cons_zero, List.set_cons_succ]), ⟨hF.two, hF.d6, hF.d7, hF.vl, hF.vd, hF.vo, hF.vc, hF.vm, hF.v0, hF.v1, hF.v2, fun _ => rfl⟩⟩
    · exact Steps.nil
    · rintro L a u ⟨xl, xd, xc, xm, y0, y1, y2, x6, x7, x8, rfl, hF⟩ hall
      obtain rfl := hF.v8 (hall 11 (by decide))
      obtain ⟨B6, rfl, -, hB6⟩ := hF.two.o6 (hall 7 (by decide))
      obtain ⟨B7, rfl, -, hB7⟩ := hF.two.o7 (hall 8 (by decide))
      rw [hall 9 (by decide)] at hB6
      rw [hall 10 (by decide)] at hB7
      have hb := hF.two.b
      clear hF hall
      simp only [putAll, Act.put, List.setIfInBounds_toArray, List.set_cons_zero, List.set_cons_succ]
      go_wp2_with fail
      go_meet
      exact ⟨B6, B7, rfl, rfl, rfl, hB6, hB7, hb⟩
  obtain ⟨P12, P13, rfl, rfl, rfl, hP12, hP13, hb7⟩ := hcut
  generalize wc = W7 at *
  have R7 := Lib.hid (R6.out.later hb7)
  have X7 := Lib.hid (X6.out.later hb7)
  have T7 := Lib.hid (tab_later T6.out hb7)
  have B7 := Lib.hid (B6.out.trans (hb7.mono B6.out.size))
  have PK := Lib.hid (show ∀ u, Below W7.heap.size W7 u → u.cell? ⟨G, 7, Option.none⟩ = some (.int .i64 3) ∧ u.cell? ⟨P7, 0, Option.none⟩ = some (.int .i64 738946) ∧ u.cell? ⟨P7, 1, Option.none⟩ = some (.int .i64 738960) ∧ u.cell? ⟨P7, 2, Option.none⟩ = some (.int .i64 1497) ∧ u.cell? ⟨P7, 3, Option.none⟩ = some (.int .i64 2994) ∧ u.cell? ⟨P9, 9, Option.none⟩ = some (.int .i64 738960) ∧ u.cell? ⟨P10, 0, Option.none⟩ = some (.int .i64 0) ∧ u.cell? ⟨P10, 1, Option.none⟩ = some (.int .i64 0) ∧ u.cell? ⟨P10, 2, Option.none⟩ = some (.int .i64 0) ∧ u.cell? ⟨P10, 3, Option.none⟩ = some (.int .i64 0) ∧ u.cell? ⟨P12, 9, Option.none⟩ = some (.int .i64 738946) ∧ u.cell? ⟨P13, 2, Option.none⟩ = some (.int .i64 1497) ∧ Below W7.heap.size W7 u from fun u hu => ⟨((G6.out.later hb7).later hu).cell 7, ((P6.out.later hb7).later hu).cell 0, ((P6.out.later hb7).later hu).cell 1, ((P6.out.later hb7).later hu).cell 2, ((P6.out.later hb7).later hu).cell 3, ((N6.out.later hb7).later hu).cell 9, ((M6.out.later hb7).later hu).cell 0, ((M6.out.later hb7).later hu).cell 1, ((M6.out.later hb7).later hu).cell 2, ((M6.out.later hb7).later hu).cell 3, ((hP12).later hu).cell 9, ((hP13).later hu).cell 2, hu⟩)
  have KS := Lib.hid (show ∀ x, Below W7.heap.size W7 x → Calls Tryd.prog 13 #[.slice ad 3 cap, .slice (some ⟨GW, 0, Option.none⟩) 3 3] x (fun e w' => e = .returned (.bool true) ∧ Below x.heap.size x w') from fun x hx => same_c ex3b ad _ cap 3 x (by decide) (R7.out.later hx) (X7.out.later hx))
  have hb0 : Below W7.heap.size W7 W7.drew := (Below.refl _ _).drew
  clear hb7 R6 X6 T6 B6 G6 P6 N6 M6 hP12 hP13 R7 X7 T7
  go_wp2_with fail
  go_region_held3 (fun u => u.cell? ⟨G, 7, Option.none⟩ = some (.int .i64 3) ∧ u.cell? ⟨P7, 0, Option.none⟩ = some (.int .i64 738946) ∧ u.cell? ⟨P7, 1, Option.none⟩ = some (.int .i64 738960) ∧ u.cell? ⟨P7, 2, Option.none⟩ = some (.int .i64 1497) ∧ u.cell? ⟨P7, 3, Option.none⟩ = some (.int .i64 2994) ∧ u.cell? ⟨P9, 9, Option.none⟩ = some (.int .i64 738960) ∧ u.cell? ⟨P10, 0, Option.none⟩ = some (.int .i64 0) ∧ u.cell? ⟨P10, 1, Option.none⟩ = some (.int .i64 0) ∧ u.cell? ⟨P10, 2, Option.none⟩ = some (.int .i64 0) ∧ u.cell? ⟨P10, 3, Option.none⟩ = some (.int .i64 0) ∧ u.cell? ⟨P12, 9, Option.none⟩ = some (.int .i64 738946) ∧ u.cell? ⟨P13, 2, Option.none⟩ = some (.int .i64 1497) ∧ Below W7.heap.size W7 u)
    (exact PK.out _ (by assumption))
    (first | (go_at_call 13; (try go_split_ands); refine (KS.out _ hb0).mono ?_; rintro e u2 ⟨rfl, hb2⟩; have hb3 := hb0.trans (hb2.mono hb0.size)) | (go_at_call 34; (try go_split_ands); first | (with_reducible refine (d0301 _).mono ?_; rintro e u3 ⟨rfl, rfl⟩) | (with_reducible refine (d0315 _).mono ?_; rintro e u3 ⟨rfl, rfl⟩)))
  go_split_ands
  go_wp2_with fail
  go_ret
  exact ⟨rfl, B7.out.trans (hb3.mono B7.out.size)⟩
end Go.Proofs.YtjchecjonkmhgaaDoor.Su
