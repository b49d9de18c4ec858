/- Package subs: Change, a state that does not let it. -/
import Derived.Test.YtjchecjonkmhgaaDoorSuChg0
import Derived.Deep.DeepCutAuto
namespace Go.Proofs.YtjchecjonkmhgaaDoor.Su
open Go.RowKit Pr Cw An Rf
set_option maxRecDepth 100000 in
set_option maxHeartbeats 4000000 in
theorem chg_none (s : Sb) (m day tp tq : Int) (w : World) (hw : Tab w) (hin : In m s.c.s) (h : s.Ok m) (hd : 1 ≤ day ∧ day ≤ 3652059) (ht : 1 ≤ tp) (hq0 : 0 ≤ tq) (hq1 : tq < 4611686018427387904) (hk : ∀ k, ¬ Per s.c m day k) : Calls Tryd.prog 17 #[s.val, .int .i64 day, .agg #[.int .u64 tp, .int .i64 tq]] w (NoRes 9 w) := by
  have KC := Lib.hid (fun u hu => check_yes s m u hu hin h)
  have KD := Lib.hid (fun u => day_yes day u hd)
  have KQ := Lib.hid (fun u => price_yes tq u hq0 hq1)
  have HT := Lib.hid hw
  have D0 := Lib.hid (gx_chg w s tp tq).1
  have T0 := Lib.hid (gx_chg w s tp tq).2
  have b0 := h.num.b0
  have b1' := h.num.b1
  have KF := Lib.hid (fun u hu => con_no s m day u hu h.c hin hd hk)
  clear hd hk
  go_enter Tryd.func17, Tryd.ntmps17
  unfold Sb.val Sb.cells
  go_wp2_with fail
  refine (KC.out _ (tab_later HT.out D0.out.b)).mono ?_
  rintro e w1 ⟨rfl, b1⟩
  have D1 := Lib.hid (D0.out.later b1)
  have T1 := Lib.hid (T0.out.later b1)
  clear b1
  have t0 : w1.cell? ⟨w.heap.size + 1, 0, Option.none⟩ = some (.int .u64 tp) := T1.out.cell 0
  have t1 : w1.cell? ⟨w.heap.size + 1, 1, Option.none⟩ = some (.int .i64 tq) := T1.out.cell 1
  obtain ⟨x0, x1, x2, x3, x4, x5, x6, x7, x8, x9, xlt⟩ := Sx.of D1.out.s
  go_wp2_with fail
  refine (KD.out _).mono ?_
  rintro e w2 ⟨rfl, rfl⟩
  go_wp2_with fail
  refine (KQ.out _).mono ?_
  rintro e w3 ⟨rfl, rfl⟩
  go_wp2_with fail
  refine (KF.out _ (tab_later HT.out D1.out.b)).mono ?_
  rintro e w4 ⟨rfl, b4⟩
  have D4 := Lib.hid (D1.out.later b4)
  have T4 := Lib.hid (T1.out.later b4)
  clear b4 t0 t1
  clear x0 x1 x2 x3 x4 x5 x6 x7 x8 x9 xlt
  have hG : w.heap.size + 3 < w4.heap.size := D4.out.o.x.lt
  go_upto_region 4 with (fail)
  obtain ⟨W5, hW5⟩ : ∃ W5, w4.alloc (.cells (Pd.cells Pd.none) 70) = W5 := ⟨_, rfl⟩
  have b5 : Below w4.heap.size w4 W5 := by rw [← hW5]; exact (Below.refl _ w4).alloc (Nat.le_refl _) _
  have P5 := Lib.hid (show Blk W5 w4.heap.size (Pd.cells Pd.none) 70 by rw [← hW5]; exact Blk.new w4 _ _)
  rw [show w4.alloc (.cells #[.int .i64 (Pd.k Pd.none), .int .i64 (Pd.f Pd.none), .int .i64 (Pd.n Pd.none), .int .i64 (Pd.u Pd.none)] 70) = W5 from hW5]
  have D5 := Lib.hid (D4.out.later b5)
  have T5 := Lib.hid (T4.out.later b5)
  generalize w4.heap.size = G at *
  clear b5 hW5 D4 T4
  have p0 : W5.cell? ⟨G, 0, Option.none⟩ = some (.int .i64 (Pd.k Pd.none)) := P5.out.cell 0
  have p1 : W5.cell? ⟨G, 1, Option.none⟩ = some (.int .i64 (Pd.f Pd.none)) := P5.out.cell 1
  have p2 : W5.cell? ⟨G, 2, Option.none⟩ = some (.int .i64 (Pd.n Pd.none)) := P5.out.cell 2
  have p3 : W5.cell? ⟨G, 3, Option.none⟩ = some (.int .i64 (Pd.u Pd.none)) := P5.out.cell 3
  obtain ⟨x0, x1, x2, x3, x4, x5, x6, x7, x8, x9, xlt⟩ := Sx.of D5.out.s
  obtain ⟨y0, y1, y2, y3, y4, y5, y6, y7, y8, y9, z0, z1, z2, z3, z4, z5, z6, z7, z8, z9⟩ := blk_writes D5.out.o.r
  obtain ⟨v0, v1, v2, v3, u0, u1, u2, u3⟩ := blk_four D5.out.o.x
  go_wp2_with fail
  have HF := fin D5.out.o.r D5.out.o.x (.int .u64 0) (.int .u64 0) (.int .u64 0) (.int .i64 0) (.int .i64 0) (.int .i64 0) (.int .i64 0) (.int .i64 0) (.int .i64 0) (.int .i64 0) (.int .i64 0) (.int .i64 0) (.int .i64 0) (.int .i64 0)
  exact bodyPost_ret (res_chg rfl rfl rfl HF.1 HF.2) rfl ⟨rfl, fin_below D5.out.b (by omega) _ _ _ _ _ _ _ _ _ _ _ _ _ _⟩
set_option maxRecDepth 100000 in
set_option maxHeartbeats 4000000 in
theorem chg_k (s : Sb) (m day tp tq : Int) (w : World) (hw : Tab w) (hin : In m s.c.s) (h : s.Ok m) (hd : 1 ≤ day ∧ day ≤ 3652059) (ht : 1 ≤ tp) (hq0 : 0 ≤ tq) (hq1 : tq < 4611686018427387904) (k : Nat) (hk : Per s.c m day k) (hcase : (k : Int) ≠ s.b - 1) : Calls Tryd.prog 17 #[s.val, .int .i64 day, .agg #[.int .u64 tp, .int .i64 tq]] w (NoRes 9 w) := by
  have KC := Lib.hid (fun u hu => check_yes s m u hu hin h)
  have KD := Lib.hid (fun u => day_yes day u hd)
  have KQ := Lib.hid (fun u => price_yes tq u hq0 hq1)
  have HT := Lib.hid hw
  have D0 := Lib.hid (gx_chg w s tp tq).1
  have T0 := Lib.hid (gx_chg w s tp tq).2
  have b0 := h.num.b0
  have b1' := h.num.b1
  obtain ⟨p, hp⟩ : ∃ p, per s.c m k = p := ⟨_, rfl⟩
  have hpk : p.k = (k : Int) := by rw [← hp]; rfl
  have hpn : p.n = bnd s.c m (k + 1) := by rw [← hp]; rfl
  have KF := Lib.hid (fun u hu => con_yes s m day k u hu h.c hin hd hk)
  rw [hp] at KF
  try rw [← hpn] at hcase
  rw [← hpk] at hcase
  have HPQ := Lib.hid hp
  clear hp hpk hpn hd hk
  have q1 : (p.k != s.b - 1) = true := by simpa using hcase
  clear hcase
  go_enter Tryd.func17, Tryd.ntmps17
  unfold Sb.val Sb.cells
  go_wp2_with fail
  refine (KC.out _ (tab_later HT.out D0.out.b)).mono ?_
  rintro e w1 ⟨rfl, b1⟩
  have D1 := Lib.hid (D0.out.later b1)
  have T1 := Lib.hid (T0.out.later b1)
  clear b1
  have t0 : w1.cell? ⟨w.heap.size + 1, 0, Option.none⟩ = some (.int .u64 tp) := T1.out.cell 0
  have t1 : w1.cell? ⟨w.heap.size + 1, 1, Option.none⟩ = some (.int .i64 tq) := T1.out.cell 1
  obtain ⟨x0, x1, x2, x3, x4, x5, x6, x7, x8, x9, xlt⟩ := Sx.of D1.out.s
  go_wp2_with fail
  refine (KD.out _).mono ?_
  rintro e w2 ⟨rfl, rfl⟩
  go_wp2_with fail
  refine (KQ.out _).mono ?_
  rintro e w3 ⟨rfl, rfl⟩
  go_wp2_with fail
  refine (KF.out _ (tab_later HT.out D1.out.b)).mono ?_
  rintro e w4 ⟨rfl, b4⟩
  have D4 := Lib.hid (D1.out.later b4)
  have T4 := Lib.hid (T1.out.later b4)
  clear b4 t0 t1
  clear x0 x1 x2 x3 x4 x5 x6 x7 x8 x9 xlt
  have hG : w.heap.size + 3 < w4.heap.size := D4.out.o.x.lt
  go_upto_region 4 with (fail)
  obtain ⟨W5, hW5⟩ : ∃ W5, w4.alloc (.cells (Pd.cells p) 70) = W5 := ⟨_, rfl⟩
  have b5 : Below w4.heap.size w4 W5 := by rw [← hW5]; exact (Below.refl _ w4).alloc (Nat.le_refl _) _
  have P5 := Lib.hid (show Blk W5 w4.heap.size (Pd.cells p) 70 by rw [← hW5]; exact Blk.new w4 _ _)
  rw [show w4.alloc (.cells #[.int .i64 (Pd.k p), .int .i64 (Pd.f p), .int .i64 (Pd.n p), .int .i64 (Pd.u p)] 70) = W5 from hW5]
  have D5 := Lib.hid (D4.out.later b5)
  have T5 := Lib.hid (T4.out.later b5)
  generalize w4.heap.size = G at *
  clear b5 hW5 D4 T4
  have p0 : W5.cell? ⟨G, 0, Option.none⟩ = some (.int .i64 (Pd.k p)) := P5.out.cell 0
  have p1 : W5.cell? ⟨G, 1, Option.none⟩ = some (.int .i64 (Pd.f p)) := P5.out.cell 1
  have p2 : W5.cell? ⟨G, 2, Option.none⟩ = some (.int .i64 (Pd.n p)) := P5.out.cell 2
  have p3 : W5.cell? ⟨G, 3, Option.none⟩ = some (.int .i64 (Pd.u p)) := P5.out.cell 3
  obtain ⟨x0, x1, x2, x3, x4, x5, x6, x7, x8, x9, xlt⟩ := Sx.of D5.out.s
  obtain ⟨y0, y1, y2, y3, y4, y5, y6, y7, y8, y9, z0, z1, z2, z3, z4, z5, z6, z7, z8, z9⟩ := blk_writes D5.out.o.r
  obtain ⟨v0, v1, v2, v3, u0, u1, u2, u3⟩ := blk_four D5.out.o.x
  go_wp2_with fail
  have HF := fin D5.out.o.r D5.out.o.x (.int .u64 0) (.int .u64 0) (.int .u64 0) (.int .i64 0) (.int .i64 0) (.int .i64 0) (.int .i64 0) (.int .i64 0) (.int .i64 0) (.int .i64 0) (.int .i64 0) (.int .i64 0) (.int .i64 0) (.int .i64 0)
  exact bodyPost_ret (res_chg rfl rfl rfl HF.1 HF.2) rfl ⟨rfl, fin_below D5.out.b (by omega) _ _ _ _ _ _ _ _ _ _ _ _ _ _⟩
set_option maxRecDepth 100000 in
set_option maxHeartbeats 4000000 in
theorem chg_end (s : Sb) (m day tp tq : Int) (w : World) (hw : Tab w) (hin : In m s.c.s) (h : s.Ok m) (hd : 1 ≤ day ∧ day ≤ 3652059) (ht : 1 ≤ tp) (hq0 : 0 ≤ tq) (hq1 : tq < 4611686018427387904) (k : Nat) (hk : Per s.c m day k) (hcase : (k : Int) = s.b - 1 ∧ en s.e (bnd s.c m (k + 1)) ≤ day) : Calls Tryd.prog 17 #[s.val, .int .i64 day, .agg #[.int .u64 tp, .int .i64 tq]] w (NoRes 9 w) := by
  have KC := Lib.hid (fun u hu => check_yes s m u hu hin h)
  have KD := Lib.hid (fun u => day_yes day u hd)
  have KQ := Lib.hid (fun u => price_yes tq u hq0 hq1)
  have HT := Lib.hid hw
  have D0 := Lib.hid (gx_chg w s tp tq).1
  have T0 := Lib.hid (gx_chg w s tp tq).2
  have b0 := h.num.b0
  have b1' := h.num.b1
  obtain ⟨p, hp⟩ : ∃ p, per s.c m k = p := ⟨_, rfl⟩
  have hpk : p.k = (k : Int) := by rw [← hp]; rfl
  have hpn : p.n = bnd s.c m (k + 1) := by rw [← hp]; rfl
  have KF := Lib.hid (fun u hu => con_yes s m day k u hu h.c hin hd hk)
  rw [hp] at KF
  try rw [← hpn] at hcase
  rw [← hpk] at hcase
  have HPQ := Lib.hid hp
  clear hp hpk hpn hd hk
  have q1 : (p.k != s.b - 1) = false := by simpa using hcase.1
  have q2 : decide (en s.e p.n ≤ day) = true := by simpa using hcase.2
  clear hcase
  go_enter Tryd.func17, Tryd.ntmps17
  unfold Sb.val Sb.cells
  go_wp2_with fail
  refine (KC.out _ (tab_later HT.out D0.out.b)).mono ?_
  rintro e w1 ⟨rfl, b1⟩
  have D1 := Lib.hid (D0.out.later b1)
  have T1 := Lib.hid (T0.out.later b1)
  clear b1
  have t0 : w1.cell? ⟨w.heap.size + 1, 0, Option.none⟩ = some (.int .u64 tp) := T1.out.cell 0
  have t1 : w1.cell? ⟨w.heap.size + 1, 1, Option.none⟩ = some (.int .i64 tq) := T1.out.cell 1
  obtain ⟨x0, x1, x2, x3, x4, x5, x6, x7, x8, x9, xlt⟩ := Sx.of D1.out.s
  go_wp2_with fail
  refine (KD.out _).mono ?_
  rintro e w2 ⟨rfl, rfl⟩
  go_wp2_with fail
  refine (KQ.out _).mono ?_
  rintro e w3 ⟨rfl, rfl⟩
  go_wp2_with fail
  refine (KF.out _ (tab_later HT.out D1.out.b)).mono ?_
  rintro e w4 ⟨rfl, b4⟩
  have D4 := Lib.hid (D1.out.later b4)
  have T4 := Lib.hid (T1.out.later b4)
  clear b4 t0 t1
  clear x0 x1 x2 x3 x4 x5 x6 x7 x8 x9 xlt
  have hG : w.heap.size + 3 < w4.heap.size := D4.out.o.x.lt
  go_upto_region 4 with (fail)
  obtain ⟨W5, hW5⟩ : ∃ W5, w4.alloc (.cells (Pd.cells p) 70) = W5 := ⟨_, rfl⟩
  have b5 : Below w4.heap.size w4 W5 := by rw [← hW5]; exact (Below.refl _ w4).alloc (Nat.le_refl _) _
  have P5 := Lib.hid (show Blk W5 w4.heap.size (Pd.cells p) 70 by rw [← hW5]; exact Blk.new w4 _ _)
  rw [show w4.alloc (.cells #[.int .i64 (Pd.k p), .int .i64 (Pd.f p), .int .i64 (Pd.n p), .int .i64 (Pd.u p)] 70) = W5 from hW5]
  have D5 := Lib.hid (D4.out.later b5)
  have T5 := Lib.hid (T4.out.later b5)
  generalize w4.heap.size = G at *
  clear b5 hW5 D4 T4
  have p0 : W5.cell? ⟨G, 0, Option.none⟩ = some (.int .i64 (Pd.k p)) := P5.out.cell 0
  have p1 : W5.cell? ⟨G, 1, Option.none⟩ = some (.int .i64 (Pd.f p)) := P5.out.cell 1
  have p2 : W5.cell? ⟨G, 2, Option.none⟩ = some (.int .i64 (Pd.n p)) := P5.out.cell 2
  have p3 : W5.cell? ⟨G, 3, Option.none⟩ = some (.int .i64 (Pd.u p)) := P5.out.cell 3
  obtain ⟨x0, x1, x2, x3, x4, x5, x6, x7, x8, x9, xlt⟩ := Sx.of D5.out.s
  go_wp2_with fail
  refine (end_c p s _).mono ?_
  rintro e w6 ⟨rfl, b6⟩
  have D6 := Lib.hid (D5.out.later b6)
  clear b6 p0 p1 p2 p3
  clear x0 x1 x2 x3 x4 x5 x6 x7 x8 x9 xlt
  obtain ⟨x0, x1, x2, x3, x4, x5, x6, x7, x8, x9, xlt⟩ := Sx.of D6.out.s
  obtain ⟨y0, y1, y2, y3, y4, y5, y6, y7, y8, y9, z0, z1, z2, z3, z4, z5, z6, z7, z8, z9⟩ := blk_writes D6.out.o.r
  obtain ⟨v0, v1, v2, v3, u0, u1, u2, u3⟩ := blk_four D6.out.o.x
  go_wp2_with fail
  have HF := fin D6.out.o.r D6.out.o.x (.int .u64 0) (.int .u64 0) (.int .u64 0) (.int .i64 0) (.int .i64 0) (.int .i64 0) (.int .i64 0) (.int .i64 0) (.int .i64 0) (.int .i64 0) (.int .i64 0) (.int .i64 0) (.int .i64 0) (.int .i64 0)
  exact bodyPost_ret (res_chg rfl rfl rfl HF.1 HF.2) rfl ⟨rfl, fin_below D6.out.b (by omega) _ _ _ _ _ _ _ _ _ _ _ _ _ _⟩
set_option maxRecDepth 100000 in
set_option maxHeartbeats 4000000 in
theorem chg_since (s : Sb) (m day tp tq : Int) (w : World) (hw : Tab w) (hin : In m s.c.s) (h : s.Ok m) (hd : 1 ≤ day ∧ day ≤ 3652059) (ht : 1 ≤ tp) (hq0 : 0 ≤ tq) (hq1 : tq < 4611686018427387904) (k : Nat) (hk : Per s.c m day k) (hcase : (k : Int) = s.b - 1 ∧ ¬ en s.e (bnd s.c m (k + 1)) ≤ day ∧ day < s.s) : Calls Tryd.prog 17 #[s.val, .int .i64 day, .agg #[.int .u64 tp, .int .i64 tq]] w (NoRes 9 w) := by
  have KC := Lib.hid (fun u hu => check_yes s m u hu hin h)
  have KD := Lib.hid (fun u => day_yes day u hd)
  have KQ := Lib.hid (fun u => price_yes tq u hq0 hq1)
  have HT := Lib.hid hw
  have D0 := Lib.hid (gx_chg w s tp tq).1
  have T0 := Lib.hid (gx_chg w s tp tq).2
  have b0 := h.num.b0
  have b1' := h.num.b1
  obtain ⟨p, hp⟩ : ∃ p, per s.c m k = p := ⟨_, rfl⟩
  have hpk : p.k = (k : Int) := by rw [← hp]; rfl
  have hpn : p.n = bnd s.c m (k + 1) := by rw [← hp]; rfl
  have KF := Lib.hid (fun u hu => con_yes s m day k u hu h.c hin hd hk)
  rw [hp] at KF
  try rw [← hpn] at hcase
  rw [← hpk] at hcase
  have HPQ := Lib.hid hp
  clear hp hpk hpn hd hk
  have q1 : (p.k != s.b - 1) = false := by simpa using hcase.1
  have q2 : decide (en s.e p.n ≤ day) = false := by simpa using hcase.2.1
  have q3 : decide (day < s.s) = true := by simpa using hcase.2.2
  clear hcase
  go_enter Tryd.func17, Tryd.ntmps17
  unfold Sb.val Sb.cells
  go_wp2_with fail
  refine (KC.out _ (tab_later HT.out D0.out.b)).mono ?_
  rintro e w1 ⟨rfl, b1⟩
  have D1 := Lib.hid (D0.out.later b1)
  have T1 := Lib.hid (T0.out.later b1)
  clear b1
  have t0 : w1.cell? ⟨w.heap.size + 1, 0, Option.none⟩ = some (.int .u64 tp) := T1.out.cell 0
  have t1 : w1.cell? ⟨w.heap.size + 1, 1, Option.none⟩ = some (.int .i64 tq) := T1.out.cell 1
  obtain ⟨x0, x1, x2, x3, x4, x5, x6, x7, x8, x9, xlt⟩ := Sx.of D1.out.s
  go_wp2_with fail
  refine (KD.out _).mono ?_
  rintro e w2 ⟨rfl, rfl⟩
  go_wp2_with fail
  refine (KQ.out _).mono ?_
  rintro e w3 ⟨rfl, rfl⟩
  go_wp2_with fail
  refine (KF.out _ (tab_later HT.out D1.out.b)).mono ?_
  rintro e w4 ⟨rfl, b4⟩
  have D4 := Lib.hid (D1.out.later b4)
  have T4 := Lib.hid (T1.out.later b4)
  clear b4 t0 t1
  clear x0 x1 x2 x3 x4 x5 x6 x7 x8 x9 xlt
  have hG : w.heap.size + 3 < w4.heap.size := D4.out.o.x.lt
  go_upto_region 4 with (fail)
  obtain ⟨W5, hW5⟩ : ∃ W5, w4.alloc (.cells (Pd.cells p) 70) = W5 := ⟨_, rfl⟩
  have b5 : Below w4.heap.size w4 W5 := by rw [← hW5]; exact (Below.refl _ w4).alloc (Nat.le_refl _) _
  have P5 := Lib.hid (show Blk W5 w4.heap.size (Pd.cells p) 70 by rw [← hW5]; exact Blk.new w4 _ _)
  rw [show w4.alloc (.cells #[.int .i64 (Pd.k p), .int .i64 (Pd.f p), .int .i64 (Pd.n p), .int .i64 (Pd.u p)] 70) = W5 from hW5]
  have D5 := Lib.hid (D4.out.later b5)
  have T5 := Lib.hid (T4.out.later b5)
  generalize w4.heap.size = G at *
  clear b5 hW5 D4 T4
  have p0 : W5.cell? ⟨G, 0, Option.none⟩ = some (.int .i64 (Pd.k p)) := P5.out.cell 0
  have p1 : W5.cell? ⟨G, 1, Option.none⟩ = some (.int .i64 (Pd.f p)) := P5.out.cell 1
  have p2 : W5.cell? ⟨G, 2, Option.none⟩ = some (.int .i64 (Pd.n p)) := P5.out.cell 2
  have p3 : W5.cell? ⟨G, 3, Option.none⟩ = some (.int .i64 (Pd.u p)) := P5.out.cell 3
  obtain ⟨x0, x1, x2, x3, x4, x5, x6, x7, x8, x9, xlt⟩ := Sx.of D5.out.s
  go_wp2_with fail
  refine (end_c p s _).mono ?_
  rintro e w6 ⟨rfl, b6⟩
  have D6 := Lib.hid (D5.out.later b6)
  clear b6 p0 p1 p2 p3
  clear x0 x1 x2 x3 x4 x5 x6 x7 x8 x9 xlt
  obtain ⟨x0, x1, x2, x3, x4, x5, x6, x7, x8, x9, xlt⟩ := Sx.of D6.out.s
  obtain ⟨y0, y1, y2, y3, y4, y5, y6, y7, y8, y9, z0, z1, z2, z3, z4, z5, z6, z7, z8, z9⟩ := blk_writes D6.out.o.r
  obtain ⟨v0, v1, v2, v3, u0, u1, u2, u3⟩ := blk_four D6.out.o.x
  go_wp2_with fail
  have HF := fin D6.out.o.r D6.out.o.x (.int .u64 0) (.int .u64 0) (.int .u64 0) (.int .i64 0) (.int .i64 0) (.int .i64 0) (.int .i64 0) (.int .i64 0) (.int .i64 0) (.int .i64 0) (.int .i64 0) (.int .i64 0) (.int .i64 0) (.int .i64 0)
  exact bodyPost_ret (res_chg rfl rfl rfl HF.1 HF.2) rfl ⟨rfl, fin_below D6.out.b (by omega) _ _ _ _ _ _ _ _ _ _ _ _ _ _⟩
end Go.Proofs.YtjchecjonkmhgaaDoor.Su
