/- Package subs: Change, what is refused. -/
import Derived.Test.YtjchecjonkmhgaaDoorSuChg0
import Derived.Deep.DeepCutAuto
namespace Go.Proofs.YtjchecjonkmhgaaDoor.Su
open Go.RowKit Pr Cw An Rf
set_option maxRecDepth 100000 in
set_option maxHeartbeats 1600000 in
theorem chg_bad (s : Sb) (m day tp tq : Int) (w : World) (hw : Tab w) (hf : s.Fits) (hin : s.c.Ok → In m s.c.s) (h : ¬ s.Ok m) : Calls Tryd.prog 17 #[s.val, .int .i64 day, .agg #[.int .u64 tp, .int .i64 tq]] w (NoRes 2 w) := by
  have KC := Lib.hid (fun u hu => check_no s m u hu hf hin h)
  have HT := Lib.hid hw
  have D0 := Lib.hid (gx_chg w s tp tq).1
  have T0 := Lib.hid (gx_chg w s tp tq).2
  go_enter Tryd.func17, Tryd.ntmps17
  unfold Sb.val Sb.cells
  go_wp2_with fail
  refine (KC.out _ (tab_later HT.out D0.out.b)).mono ?_
  rintro e w1 ⟨rfl, b1⟩
  have D1 := Lib.hid (D0.out.later b1)
  have T1 := Lib.hid (T0.out.later b1)
  clear b1
  obtain ⟨y0, y1, y2, y3, y4, y5, y6, y7, y8, y9, z0, z1, z2, z3, z4, z5, z6, z7, z8, z9⟩ := blk_writes D1.out.o.r
  obtain ⟨v0, v1, v2, v3, u0, u1, u2, u3⟩ := blk_four D1.out.o.x
  go_wp2_with fail
  have HF := fin D1.out.o.r D1.out.o.x (.int .u64 0) (.int .u64 0) (.int .u64 0) (.int .i64 0) (.int .i64 0) (.int .i64 0) (.int .i64 0) (.int .i64 0) (.int .i64 0) (.int .i64 0) (.int .i64 0) (.int .i64 0) (.int .i64 0) (.int .i64 0)
  exact bodyPost_ret (res_chg rfl rfl rfl HF.1 HF.2) rfl ⟨rfl, fin_below D1.out.b (by omega) _ _ _ _ _ _ _ _ _ _ _ _ _ _⟩
set_option maxRecDepth 100000 in
set_option maxHeartbeats 1600000 in
theorem chg_day (s : Sb) (m day tp tq : Int) (w : World) (hw : Tab w) (hin : In m s.c.s) (h : s.Ok m) (hd : ¬ (1 ≤ day ∧ day ≤ 3652059)) : Calls Tryd.prog 17 #[s.val, .int .i64 day, .agg #[.int .u64 tp, .int .i64 tq]] w (NoRes 2 w) := by
  have KC := Lib.hid (fun u hu => check_yes s m u hu hin h)
  have KD := Lib.hid (fun u => day_no day u hd)
  clear hd
  have HT := Lib.hid hw
  have D0 := Lib.hid (gx_chg w s tp tq).1
  have T0 := Lib.hid (gx_chg w s tp tq).2
  go_enter Tryd.func17, Tryd.ntmps17
  unfold Sb.val Sb.cells
  go_wp2_with fail
  refine (KC.out _ (tab_later HT.out D0.out.b)).mono ?_
  rintro e w1 ⟨rfl, b1⟩
  have D1 := Lib.hid (D0.out.later b1)
  have T1 := Lib.hid (T0.out.later b1)
  clear b1
  obtain ⟨y0, y1, y2, y3, y4, y5, y6, y7, y8, y9, z0, z1, z2, z3, z4, z5, z6, z7, z8, z9⟩ := blk_writes D1.out.o.r
  obtain ⟨v0, v1, v2, v3, u0, u1, u2, u3⟩ := blk_four D1.out.o.x
  go_wp2_with fail
  refine (KD.out _).mono ?_
  rintro e w2 ⟨rfl, rfl⟩
  go_wp2_with fail
  have HF := fin D1.out.o.r D1.out.o.x (.int .u64 0) (.int .u64 0) (.int .u64 0) (.int .i64 0) (.int .i64 0) (.int .i64 0) (.int .i64 0) (.int .i64 0) (.int .i64 0) (.int .i64 0) (.int .i64 0) (.int .i64 0) (.int .i64 0) (.int .i64 0)
  exact bodyPost_ret (res_chg rfl rfl rfl HF.1 HF.2) rfl ⟨rfl, fin_below D1.out.b (by omega) _ _ _ _ _ _ _ _ _ _ _ _ _ _⟩
set_option maxRecDepth 100000 in
set_option maxHeartbeats 1600000 in
theorem chg_plan (s : Sb) (m day tp tq : Int) (w : World) (hw : Tab w) (hin : In m s.c.s) (h : s.Ok m) (hd : 1 ≤ day ∧ day ≤ 3652059) (ht : tp = 0) : Calls Tryd.prog 17 #[s.val, .int .i64 day, .agg #[.int .u64 tp, .int .i64 tq]] w (NoRes 2 w) := by
  have KC := Lib.hid (fun u hu => check_yes s m u hu hin h)
  have KD := Lib.hid (fun u => day_yes day u hd)
  clear hd
  subst ht
  have HT := Lib.hid hw
  have D0 := Lib.hid (gx_chg w s 0 tq).1
  have T0 := Lib.hid (gx_chg w s 0 tq).2
  go_enter Tryd.func17, Tryd.ntmps17
  unfold Sb.val Sb.cells
  go_wp2_with fail
  refine (KC.out _ (tab_later HT.out D0.out.b)).mono ?_
  rintro e w1 ⟨rfl, b1⟩
  have D1 := Lib.hid (D0.out.later b1)
  have T1 := Lib.hid (T0.out.later b1)
  clear b1
  have t0 : w1.cell? ⟨w.heap.size + 1, 0, Option.none⟩ = some (.int .u64 0) := T1.out.cell 0
  have t1 : w1.cell? ⟨w.heap.size + 1, 1, Option.none⟩ = some (.int .i64 tq) := T1.out.cell 1
  obtain ⟨y0, y1, y2, y3, y4, y5, y6, y7, y8, y9, z0, z1, z2, z3, z4, z5, z6, z7, z8, z9⟩ := blk_writes D1.out.o.r
  obtain ⟨v0, v1, v2, v3, u0, u1, u2, u3⟩ := blk_four D1.out.o.x
  go_wp2_with fail
  refine (KD.out _).mono ?_
  rintro e w2 ⟨rfl, rfl⟩
  go_wp2_with fail
  have HF := fin D1.out.o.r D1.out.o.x (.int .u64 0) (.int .u64 0) (.int .u64 0) (.int .i64 0) (.int .i64 0) (.int .i64 0) (.int .i64 0) (.int .i64 0) (.int .i64 0) (.int .i64 0) (.int .i64 0) (.int .i64 0) (.int .i64 0) (.int .i64 0)
  exact bodyPost_ret (res_chg rfl rfl rfl HF.1 HF.2) rfl ⟨rfl, fin_below D1.out.b (by omega) _ _ _ _ _ _ _ _ _ _ _ _ _ _⟩
set_option maxRecDepth 100000 in
set_option maxHeartbeats 1600000 in
theorem chg_price (s : Sb) (m day tp tq : Int) (w : World) (hw : Tab w) (hin : In m s.c.s) (h : s.Ok m) (hd : 1 ≤ day ∧ day ≤ 3652059) (ht : 1 ≤ tp) (hq : tq < 0 ∨ 4611686018427387904 ≤ tq) : Calls Tryd.prog 17 #[s.val, .int .i64 day, .agg #[.int .u64 tp, .int .i64 tq]] w (NoRes 2 w) := by
  have KC := Lib.hid (fun u hu => check_yes s m u hu hin h)
  have KD := Lib.hid (fun u => day_yes day u hd)
  have KQ := Lib.hid (fun u => price_no tq u hq)
  clear hd hq
  have HT := Lib.hid hw
  have D0 := Lib.hid (gx_chg w s tp tq).1
  have T0 := Lib.hid (gx_chg w s tp tq).2
  go_enter Tryd.func17, Tryd.ntmps17
  unfold Sb.val Sb.cells
  go_wp2_with fail
  refine (KC.out _ (tab_later HT.out D0.out.b)).mono ?_
  rintro e w1 ⟨rfl, b1⟩
  have D1 := Lib.hid (D0.out.later b1)
  have T1 := Lib.hid (T0.out.later b1)
  clear b1
  have t0 : w1.cell? ⟨w.heap.size + 1, 0, Option.none⟩ = some (.int .u64 tp) := T1.out.cell 0
  have t1 : w1.cell? ⟨w.heap.size + 1, 1, Option.none⟩ = some (.int .i64 tq) := T1.out.cell 1
  obtain ⟨y0, y1, y2, y3, y4, y5, y6, y7, y8, y9, z0, z1, z2, z3, z4, z5, z6, z7, z8, z9⟩ := blk_writes D1.out.o.r
  obtain ⟨v0, v1, v2, v3, u0, u1, u2, u3⟩ := blk_four D1.out.o.x
  go_wp2_with fail
  refine (KD.out _).mono ?_
  rintro e w2 ⟨rfl, rfl⟩
  go_wp2_with fail
  refine (KQ.out _).mono ?_
  rintro e w3 ⟨rfl, rfl⟩
  go_wp2_with fail
  have HF := fin D1.out.o.r D1.out.o.x (.int .u64 0) (.int .u64 0) (.int .u64 0) (.int .i64 0) (.int .i64 0) (.int .i64 0) (.int .i64 0) (.int .i64 0) (.int .i64 0) (.int .i64 0) (.int .i64 0) (.int .i64 0) (.int .i64 0) (.int .i64 0)
  exact bodyPost_ret (res_chg rfl rfl rfl HF.1 HF.2) rfl ⟨rfl, fin_below D1.out.b (by omega) _ _ _ _ _ _ _ _ _ _ _ _ _ _⟩
set_option maxRecDepth 100000 in
set_option maxHeartbeats 1600000 in
theorem rchg_bad (s : Sb) (m day tp tq : Int) (w : World) (hf : s.Fits) (hin : s.c.Ok → In m s.c.s) (h : ¬ s.Ok m) : Calls Tryd.prog 18 #[s.val, .int .i64 day, .agg #[.int .u64 tp, .int .i64 tq]] w (NoRes 2 w) := by
  have KC := Lib.hid (fun u => rcheck_no s m u hf hin h)
  have D0 := Lib.hid (gx_chg w s tp tq).1
  have T0 := Lib.hid (gx_chg w s tp tq).2
  go_enter Tryd.func18, Tryd.ntmps18
  unfold Sb.val Sb.cells
  go_wp2_with fail
  refine (KC.out _).mono ?_
  rintro e w1 ⟨rfl, b1⟩
  have D1 := Lib.hid (D0.out.later b1)
  have T1 := Lib.hid (T0.out.later b1)
  clear b1
  obtain ⟨y0, y1, y2, y3, y4, y5, y6, y7, y8, y9, z0, z1, z2, z3, z4, z5, z6, z7, z8, z9⟩ := blk_writes D1.out.o.r
  obtain ⟨v0, v1, v2, v3, u0, u1, u2, u3⟩ := blk_four D1.out.o.x
  go_wp2_with fail
  have HF := fin D1.out.o.r D1.out.o.x (.int .u64 0) (.int .u64 0) (.int .u64 0) (.int .i64 0) (.int .i64 0) (.int .i64 0) (.int .i64 0) (.int .i64 0) (.int .i64 0) (.int .i64 0) (.int .i64 0) (.int .i64 0) (.int .i64 0) (.int .i64 0)
  exact bodyPost_ret (res_rchg rfl rfl rfl HF.1 HF.2) rfl ⟨rfl, fin_below D1.out.b (by omega) _ _ _ _ _ _ _ _ _ _ _ _ _ _⟩
set_option maxRecDepth 100000 in
set_option maxHeartbeats 1600000 in
theorem rchg_day (s : Sb) (m day tp tq : Int) (w : World) (hin : In m s.c.s) (h : s.Ok m) (hd : ¬ (1 ≤ day ∧ day ≤ 3652059)) : Calls Tryd.prog 18 #[s.val, .int .i64 day, .agg #[.int .u64 tp, .int .i64 tq]] w (NoRes 2 w) := by
  have KC := Lib.hid (fun u => rcheck_yes s m u hin h)
  have KD := Lib.hid (fun u => rday_s day u false (dayB_no (by omega)))
  clear hd
  have D0 := Lib.hid (gx_chg w s tp tq).1
  have T0 := Lib.hid (gx_chg w s tp tq).2
  go_enter Tryd.func18, Tryd.ntmps18
  unfold Sb.val Sb.cells
  go_wp2_with fail
  refine (KC.out _).mono ?_
  rintro e w1 ⟨rfl, b1⟩
  have D1 := Lib.hid (D0.out.later b1)
  have T1 := Lib.hid (T0.out.later b1)
  clear b1
  obtain ⟨y0, y1, y2, y3, y4, y5, y6, y7, y8, y9, z0, z1, z2, z3, z4, z5, z6, z7, z8, z9⟩ := blk_writes D1.out.o.r
  obtain ⟨v0, v1, v2, v3, u0, u1, u2, u3⟩ := blk_four D1.out.o.x
  go_wp2_with fail
  refine (KD.out _).mono ?_
  rintro e w2 ⟨rfl, rfl⟩
  go_wp2_with fail
  have HF := fin D1.out.o.r D1.out.o.x (.int .u64 0) (.int .u64 0) (.int .u64 0) (.int .i64 0) (.int .i64 0) (.int .i64 0) (.int .i64 0) (.int .i64 0) (.int .i64 0) (.int .i64 0) (.int .i64 0) (.int .i64 0) (.int .i64 0) (.int .i64 0)
  exact bodyPost_ret (res_rchg rfl rfl rfl HF.1 HF.2) rfl ⟨rfl, fin_below D1.out.b (by omega) _ _ _ _ _ _ _ _ _ _ _ _ _ _⟩
set_option maxRecDepth 100000 in
set_option maxHeartbeats 1600000 in
theorem rchg_plan (s : Sb) (m day tp tq : Int) (w : World) (hin : In m s.c.s) (h : s.Ok m) (hd : 1 ≤ day ∧ day ≤ 3652059) (ht : tp = 0) : Calls Tryd.prog 18 #[s.val, .int .i64 day, .agg #[.int .u64 tp, .int .i64 tq]] w (NoRes 2 w) := by
  have KC := Lib.hid (fun u => rcheck_yes s m u hin h)
  have KD := Lib.hid (fun u => rday_s day u true (dayB_yes hd.1 hd.2))
  clear hd
  subst ht
  have D0 := Lib.hid (gx_chg w s 0 tq).1
  have T0 := Lib.hid (gx_chg w s 0 tq).2
  go_enter Tryd.func18, Tryd.ntmps18
  unfold Sb.val Sb.cells
  go_wp2_with fail
  refine (KC.out _).mono ?_
  rintro e w1 ⟨rfl, b1⟩
  have D1 := Lib.hid (D0.out.later b1)
  have T1 := Lib.hid (T0.out.later b1)
  clear b1
  have t0 : w1.cell? ⟨w.heap.size + 1, 0, Option.none⟩ = some (.int .u64 0) := T1.out.cell 0
  have t1 : w1.cell? ⟨w.heap.size + 1, 1, Option.none⟩ = some (.int .i64 tq) := T1.out.cell 1
  obtain ⟨y0, y1, y2, y3, y4, y5, y6, y7, y8, y9, z0, z1, z2, z3, z4, z5, z6, z7, z8, z9⟩ := blk_writes D1.out.o.r
  obtain ⟨v0, v1, v2, v3, u0, u1, u2, u3⟩ := blk_four D1.out.o.x
  go_wp2_with fail
  refine (KD.out _).mono ?_
  rintro e w2 ⟨rfl, rfl⟩
  go_wp2_with fail
  have HF := fin D1.out.o.r D1.out.o.x (.int .u64 0) (.int .u64 0) (.int .u64 0) (.int .i64 0) (.int .i64 0) (.int .i64 0) (.int .i64 0) (.int .i64 0) (.int .i64 0) (.int .i64 0) (.int .i64 0) (.int .i64 0) (.int .i64 0) (.int .i64 0)
  exact bodyPost_ret (res_rchg rfl rfl rfl HF.1 HF.2) rfl ⟨rfl, fin_below D1.out.b (by omega) _ _ _ _ _ _ _ _ _ _ _ _ _ _⟩
set_option maxRecDepth 100000 in
set_option maxHeartbeats 1600000 in
theorem rchg_price (s : Sb) (m day tp tq : Int) (w : World) (hin : In m s.c.s) (h : s.Ok m) (hd : 1 ≤ day ∧ day ≤ 3652059) (ht : 1 ≤ tp) (hq : tq < 0 ∨ (0 ≤ tq ∧ 4611686018427387904 ≤ tq)) : Calls Tryd.prog 18 #[s.val, .int .i64 day, .agg #[.int .u64 tp, .int .i64 tq]] w (NoRes 2 w) := by
  have KC := Lib.hid (fun u => rcheck_yes s m u hin h)
  have KD := Lib.hid (fun u => rday_s day u true (dayB_yes hd.1 hd.2))
  have ht0 : (tp == 0) = false := by simp; omega
  clear hd
  rcases hq with hq | ⟨hq1, hq⟩
  · have D0 := Lib.hid (gx_chg w s tp tq).1
    have T0 := Lib.hid (gx_chg w s tp tq).2
    go_enter Tryd.func18, Tryd.ntmps18
    unfold Sb.val Sb.cells
    go_wp2_with fail
    refine (KC.out _).mono ?_
    rintro e w1 ⟨rfl, b1⟩
    have D1 := Lib.hid (D0.out.later b1)
    have T1 := Lib.hid (T0.out.later b1)
    clear b1
    have t0 : w1.cell? ⟨w.heap.size + 1, 0, Option.none⟩ = some (.int .u64 tp) := T1.out.cell 0
    have t1 : w1.cell? ⟨w.heap.size + 1, 1, Option.none⟩ = some (.int .i64 tq) := T1.out.cell 1
    obtain ⟨y0, y1, y2, y3, y4, y5, y6, y7, y8, y9, z0, z1, z2, z3, z4, z5, z6, z7, z8, z9⟩ := blk_writes D1.out.o.r
    obtain ⟨v0, v1, v2, v3, u0, u1, u2, u3⟩ := blk_four D1.out.o.x
    go_wp2_with fail
    refine (KD.out _).mono ?_
    rintro e w2 ⟨rfl, rfl⟩
    go_wp2_with fail
    have HF := fin D1.out.o.r D1.out.o.x (.int .u64 0) (.int .u64 0) (.int .u64 0) (.int .i64 0) (.int .i64 0) (.int .i64 0) (.int .i64 0) (.int .i64 0) (.int .i64 0) (.int .i64 0) (.int .i64 0) (.int .i64 0) (.int .i64 0) (.int .i64 0)
    exact bodyPost_ret (res_rchg rfl rfl rfl HF.1 HF.2) rfl ⟨rfl, fin_below D1.out.b (by omega) _ _ _ _ _ _ _ _ _ _ _ _ _ _⟩
  · have D0 := Lib.hid (gx_chg w s tp tq).1
    have T0 := Lib.hid (gx_chg w s tp tq).2
    go_enter Tryd.func18, Tryd.ntmps18
    unfold Sb.val Sb.cells
    go_wp2_with fail
    refine (KC.out _).mono ?_
    rintro e w1 ⟨rfl, b1⟩
    have D1 := Lib.hid (D0.out.later b1)
    have T1 := Lib.hid (T0.out.later b1)
    clear b1
    have t0 : w1.cell? ⟨w.heap.size + 1, 0, Option.none⟩ = some (.int .u64 tp) := T1.out.cell 0
    have t1 : w1.cell? ⟨w.heap.size + 1, 1, Option.none⟩ = some (.int .i64 tq) := T1.out.cell 1
    obtain ⟨y0, y1, y2, y3, y4, y5, y6, y7, y8, y9, z0, z1, z2, z3, z4, z5, z6, z7, z8, z9⟩ := blk_writes D1.out.o.r
    obtain ⟨v0, v1, v2, v3, u0, u1, u2, u3⟩ := blk_four D1.out.o.x
    go_wp2_with fail
    refine (KD.out _).mono ?_
    rintro e w2 ⟨rfl, rfl⟩
    go_wp2_with fail
    have HF := fin D1.out.o.r D1.out.o.x (.int .u64 0) (.int .u64 0) (.int .u64 0) (.int .i64 0) (.int .i64 0) (.int .i64 0) (.int .i64 0) (.int .i64 0) (.int .i64 0) (.int .i64 0) (.int .i64 0) (.int .i64 0) (.int .i64 0) (.int .i64 0)
    exact bodyPost_ret (res_rchg rfl rfl rfl HF.1 HF.2) rfl ⟨rfl, fin_below D1.out.b (by omega) _ _ _ _ _ _ _ _ _ _ _ _ _ _⟩
end Go.Proofs.YtjchecjonkmhgaaDoor.Su
