/- Package subs: Cancel, what is refused. -/
import Derived.Test.YtjchecjonkmhgaaDoorSuChg0
import Derived.Deep.DeepCutAuto
namespace Go.Proofs.YtjchecjonkmhgaaDoor.Su
open Go.RowKit Pr Cw An Rf
/-- A cancellation may be asked for. -/
def CanPre (s : Sb) (day : Int) (at' : Bool) : Prop := s.e = 0 ∧ s.c.s ≤ day ∧ (at' = true → s.s ≤ day)
def Sb.ended (s : Sb) (e : Int) : Sb := { s with e := e }
def canEnd (s : Sb) (m day : Int) (at' : Bool) (k : Nat) : Int := if at' = true then day else bnd s.c m (k + 1)
def canTurn (s : Sb) (m day : Int) (at' : Bool) (k : Nat) : Tn := if at' = true ∧ (k : Int) < s.b then ⟨day, bnd s.c m (k + 1), amt s.c m k s.p day (bnd s.c m (k + 1)), 0⟩ else Tn.none
def Yes (s : Sb) (m day : Int) (at' : Bool) (k : Nat) (w : World) (e : Ending) (w' : World) : Prop := e = .returned (.tuple #[(s.ended (canEnd s m day at' k)).val, (canTurn s m day at' k).val, .int .i64 0]) ∧ Below w.heap.size w w'
set_option maxRecDepth 100000 in
set_option maxHeartbeats 1600000 in
theorem can_bad (s : Sb) (m day : Int) (at' : Bool) (w : World) (hw : Tab w) (hf : s.Fits) (hin : s.c.Ok → In m s.c.s) (h : ¬ s.Ok m) : Calls Tryd.prog 19 #[s.val, .int .i64 day, .bool at'] w (NoRes 2 w) := by
  have KC := Lib.hid (fun u hu => check_no s m u hu hf hin h)
  have HT := Lib.hid hw
  have D0 := Lib.hid (gx_can w s)
  go_enter Tryd.func19, Tryd.ntmps19
  unfold Sb.val Sb.cells
  go_wp2_with fail
  refine (KC.out _ (tab_later HT.out D0.out.b)).mono ?_
  rintro e w1 ⟨rfl, b1⟩
  have D1 := Lib.hid (D0.out.later b1)
  clear b1
  obtain ⟨y0, y1, y2, y3, y4, y5, y6, y7, y8, y9, z0, z1, z2, z3, z4, z5, z6, z7, z8, z9⟩ := blk_writes D1.out.o.r
  obtain ⟨v0, v1, v2, v3, u0, u1, u2, u3⟩ := blk_four D1.out.o.x
  go_wp2_with fail
  have HF := fin D1.out.o.r D1.out.o.x (.int .u64 0) (.int .u64 0) (.int .u64 0) (.int .i64 0) (.int .i64 0) (.int .i64 0) (.int .i64 0) (.int .i64 0) (.int .i64 0) (.int .i64 0) (.int .i64 0) (.int .i64 0) (.int .i64 0) (.int .i64 0)
  exact bodyPost_ret (res_can rfl rfl rfl HF.1 HF.2) rfl ⟨rfl, fin_below D1.out.b (by omega) _ _ _ _ _ _ _ _ _ _ _ _ _ _⟩
set_option maxRecDepth 100000 in
set_option maxHeartbeats 1600000 in
theorem can_day (s : Sb) (m day : Int) (at' : Bool) (w : World) (hw : Tab w) (hin : In m s.c.s) (h : s.Ok m) (hd : ¬ (1 ≤ day ∧ day ≤ 3652059)) : Calls Tryd.prog 19 #[s.val, .int .i64 day, .bool at'] w (NoRes 2 w) := by
  have KC := Lib.hid (fun u hu => check_yes s m u hu hin h)
  have KD := Lib.hid (fun u => day_no day u hd)
  clear hd
  have HT := Lib.hid hw
  have D0 := Lib.hid (gx_can w s)
  go_enter Tryd.func19, Tryd.ntmps19
  unfold Sb.val Sb.cells
  go_wp2_with fail
  refine (KC.out _ (tab_later HT.out D0.out.b)).mono ?_
  rintro e w1 ⟨rfl, b1⟩
  have D1 := Lib.hid (D0.out.later b1)
  clear b1
  obtain ⟨y0, y1, y2, y3, y4, y5, y6, y7, y8, y9, z0, z1, z2, z3, z4, z5, z6, z7, z8, z9⟩ := blk_writes D1.out.o.r
  obtain ⟨v0, v1, v2, v3, u0, u1, u2, u3⟩ := blk_four D1.out.o.x
  go_wp2_with fail
  refine (KD.out _).mono ?_
  rintro e w2 ⟨rfl, rfl⟩
  go_wp2_with fail
  have HF := fin D1.out.o.r D1.out.o.x (.int .u64 0) (.int .u64 0) (.int .u64 0) (.int .i64 0) (.int .i64 0) (.int .i64 0) (.int .i64 0) (.int .i64 0) (.int .i64 0) (.int .i64 0) (.int .i64 0) (.int .i64 0) (.int .i64 0) (.int .i64 0)
  exact bodyPost_ret (res_can rfl rfl rfl HF.1 HF.2) rfl ⟨rfl, fin_below D1.out.b (by omega) _ _ _ _ _ _ _ _ _ _ _ _ _ _⟩
set_option maxRecDepth 100000 in
set_option maxHeartbeats 1600000 in
theorem rcan_bad (s : Sb) (m day : Int) (at' : Bool) (w : World) (hf : s.Fits) (hin : s.c.Ok → In m s.c.s) (h : ¬ s.Ok m) : Calls Tryd.prog 20 #[s.val, .int .i64 day, .bool at'] w (NoRes 2 w) := by
  have KC := Lib.hid (fun u => rcheck_no s m u hf hin h)
  have D0 := Lib.hid (gx_can w s)
  go_enter Tryd.func20, Tryd.ntmps20
  unfold Sb.val Sb.cells
  go_wp2_with fail
  refine (KC.out _).mono ?_
  rintro e w1 ⟨rfl, b1⟩
  have D1 := Lib.hid (D0.out.later b1)
  clear b1
  obtain ⟨y0, y1, y2, y3, y4, y5, y6, y7, y8, y9, z0, z1, z2, z3, z4, z5, z6, z7, z8, z9⟩ := blk_writes D1.out.o.r
  obtain ⟨v0, v1, v2, v3, u0, u1, u2, u3⟩ := blk_four D1.out.o.x
  go_wp2_with fail
  have HF := fin D1.out.o.r D1.out.o.x (.int .u64 0) (.int .u64 0) (.int .u64 0) (.int .i64 0) (.int .i64 0) (.int .i64 0) (.int .i64 0) (.int .i64 0) (.int .i64 0) (.int .i64 0) (.int .i64 0) (.int .i64 0) (.int .i64 0) (.int .i64 0)
  exact bodyPost_ret (res_rcan rfl rfl rfl HF.1 HF.2) rfl ⟨rfl, fin_below D1.out.b (by omega) _ _ _ _ _ _ _ _ _ _ _ _ _ _⟩
set_option maxRecDepth 100000 in
set_option maxHeartbeats 1600000 in
theorem rcan_day (s : Sb) (m day : Int) (at' : Bool) (w : World) (hin : In m s.c.s) (h : s.Ok m) (hd : ¬ (1 ≤ day ∧ day ≤ 3652059)) : Calls Tryd.prog 20 #[s.val, .int .i64 day, .bool at'] w (NoRes 2 w) := by
  have KC := Lib.hid (fun u => rcheck_yes s m u hin h)
  have KD := Lib.hid (fun u => rday_s day u false (dayB_no (by omega)))
  clear hd
  have D0 := Lib.hid (gx_can w s)
  go_enter Tryd.func20, Tryd.ntmps20
  unfold Sb.val Sb.cells
  go_wp2_with fail
  refine (KC.out _).mono ?_
  rintro e w1 ⟨rfl, b1⟩
  have D1 := Lib.hid (D0.out.later b1)
  clear b1
  obtain ⟨y0, y1, y2, y3, y4, y5, y6, y7, y8, y9, z0, z1, z2, z3, z4, z5, z6, z7, z8, z9⟩ := blk_writes D1.out.o.r
  obtain ⟨v0, v1, v2, v3, u0, u1, u2, u3⟩ := blk_four D1.out.o.x
  go_wp2_with fail
  refine (KD.out _).mono ?_
  rintro e w2 ⟨rfl, rfl⟩
  go_wp2_with fail
  have HF := fin D1.out.o.r D1.out.o.x (.int .u64 0) (.int .u64 0) (.int .u64 0) (.int .i64 0) (.int .i64 0) (.int .i64 0) (.int .i64 0) (.int .i64 0) (.int .i64 0) (.int .i64 0) (.int .i64 0) (.int .i64 0) (.int .i64 0) (.int .i64 0)
  exact bodyPost_ret (res_rcan rfl rfl rfl HF.1 HF.2) rfl ⟨rfl, fin_below D1.out.b (by omega) _ _ _ _ _ _ _ _ _ _ _ _ _ _⟩
set_option maxRecDepth 100000 in
set_option maxHeartbeats 4000000 in
theorem can_e (s : Sb) (m day : Int) (at' : Bool) (w : World) (hw : Tab w) (hin : In m s.c.s) (h : s.Ok m) (hd : 1 ≤ day ∧ day ≤ 3652059) (h1 : s.e ≠ 0) : Calls Tryd.prog 19 #[s.val, .int .i64 day, .bool at'] w (NoRes 9 w) := by
  have KC := Lib.hid (fun u hu => check_yes s m u hu hin h)
  have KD := Lib.hid (fun u => day_yes day u hd)
  have HT := Lib.hid hw
  have D0 := Lib.hid (gx_can w s)
  have b0 := h.num.b0
  have b1' := h.num.b1
  have q1 : (s.e != 0) = true := by simpa using h1
  clear h1
  clear hd
  go_enter Tryd.func19, Tryd.ntmps19
  unfold Sb.val Sb.cells
  go_wp2_with fail
  refine (KC.out _ (tab_later HT.out D0.out.b)).mono ?_
  rintro e w1 ⟨rfl, b1⟩
  have D1 := Lib.hid (D0.out.later b1)
  clear b1
  obtain ⟨x0, x1, x2, x3, x4, x5, x6, x7, x8, x9, xlt⟩ := Sx.of D1.out.s
  go_wp2_with fail
  refine (KD.out _).mono ?_
  rintro e w2 ⟨rfl, rfl⟩
  obtain ⟨y0, y1, y2, y3, y4, y5, y6, y7, y8, y9, z0, z1, z2, z3, z4, z5, z6, z7, z8, z9⟩ := blk_writes D1.out.o.r
  obtain ⟨v0, v1, v2, v3, u0, u1, u2, u3⟩ := blk_four D1.out.o.x
  go_wp2_with fail
  have HF := fin D1.out.o.r D1.out.o.x (.int .u64 0) (.int .u64 0) (.int .u64 0) (.int .i64 0) (.int .i64 0) (.int .i64 0) (.int .i64 0) (.int .i64 0) (.int .i64 0) (.int .i64 0) (.int .i64 0) (.int .i64 0) (.int .i64 0) (.int .i64 0)
  exact bodyPost_ret (res_can rfl rfl rfl HF.1 HF.2) rfl ⟨rfl, fin_below D1.out.b (by omega) _ _ _ _ _ _ _ _ _ _ _ _ _ _⟩
set_option maxRecDepth 100000 in
set_option maxHeartbeats 4000000 in
theorem can_s (s : Sb) (m day : Int) (at' : Bool) (w : World) (hw : Tab w) (hin : In m s.c.s) (h : s.Ok m) (hd : 1 ≤ day ∧ day ≤ 3652059) (h1 : s.e = 0) (h2 : day < s.c.s) : Calls Tryd.prog 19 #[s.val, .int .i64 day, .bool at'] w (NoRes 9 w) := by
  have KC := Lib.hid (fun u hu => check_yes s m u hu hin h)
  have KD := Lib.hid (fun u => day_yes day u hd)
  have HT := Lib.hid hw
  have D0 := Lib.hid (gx_can w s)
  have b0 := h.num.b0
  have b1' := h.num.b1
  have q1 : (s.e != 0) = false := by simpa using h1
  have q2 : decide (day < s.c.s) = true := by simpa using h2
  clear h1
  clear hd
  go_enter Tryd.func19, Tryd.ntmps19
  unfold Sb.val Sb.cells
  go_wp2_with fail
  refine (KC.out _ (tab_later HT.out D0.out.b)).mono ?_
  rintro e w1 ⟨rfl, b1⟩
  have D1 := Lib.hid (D0.out.later b1)
  clear b1
  obtain ⟨x0, x1, x2, x3, x4, x5, x6, x7, x8, x9, xlt⟩ := Sx.of D1.out.s
  go_wp2_with fail
  refine (KD.out _).mono ?_
  rintro e w2 ⟨rfl, rfl⟩
  obtain ⟨y0, y1, y2, y3, y4, y5, y6, y7, y8, y9, z0, z1, z2, z3, z4, z5, z6, z7, z8, z9⟩ := blk_writes D1.out.o.r
  obtain ⟨v0, v1, v2, v3, u0, u1, u2, u3⟩ := blk_four D1.out.o.x
  go_wp2_with fail
  have HF := fin D1.out.o.r D1.out.o.x (.int .u64 0) (.int .u64 0) (.int .u64 0) (.int .i64 0) (.int .i64 0) (.int .i64 0) (.int .i64 0) (.int .i64 0) (.int .i64 0) (.int .i64 0) (.int .i64 0) (.int .i64 0) (.int .i64 0) (.int .i64 0)
  exact bodyPost_ret (res_can rfl rfl rfl HF.1 HF.2) rfl ⟨rfl, fin_below D1.out.b (by omega) _ _ _ _ _ _ _ _ _ _ _ _ _ _⟩
set_option maxRecDepth 100000 in
set_option maxHeartbeats 4000000 in
theorem can_a (s : Sb) (m day : Int) (w : World) (hw : Tab w) (hin : In m s.c.s) (h : s.Ok m) (hd : 1 ≤ day ∧ day ≤ 3652059) (h1 : s.e = 0) (h2 : ¬ day < s.c.s) (h3 : day < s.s) : Calls Tryd.prog 19 #[s.val, .int .i64 day, .bool true] w (NoRes 9 w) := by
  have KC := Lib.hid (fun u hu => check_yes s m u hu hin h)
  have KD := Lib.hid (fun u => day_yes day u hd)
  have HT := Lib.hid hw
  have D0 := Lib.hid (gx_can w s)
  have b0 := h.num.b0
  have b1' := h.num.b1
  have q1 : (s.e != 0) = false := by simpa using h1
  have q2 : decide (day < s.c.s) = false := by simpa using h2
  have q3 : decide (day < s.s) = true := by simpa using h3
  clear h1
  clear hd
  go_enter Tryd.func19, Tryd.ntmps19
  unfold Sb.val Sb.cells
  go_wp2_with fail
  refine (KC.out _ (tab_later HT.out D0.out.b)).mono ?_
  rintro e w1 ⟨rfl, b1⟩
  have D1 := Lib.hid (D0.out.later b1)
  clear b1
  obtain ⟨x0, x1, x2, x3, x4, x5, x6, x7, x8, x9, xlt⟩ := Sx.of D1.out.s
  go_wp2_with fail
  refine (KD.out _).mono ?_
  rintro e w2 ⟨rfl, rfl⟩
  obtain ⟨y0, y1, y2, y3, y4, y5, y6, y7, y8, y9, z0, z1, z2, z3, z4, z5, z6, z7, z8, z9⟩ := blk_writes D1.out.o.r
  obtain ⟨v0, v1, v2, v3, u0, u1, u2, u3⟩ := blk_four D1.out.o.x
  go_wp2_with fail
  have HF := fin D1.out.o.r D1.out.o.x (.int .u64 0) (.int .u64 0) (.int .u64 0) (.int .i64 0) (.int .i64 0) (.int .i64 0) (.int .i64 0) (.int .i64 0) (.int .i64 0) (.int .i64 0) (.int .i64 0) (.int .i64 0) (.int .i64 0) (.int .i64 0)
  exact bodyPost_ret (res_can rfl rfl rfl HF.1 HF.2) rfl ⟨rfl, fin_below D1.out.b (by omega) _ _ _ _ _ _ _ _ _ _ _ _ _ _⟩
set_option maxRecDepth 100000 in
set_option maxHeartbeats 4000000 in
theorem rcan_e (s : Sb) (m day : Int) (at' : Bool) (w : World) (hin : In m s.c.s) (h : s.Ok m) (hd : 1 ≤ day ∧ day ≤ 3652059) (h1 : s.e ≠ 0) : Calls Tryd.prog 20 #[s.val, .int .i64 day, .bool at'] w (NoRes 9 w) := by
  have KC := Lib.hid (fun u => rcheck_yes s m u hin h)
  have KD := Lib.hid (fun u => rday_s day u true (dayB_yes hd.1 hd.2))
  have D0 := Lib.hid (gx_can w s)
  have b0 := h.num.b0
  have b1' := h.num.b1
  have q1 : (s.e != 0) = true := by simpa using h1
  clear h1
  clear hd
  go_enter Tryd.func20, Tryd.ntmps20
  unfold Sb.val Sb.cells
  go_wp2_with fail
  refine (KC.out _).mono ?_
  rintro e w1 ⟨rfl, b1⟩
  have D1 := Lib.hid (D0.out.later b1)
  clear b1
  obtain ⟨x0, x1, x2, x3, x4, x5, x6, x7, x8, x9, xlt⟩ := Sx.of D1.out.s
  go_wp2_with fail
  refine (KD.out _).mono ?_
  rintro e w2 ⟨rfl, rfl⟩
  obtain ⟨y0, y1, y2, y3, y4, y5, y6, y7, y8, y9, z0, z1, z2, z3, z4, z5, z6, z7, z8, z9⟩ := blk_writes D1.out.o.r
  obtain ⟨v0, v1, v2, v3, u0, u1, u2, u3⟩ := blk_four D1.out.o.x
  go_wp2_with fail
  have HF := fin D1.out.o.r D1.out.o.x (.int .u64 0) (.int .u64 0) (.int .u64 0) (.int .i64 0) (.int .i64 0) (.int .i64 0) (.int .i64 0) (.int .i64 0) (.int .i64 0) (.int .i64 0) (.int .i64 0) (.int .i64 0) (.int .i64 0) (.int .i64 0)
  exact bodyPost_ret (res_rcan rfl rfl rfl HF.1 HF.2) rfl ⟨rfl, fin_below D1.out.b (by omega) _ _ _ _ _ _ _ _ _ _ _ _ _ _⟩
set_option maxRecDepth 100000 in
set_option maxHeartbeats 4000000 in
theorem rcan_s (s : Sb) (m day : Int) (at' : Bool) (w : World) (hin : In m s.c.s) (h : s.Ok m) (hd : 1 ≤ day ∧ day ≤ 3652059) (h1 : s.e = 0) (h2 : day < s.c.s) : Calls Tryd.prog 20 #[s.val, .int .i64 day, .bool at'] w (NoRes 9 w) := by
  have KC := Lib.hid (fun u => rcheck_yes s m u hin h)
  have KD := Lib.hid (fun u => rday_s day u true (dayB_yes hd.1 hd.2))
  have D0 := Lib.hid (gx_can w s)
  have b0 := h.num.b0
  have b1' := h.num.b1
  have q1 : (s.e != 0) = false := by simpa using h1
  have q2 : decide (day < s.c.s) = true := by simpa using h2
  clear h1
  clear hd
  go_enter Tryd.func20, Tryd.ntmps20
  unfold Sb.val Sb.cells
  go_wp2_with fail
  refine (KC.out _).mono ?_
  rintro e w1 ⟨rfl, b1⟩
  have D1 := Lib.hid (D0.out.later b1)
  clear b1
  obtain ⟨x0, x1, x2, x3, x4, x5, x6, x7, x8, x9, xlt⟩ := Sx.of D1.out.s
  go_wp2_with fail
  refine (KD.out _).mono ?_
  rintro e w2 ⟨rfl, rfl⟩
  obtain ⟨y0, y1, y2, y3, y4, y5, y6, y7, y8, y9, z0, z1, z2, z3, z4, z5, z6, z7, z8, z9⟩ := blk_writes D1.out.o.r
  obtain ⟨v0, v1, v2, v3, u0, u1, u2, u3⟩ := blk_four D1.out.o.x
  go_wp2_with fail
  have HF := fin D1.out.o.r D1.out.o.x (.int .u64 0) (.int .u64 0) (.int .u64 0) (.int .i64 0) (.int .i64 0) (.int .i64 0) (.int .i64 0) (.int .i64 0) (.int .i64 0) (.int .i64 0) (.int .i64 0) (.int .i64 0) (.int .i64 0) (.int .i64 0)
  exact bodyPost_ret (res_rcan rfl rfl rfl HF.1 HF.2) rfl ⟨rfl, fin_below D1.out.b (by omega) _ _ _ _ _ _ _ _ _ _ _ _ _ _⟩
set_option maxRecDepth 100000 in
set_option maxHeartbeats 4000000 in
theorem rcan_a (s : Sb) (m day : Int) (w : World) (hin : In m s.c.s) (h : s.Ok m) (hd : 1 ≤ day ∧ day ≤ 3652059) (h1 : s.e = 0) (h2 : ¬ day < s.c.s) (h3 : day < s.s) : Calls Tryd.prog 20 #[s.val, .int .i64 day, .bool true] w (NoRes 9 w) := by
  have KC := Lib.hid (fun u => rcheck_yes s m u hin h)
  have KD := Lib.hid (fun u => rday_s day u true (dayB_yes hd.1 hd.2))
  have D0 := Lib.hid (gx_can w s)
  have b0 := h.num.b0
  have b1' := h.num.b1
  have q1 : (s.e != 0) = false := by simpa using h1
  have q2 : decide (day < s.c.s) = false := by simpa using h2
  have q3 : decide (day < s.s) = true := by simpa using h3
  clear h1
  clear hd
  go_enter Tryd.func20, Tryd.ntmps20
  unfold Sb.val Sb.cells
  go_wp2_with fail
  refine (KC.out _).mono ?_
  rintro e w1 ⟨rfl, b1⟩
  have D1 := Lib.hid (D0.out.later b1)
  clear b1
  obtain ⟨x0, x1, x2, x3, x4, x5, x6, x7, x8, x9, xlt⟩ := Sx.of D1.out.s
  go_wp2_with fail
  refine (KD.out _).mono ?_
  rintro e w2 ⟨rfl, rfl⟩
  obtain ⟨y0, y1, y2, y3, y4, y5, y6, y7, y8, y9, z0, z1, z2, z3, z4, z5, z6, z7, z8, z9⟩ := blk_writes D1.out.o.r
  obtain ⟨v0, v1, v2, v3, u0, u1, u2, u3⟩ := blk_four D1.out.o.x
  go_wp2_with fail
  have HF := fin D1.out.o.r D1.out.o.x (.int .u64 0) (.int .u64 0) (.int .u64 0) (.int .i64 0) (.int .i64 0) (.int .i64 0) (.int .i64 0) (.int .i64 0) (.int .i64 0) (.int .i64 0) (.int .i64 0) (.int .i64 0) (.int .i64 0) (.int .i64 0)
  exact bodyPost_ret (res_rcan rfl rfl rfl HF.1 HF.2) rfl ⟨rfl, fin_below D1.out.b (by omega) _ _ _ _ _ _ _ _ _ _ _ _ _ _⟩
set_option maxRecDepth 100000 in
set_option maxHeartbeats 4000000 in
theorem can_none_false (s : Sb) (m day : Int) (w : World) (hw : Tab w) (hin : In m s.c.s) (h : s.Ok m) (hd : 1 ≤ day ∧ day ≤ 3652059) (h1 : s.e = 0) (h2 : ¬ day < s.c.s) (hk : ∀ k, ¬ Per s.c m day k) : Calls Tryd.prog 19 #[s.val, .int .i64 day, .bool false] w (NoRes 7 w) := by
  have KC := Lib.hid (fun u hu => check_yes s m u hu hin h)
  have KD := Lib.hid (fun u => day_yes day u hd)
  have HT := Lib.hid hw
  have D0 := Lib.hid (gx_can w s)
  have b0 := h.num.b0
  have b1' := h.num.b1
  have KF := Lib.hid (fun u hu => con_no s m day u hu h.c hin hd hk)
  clear hd hk
  have q1 : (s.e != 0) = false := by simpa using h1
  have q2 : decide (day < s.c.s) = false := by simpa using h2
  clear h1
  go_enter Tryd.func19, Tryd.ntmps19
  unfold Sb.val Sb.cells
  go_wp2_with fail
  refine (KC.out _ (tab_later HT.out D0.out.b)).mono ?_
  rintro e w1 ⟨rfl, b1⟩
  have D1 := Lib.hid (D0.out.later b1)
  clear b1
  obtain ⟨x0, x1, x2, x3, x4, x5, x6, x7, x8, x9, xlt⟩ := Sx.of D1.out.s
  go_wp2_with fail
  refine (KD.out _).mono ?_
  rintro e w2 ⟨rfl, rfl⟩
  go_wp2_with fail
  refine (KF.out _ (tab_later HT.out D1.out.b)).mono ?_
  rintro e w4 ⟨rfl, b4⟩
  have D4 := Lib.hid (D1.out.later b4)
  clear b4
  clear x0 x1 x2 x3 x4 x5 x6 x7 x8 x9 xlt
  have hG : w.heap.size + 2 < w4.heap.size := D4.out.o.x.lt
  go_upto_region 6 with (fail)
  obtain ⟨W5, hW5⟩ : ∃ W5, w4.alloc (.cells (Pd.cells Pd.none) 70) = W5 := ⟨_, rfl⟩
  have b5 : Below w4.heap.size w4 W5 := by rw [← hW5]; exact (Below.refl _ w4).alloc (Nat.le_refl _) _
  have P5 := Lib.hid (show Blk W5 w4.heap.size (Pd.cells Pd.none) 70 by rw [← hW5]; exact Blk.new w4 _ _)
  rw [show w4.alloc (.cells #[.int .i64 (Pd.k Pd.none), .int .i64 (Pd.f Pd.none), .int .i64 (Pd.n Pd.none), .int .i64 (Pd.u Pd.none)] 70) = W5 from hW5]
  have D5 := Lib.hid (D4.out.later b5)
  generalize w4.heap.size = G at *
  clear b5 hW5 D4
  have p0 : W5.cell? ⟨G, 0, Option.none⟩ = some (.int .i64 (Pd.k Pd.none)) := P5.out.cell 0
  have p1 : W5.cell? ⟨G, 1, Option.none⟩ = some (.int .i64 (Pd.f Pd.none)) := P5.out.cell 1
  have p2 : W5.cell? ⟨G, 2, Option.none⟩ = some (.int .i64 (Pd.n Pd.none)) := P5.out.cell 2
  have p3 : W5.cell? ⟨G, 3, Option.none⟩ = some (.int .i64 (Pd.u Pd.none)) := P5.out.cell 3
  obtain ⟨x0, x1, x2, x3, x4, x5, x6, x7, x8, x9, xlt⟩ := Sx.of D5.out.s
  obtain ⟨y0, y1, y2, y3, y4, y5, y6, y7, y8, y9, z0, z1, z2, z3, z4, z5, z6, z7, z8, z9⟩ := blk_writes D5.out.o.r
  obtain ⟨v0, v1, v2, v3, u0, u1, u2, u3⟩ := blk_four D5.out.o.x
  go_wp2_with fail
  have HF := fin D5.out.o.r D5.out.o.x (.int .u64 0) (.int .u64 0) (.int .u64 0) (.int .i64 0) (.int .i64 0) (.int .i64 0) (.int .i64 0) (.int .i64 0) (.int .i64 0) (.int .i64 0) (.int .i64 0) (.int .i64 0) (.int .i64 0) (.int .i64 0)
  exact bodyPost_ret (res_can rfl rfl rfl HF.1 HF.2) rfl ⟨rfl, fin_below D5.out.b (by omega) _ _ _ _ _ _ _ _ _ _ _ _ _ _⟩
set_option maxRecDepth 100000 in
set_option maxHeartbeats 4000000 in
theorem rcan_none_false (s : Sb) (m day : Int) (w : World) (hin : In m s.c.s) (h : s.Ok m) (hd : 1 ≤ day ∧ day ≤ 3652059) (h1 : s.e = 0) (h2 : ¬ day < s.c.s) (hk : ∀ k, ¬ Per s.c m day k) : Calls Tryd.prog 20 #[s.val, .int .i64 day, .bool false] w (NoRes 7 w) := by
  have KC := Lib.hid (fun u => rcheck_yes s m u hin h)
  have KD := Lib.hid (fun u => rday_s day u true (dayB_yes hd.1 hd.2))
  have D0 := Lib.hid (gx_can w s)
  have b0 := h.num.b0
  have b1' := h.num.b1
  have KF := Lib.hid (fun u => rper_no s.c m day u h.c hin hd hk)
  clear hd hk
  have q1 : (s.e != 0) = false := by simpa using h1
  have q2 : decide (day < s.c.s) = false := by simpa using h2
  clear h1
  go_enter Tryd.func20, Tryd.ntmps20
  unfold Sb.val Sb.cells
  go_wp2_with fail
  refine (KC.out _).mono ?_
  rintro e w1 ⟨rfl, b1⟩
  have D1 := Lib.hid (D0.out.later b1)
  clear b1
  obtain ⟨x0, x1, x2, x3, x4, x5, x6, x7, x8, x9, xlt⟩ := Sx.of D1.out.s
  go_wp2_with fail
  refine (KD.out _).mono ?_
  rintro e w2 ⟨rfl, rfl⟩
  go_wp2_with fail
  refine (KF.out _).mono ?_
  rintro e w4 ⟨rfl, b4⟩
  have D4 := Lib.hid (D1.out.later b4)
  clear b4
  clear x0 x1 x2 x3 x4 x5 x6 x7 x8 x9 xlt
  obtain ⟨y0, y1, y2, y3, y4, y5, y6, y7, y8, y9, z0, z1, z2, z3, z4, z5, z6, z7, z8, z9⟩ := blk_writes D4.out.o.r
  obtain ⟨v0, v1, v2, v3, u0, u1, u2, u3⟩ := blk_four D4.out.o.x
  go_wp2_with fail
  have HF := fin D4.out.o.r D4.out.o.x (.int .u64 0) (.int .u64 0) (.int .u64 0) (.int .i64 0) (.int .i64 0) (.int .i64 0) (.int .i64 0) (.int .i64 0) (.int .i64 0) (.int .i64 0) (.int .i64 0) (.int .i64 0) (.int .i64 0) (.int .i64 0)
  exact bodyPost_ret (res_rcan rfl rfl rfl HF.1 HF.2) rfl ⟨rfl, fin_below D4.out.b (by omega) _ _ _ _ _ _ _ _ _ _ _ _ _ _⟩
set_option maxRecDepth 100000 in
set_option maxHeartbeats 4000000 in
theorem can_late_false (s : Sb) (m day : Int) (w : World) (hw : Tab w) (hin : In m s.c.s) (h : s.Ok m) (hd : 1 ≤ day ∧ day ≤ 3652059) (h1 : s.e = 0) (h2 : ¬ day < s.c.s) (k : Nat) (hk : Per s.c m day k) (hb : (k : Int) + 1 < s.b) : Calls Tryd.prog 19 #[s.val, .int .i64 day, .bool false] w (NoRes 9 w) := by
  have KC := Lib.hid (fun u hu => check_yes s m u hu hin h)
  have KD := Lib.hid (fun u => day_yes day u hd)
  have HT := Lib.hid hw
  have D0 := Lib.hid (gx_can w s)
  have b0 := h.num.b0
  have b1' := h.num.b1
  obtain ⟨p, hp⟩ : ∃ p, per s.c m k = p := ⟨_, rfl⟩
  have hpk : p.k = (k : Int) := by rw [← hp]; rfl
  have KF := Lib.hid (fun u hu => con_yes s m day k u hu h.c hin hd hk)
  rw [hp] at KF
  rw [← hpk] at hb
  have hp0 : 0 ≤ p.k := by omega
  clear hp hpk hd hk
  have q1 : (s.e != 0) = false := by simpa using h1
  have q2 : decide (day < s.c.s) = false := by simpa using h2
  clear h1
  go_enter Tryd.func19, Tryd.ntmps19
  unfold Sb.val Sb.cells
  go_wp2_with fail
  refine (KC.out _ (tab_later HT.out D0.out.b)).mono ?_
  rintro e w1 ⟨rfl, b1⟩
  have D1 := Lib.hid (D0.out.later b1)
  clear b1
  obtain ⟨x0, x1, x2, x3, x4, x5, x6, x7, x8, x9, xlt⟩ := Sx.of D1.out.s
  go_wp2_with fail
  refine (KD.out _).mono ?_
  rintro e w2 ⟨rfl, rfl⟩
  go_wp2_with fail
  refine (KF.out _ (tab_later HT.out D1.out.b)).mono ?_
  rintro e w4 ⟨rfl, b4⟩
  have D4 := Lib.hid (D1.out.later b4)
  clear b4
  clear x0 x1 x2 x3 x4 x5 x6 x7 x8 x9 xlt
  have hG : w.heap.size + 2 < w4.heap.size := D4.out.o.x.lt
  go_upto_region 6 with (fail)
  obtain ⟨W5, hW5⟩ : ∃ W5, w4.alloc (.cells (Pd.cells p) 70) = W5 := ⟨_, rfl⟩
  have b5 : Below w4.heap.size w4 W5 := by rw [← hW5]; exact (Below.refl _ w4).alloc (Nat.le_refl _) _
  have P5 := Lib.hid (show Blk W5 w4.heap.size (Pd.cells p) 70 by rw [← hW5]; exact Blk.new w4 _ _)
  rw [show w4.alloc (.cells #[.int .i64 (Pd.k p), .int .i64 (Pd.f p), .int .i64 (Pd.n p), .int .i64 (Pd.u p)] 70) = W5 from hW5]
  have D5 := Lib.hid (D4.out.later b5)
  generalize w4.heap.size = G at *
  clear b5 hW5 D4
  have p0 : W5.cell? ⟨G, 0, Option.none⟩ = some (.int .i64 (Pd.k p)) := P5.out.cell 0
  have p1 : W5.cell? ⟨G, 1, Option.none⟩ = some (.int .i64 (Pd.f p)) := P5.out.cell 1
  have p2 : W5.cell? ⟨G, 2, Option.none⟩ = some (.int .i64 (Pd.n p)) := P5.out.cell 2
  have p3 : W5.cell? ⟨G, 3, Option.none⟩ = some (.int .i64 (Pd.u p)) := P5.out.cell 3
  obtain ⟨x0, x1, x2, x3, x4, x5, x6, x7, x8, x9, xlt⟩ := Sx.of D5.out.s
  obtain ⟨y0, y1, y2, y3, y4, y5, y6, y7, y8, y9, z0, z1, z2, z3, z4, z5, z6, z7, z8, z9⟩ := blk_writes D5.out.o.r
  obtain ⟨v0, v1, v2, v3, u0, u1, u2, u3⟩ := blk_four D5.out.o.x
  go_wp2_with fail
  have HF := fin D5.out.o.r D5.out.o.x (.int .u64 0) (.int .u64 0) (.int .u64 0) (.int .i64 0) (.int .i64 0) (.int .i64 0) (.int .i64 0) (.int .i64 0) (.int .i64 0) (.int .i64 0) (.int .i64 0) (.int .i64 0) (.int .i64 0) (.int .i64 0)
  exact bodyPost_ret (res_can rfl rfl rfl HF.1 HF.2) rfl ⟨rfl, fin_below D5.out.b (by omega) _ _ _ _ _ _ _ _ _ _ _ _ _ _⟩
set_option maxRecDepth 100000 in
set_option maxHeartbeats 4000000 in
theorem rcan_late_false (s : Sb) (m day : Int) (w : World) (hin : In m s.c.s) (h : s.Ok m) (hd : 1 ≤ day ∧ day ≤ 3652059) (h1 : s.e = 0) (h2 : ¬ day < s.c.s) (k : Nat) (hk : Per s.c m day k) (hb : (k : Int) + 1 < s.b) : Calls Tryd.prog 20 #[s.val, .int .i64 day, .bool false] w (NoRes 9 w) := by
  have KC := Lib.hid (fun u => rcheck_yes s m u hin h)
  have KD := Lib.hid (fun u => rday_s day u true (dayB_yes hd.1 hd.2))
  have D0 := Lib.hid (gx_can w s)
  have b0 := h.num.b0
  have b1' := h.num.b1
  have KF := Lib.hid (fun u => rper_yes s.c m day k u h.c hin hd hk)
  clear hd hk
  have q1 : (s.e != 0) = false := by simpa using h1
  have q2 : decide (day < s.c.s) = false := by simpa using h2
  clear h1
  go_enter Tryd.func20, Tryd.ntmps20
  unfold Sb.val Sb.cells
  go_wp2_with fail
  refine (KC.out _).mono ?_
  rintro e w1 ⟨rfl, b1⟩
  have D1 := Lib.hid (D0.out.later b1)
  clear b1
  obtain ⟨x0, x1, x2, x3, x4, x5, x6, x7, x8, x9, xlt⟩ := Sx.of D1.out.s
  go_wp2_with fail
  refine (KD.out _).mono ?_
  rintro e w2 ⟨rfl, rfl⟩
  go_wp2_with fail
  refine (KF.out _).mono ?_
  rintro e w4 ⟨rfl, b4⟩
  have D4 := Lib.hid (D1.out.later b4)
  clear b4
  clear x0 x1 x2 x3 x4 x5 x6 x7 x8 x9 xlt
  obtain ⟨x0, x1, x2, x3, x4, x5, x6, x7, x8, x9, xlt⟩ := Sx.of D4.out.s
  obtain ⟨y0, y1, y2, y3, y4, y5, y6, y7, y8, y9, z0, z1, z2, z3, z4, z5, z6, z7, z8, z9⟩ := blk_writes D4.out.o.r
  obtain ⟨v0, v1, v2, v3, u0, u1, u2, u3⟩ := blk_four D4.out.o.x
  go_wp2_with fail
  have HF := fin D4.out.o.r D4.out.o.x (.int .u64 0) (.int .u64 0) (.int .u64 0) (.int .i64 0) (.int .i64 0) (.int .i64 0) (.int .i64 0) (.int .i64 0) (.int .i64 0) (.int .i64 0) (.int .i64 0) (.int .i64 0) (.int .i64 0) (.int .i64 0)
  exact bodyPost_ret (res_rcan rfl rfl rfl HF.1 HF.2) rfl ⟨rfl, fin_below D4.out.b (by omega) _ _ _ _ _ _ _ _ _ _ _ _ _ _⟩
set_option maxRecDepth 100000 in
set_option maxHeartbeats 4000000 in
theorem can_none_true (s : Sb) (m day : Int) (w : World) (hw : Tab w) (hin : In m s.c.s) (h : s.Ok m) (hd : 1 ≤ day ∧ day ≤ 3652059) (h1 : s.e = 0) (h2 : ¬ day < s.c.s) (h3 : ¬ day < s.s) (hk : ∀ k, ¬ Per s.c m day k) : Calls Tryd.prog 19 #[s.val, .int .i64 day, .bool true] w (NoRes 7 w) := by
  have KC := Lib.hid (fun u hu => check_yes s m u hu hin h)
  have KD := Lib.hid (fun u => day_yes day u hd)
  have HT := Lib.hid hw
  have D0 := Lib.hid (gx_can w s)
  have b0 := h.num.b0
  have b1' := h.num.b1
  have KF := Lib.hid (fun u hu => con_no s m day u hu h.c hin hd hk)
  clear hd hk
  have q1 : (s.e != 0) = false := by simpa using h1
  have q2 : decide (day < s.c.s) = false := by simpa using h2
  have q3 : decide (day < s.s) = false := by simpa using h3
  clear h1
  go_enter Tryd.func19, Tryd.ntmps19
  unfold Sb.val Sb.cells
  go_wp2_with fail
  refine (KC.out _ (tab_later HT.out D0.out.b)).mono ?_
  rintro e w1 ⟨rfl, b1⟩
  have D1 := Lib.hid (D0.out.later b1)
  clear b1
  obtain ⟨x0, x1, x2, x3, x4, x5, x6, x7, x8, x9, xlt⟩ := Sx.of D1.out.s
  go_wp2_with fail
  refine (KD.out _).mono ?_
  rintro e w2 ⟨rfl, rfl⟩
  go_wp2_with fail
  refine (KF.out _ (tab_later HT.out D1.out.b)).mono ?_
  rintro e w4 ⟨rfl, b4⟩
  have D4 := Lib.hid (D1.out.later b4)
  clear b4
  clear x0 x1 x2 x3 x4 x5 x6 x7 x8 x9 xlt
  have hG : w.heap.size + 2 < w4.heap.size := D4.out.o.x.lt
  go_upto_region 6 with (fail)
  obtain ⟨W5, hW5⟩ : ∃ W5, w4.alloc (.cells (Pd.cells Pd.none) 70) = W5 := ⟨_, rfl⟩
  have b5 : Below w4.heap.size w4 W5 := by rw [← hW5]; exact (Below.refl _ w4).alloc (Nat.le_refl _) _
  have P5 := Lib.hid (show Blk W5 w4.heap.size (Pd.cells Pd.none) 70 by rw [← hW5]; exact Blk.new w4 _ _)
  rw [show w4.alloc (.cells #[.int .i64 (Pd.k Pd.none), .int .i64 (Pd.f Pd.none), .int .i64 (Pd.n Pd.none), .int .i64 (Pd.u Pd.none)] 70) = W5 from hW5]
  have D5 := Lib.hid (D4.out.later b5)
  generalize w4.heap.size = G at *
  clear b5 hW5 D4
  have p0 : W5.cell? ⟨G, 0, Option.none⟩ = some (.int .i64 (Pd.k Pd.none)) := P5.out.cell 0
  have p1 : W5.cell? ⟨G, 1, Option.none⟩ = some (.int .i64 (Pd.f Pd.none)) := P5.out.cell 1
  have p2 : W5.cell? ⟨G, 2, Option.none⟩ = some (.int .i64 (Pd.n Pd.none)) := P5.out.cell 2
  have p3 : W5.cell? ⟨G, 3, Option.none⟩ = some (.int .i64 (Pd.u Pd.none)) := P5.out.cell 3
  obtain ⟨x0, x1, x2, x3, x4, x5, x6, x7, x8, x9, xlt⟩ := Sx.of D5.out.s
  obtain ⟨y0, y1, y2, y3, y4, y5, y6, y7, y8, y9, z0, z1, z2, z3, z4, z5, z6, z7, z8, z9⟩ := blk_writes D5.out.o.r
  obtain ⟨v0, v1, v2, v3, u0, u1, u2, u3⟩ := blk_four D5.out.o.x
  go_wp2_with fail
  have HF := fin D5.out.o.r D5.out.o.x (.int .u64 0) (.int .u64 0) (.int .u64 0) (.int .i64 0) (.int .i64 0) (.int .i64 0) (.int .i64 0) (.int .i64 0) (.int .i64 0) (.int .i64 0) (.int .i64 0) (.int .i64 0) (.int .i64 0) (.int .i64 0)
  exact bodyPost_ret (res_can rfl rfl rfl HF.1 HF.2) rfl ⟨rfl, fin_below D5.out.b (by omega) _ _ _ _ _ _ _ _ _ _ _ _ _ _⟩
set_option maxRecDepth 100000 in
set_option maxHeartbeats 4000000 in
theorem rcan_none_true (s : Sb) (m day : Int) (w : World) (hin : In m s.c.s) (h : s.Ok m) (hd : 1 ≤ day ∧ day ≤ 3652059) (h1 : s.e = 0) (h2 : ¬ day < s.c.s) (h3 : ¬ day < s.s) (hk : ∀ k, ¬ Per s.c m day k) : Calls Tryd.prog 20 #[s.val, .int .i64 day, .bool true] w (NoRes 7 w) := by
  have KC := Lib.hid (fun u => rcheck_yes s m u hin h)
  have KD := Lib.hid (fun u => rday_s day u true (dayB_yes hd.1 hd.2))
  have D0 := Lib.hid (gx_can w s)
  have b0 := h.num.b0
  have b1' := h.num.b1
  have KF := Lib.hid (fun u => rper_no s.c m day u h.c hin hd hk)
  clear hd hk
  have q1 : (s.e != 0) = false := by simpa using h1
  have q2 : decide (day < s.c.s) = false := by simpa using h2
  have q3 : decide (day < s.s) = false := by simpa using h3
  clear h1
  go_enter Tryd.func20, Tryd.ntmps20
  unfold Sb.val Sb.cells
  go_wp2_with fail
  refine (KC.out _).mono ?_
  rintro e w1 ⟨rfl, b1⟩
  have D1 := Lib.hid (D0.out.later b1)
  clear b1
  obtain ⟨x0, x1, x2, x3, x4, x5, x6, x7, x8, x9, xlt⟩ := Sx.of D1.out.s
  go_wp2_with fail
  refine (KD.out _).mono ?_
  rintro e w2 ⟨rfl, rfl⟩
  go_wp2_with fail
  refine (KF.out _).mono ?_
  rintro e w4 ⟨rfl, b4⟩
  have D4 := Lib.hid (D1.out.later b4)
  clear b4
  clear x0 x1 x2 x3 x4 x5 x6 x7 x8 x9 xlt
  obtain ⟨y0, y1, y2, y3, y4, y5, y6, y7, y8, y9, z0, z1, z2, z3, z4, z5, z6, z7, z8, z9⟩ := blk_writes D4.out.o.r
  obtain ⟨v0, v1, v2, v3, u0, u1, u2, u3⟩ := blk_four D4.out.o.x
  go_wp2_with fail
  have HF := fin D4.out.o.r D4.out.o.x (.int .u64 0) (.int .u64 0) (.int .u64 0) (.int .i64 0) (.int .i64 0) (.int .i64 0) (.int .i64 0) (.int .i64 0) (.int .i64 0) (.int .i64 0) (.int .i64 0) (.int .i64 0) (.int .i64 0) (.int .i64 0)
  exact bodyPost_ret (res_rcan rfl rfl rfl HF.1 HF.2) rfl ⟨rfl, fin_below D4.out.b (by omega) _ _ _ _ _ _ _ _ _ _ _ _ _ _⟩
set_option maxRecDepth 100000 in
set_option maxHeartbeats 4000000 in
theorem can_late_true (s : Sb) (m day : Int) (w : World) (hw : Tab w) (hin : In m s.c.s) (h : s.Ok m) (hd : 1 ≤ day ∧ day ≤ 3652059) (h1 : s.e = 0) (h2 : ¬ day < s.c.s) (h3 : ¬ day < s.s) (k : Nat) (hk : Per s.c m day k) (hb : (k : Int) + 1 < s.b) : Calls Tryd.prog 19 #[s.val, .int .i64 day, .bool true] w (NoRes 9 w) := by
  have KC := Lib.hid (fun u hu => check_yes s m u hu hin h)
  have KD := Lib.hid (fun u => day_yes day u hd)
  have HT := Lib.hid hw
  have D0 := Lib.hid (gx_can w s)
  have b0 := h.num.b0
  have b1' := h.num.b1
  obtain ⟨p, hp⟩ : ∃ p, per s.c m k = p := ⟨_, rfl⟩
  have hpk : p.k = (k : Int) := by rw [← hp]; rfl
  have KF := Lib.hid (fun u hu => con_yes s m day k u hu h.c hin hd hk)
  rw [hp] at KF
  rw [← hpk] at hb
  have hp0 : 0 ≤ p.k := by omega
  clear hp hpk hd hk
  have q1 : (s.e != 0) = false := by simpa using h1
  have q2 : decide (day < s.c.s) = false := by simpa using h2
  have q3 : decide (day < s.s) = false := by simpa using h3
  clear h1
  go_enter Tryd.func19, Tryd.ntmps19
  unfold Sb.val Sb.cells
  go_wp2_with fail
  refine (KC.out _ (tab_later HT.out D0.out.b)).mono ?_
  rintro e w1 ⟨rfl, b1⟩
  have D1 := Lib.hid (D0.out.later b1)
  clear b1
  obtain ⟨x0, x1, x2, x3, x4, x5, x6, x7, x8, x9, xlt⟩ := Sx.of D1.out.s
  go_wp2_with fail
  refine (KD.out _).mono ?_
  rintro e w2 ⟨rfl, rfl⟩
  go_wp2_with fail
  refine (KF.out _ (tab_later HT.out D1.out.b)).mono ?_
  rintro e w4 ⟨rfl, b4⟩
  have D4 := Lib.hid (D1.out.later b4)
  clear b4
  clear x0 x1 x2 x3 x4 x5 x6 x7 x8 x9 xlt
  have hG : w.heap.size + 2 < w4.heap.size := D4.out.o.x.lt
  go_upto_region 6 with (fail)
  obtain ⟨W5, hW5⟩ : ∃ W5, w4.alloc (.cells (Pd.cells p) 70) = W5 := ⟨_, rfl⟩
  have b5 : Below w4.heap.size w4 W5 := by rw [← hW5]; exact (Below.refl _ w4).alloc (Nat.le_refl _) _
  have P5 := Lib.hid (show Blk W5 w4.heap.size (Pd.cells p) 70 by rw [← hW5]; exact Blk.new w4 _ _)
  rw [show w4.alloc (.cells #[.int .i64 (Pd.k p), .int .i64 (Pd.f p), .int .i64 (Pd.n p), .int .i64 (Pd.u p)] 70) = W5 from hW5]
  have D5 := Lib.hid (D4.out.later b5)
  generalize w4.heap.size = G at *
  clear b5 hW5 D4
  have p0 : W5.cell? ⟨G, 0, Option.none⟩ = some (.int .i64 (Pd.k p)) := P5.out.cell 0
  have p1 : W5.cell? ⟨G, 1, Option.none⟩ = some (.int .i64 (Pd.f p)) := P5.out.cell 1
  have p2 : W5.cell? ⟨G, 2, Option.none⟩ = some (.int .i64 (Pd.n p)) := P5.out.cell 2
  have p3 : W5.cell? ⟨G, 3, Option.none⟩ = some (.int .i64 (Pd.u p)) := P5.out.cell 3
  obtain ⟨x0, x1, x2, x3, x4, x5, x6, x7, x8, x9, xlt⟩ := Sx.of D5.out.s
  obtain ⟨y0, y1, y2, y3, y4, y5, y6, y7, y8, y9, z0, z1, z2, z3, z4, z5, z6, z7, z8, z9⟩ := blk_writes D5.out.o.r
  obtain ⟨v0, v1, v2, v3, u0, u1, u2, u3⟩ := blk_four D5.out.o.x
  go_wp2_with fail
  have HF := fin D5.out.o.r D5.out.o.x (.int .u64 0) (.int .u64 0) (.int .u64 0) (.int .i64 0) (.int .i64 0) (.int .i64 0) (.int .i64 0) (.int .i64 0) (.int .i64 0) (.int .i64 0) (.int .i64 0) (.int .i64 0) (.int .i64 0) (.int .i64 0)
  exact bodyPost_ret (res_can rfl rfl rfl HF.1 HF.2) rfl ⟨rfl, fin_below D5.out.b (by omega) _ _ _ _ _ _ _ _ _ _ _ _ _ _⟩
set_option maxRecDepth 100000 in
set_option maxHeartbeats 4000000 in
theorem rcan_late_true (s : Sb) (m day : Int) (w : World) (hin : In m s.c.s) (h : s.Ok m) (hd : 1 ≤ day ∧ day ≤ 3652059) (h1 : s.e = 0) (h2 : ¬ day < s.c.s) (h3 : ¬ day < s.s) (k : Nat) (hk : Per s.c m day k) (hb : (k : Int) + 1 < s.b) : Calls Tryd.prog 20 #[s.val, .int .i64 day, .bool true] w (NoRes 9 w) := by
  have KC := Lib.hid (fun u => rcheck_yes s m u hin h)
  have KD := Lib.hid (fun u => rday_s day u true (dayB_yes hd.1 hd.2))
  have D0 := Lib.hid (gx_can w s)
  have b0 := h.num.b0
  have b1' := h.num.b1
  have KF := Lib.hid (fun u => rper_yes s.c m day k u h.c hin hd hk)
  clear hd hk
  have q1 : (s.e != 0) = false := by simpa using h1
  have q2 : decide (day < s.c.s) = false := by simpa using h2
  have q3 : decide (day < s.s) = false := by simpa using h3
  clear h1
  go_enter Tryd.func20, Tryd.ntmps20
  unfold Sb.val Sb.cells
  go_wp2_with fail
  refine (KC.out _).mono ?_
  rintro e w1 ⟨rfl, b1⟩
  have D1 := Lib.hid (D0.out.later b1)
  clear b1
  obtain ⟨x0, x1, x2, x3, x4, x5, x6, x7, x8, x9, xlt⟩ := Sx.of D1.out.s
  go_wp2_with fail
  refine (KD.out _).mono ?_
  rintro e w2 ⟨rfl, rfl⟩
  go_wp2_with fail
  refine (KF.out _).mono ?_
  rintro e w4 ⟨rfl, b4⟩
  have D4 := Lib.hid (D1.out.later b4)
  clear b4
  clear x0 x1 x2 x3 x4 x5 x6 x7 x8 x9 xlt
  obtain ⟨x0, x1, x2, x3, x4, x5, x6, x7, x8, x9, xlt⟩ := Sx.of D4.out.s
  obtain ⟨y0, y1, y2, y3, y4, y5, y6, y7, y8, y9, z0, z1, z2, z3, z4, z5, z6, z7, z8, z9⟩ := blk_writes D4.out.o.r
  obtain ⟨v0, v1, v2, v3, u0, u1, u2, u3⟩ := blk_four D4.out.o.x
  go_wp2_with fail
  have HF := fin D4.out.o.r D4.out.o.x (.int .u64 0) (.int .u64 0) (.int .u64 0) (.int .i64 0) (.int .i64 0) (.int .i64 0) (.int .i64 0) (.int .i64 0) (.int .i64 0) (.int .i64 0) (.int .i64 0) (.int .i64 0) (.int .i64 0) (.int .i64 0)
  exact bodyPost_ret (res_rcan rfl rfl rfl HF.1 HF.2) rfl ⟨rfl, fin_below D4.out.b (by omega) _ _ _ _ _ _ _ _ _ _ _ _ _ _⟩
end Go.Proofs.YtjchecjonkmhgaaDoor.Su
