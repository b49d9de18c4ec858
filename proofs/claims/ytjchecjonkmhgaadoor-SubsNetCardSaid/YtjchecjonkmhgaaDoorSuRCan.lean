/- The document's Cancel. -/
import Derived.Test.YtjchecjonkmhgaaDoorSuCan0
import Derived.Test.YtjchecjonkmhgaaDoorSuChg3
import Derived.Deep.DeepCutAuto
namespace Go.Proofs.YtjchecjonkmhgaaDoor.Su
open Go.RowKit Pr Cw An Rf
set_option maxRecDepth 100000 in
set_option maxHeartbeats 4000000 in
theorem rcan_next (s : Sb) (m day : Int) (w : World) (hin : In m s.c.s) (h : s.Ok m) (hd : 1 ≤ day ∧ day ≤ 3652059) (h1 : s.e = 0) (h2 : ¬ day < s.c.s) (k : Nat) (hk : Per s.c m day k) (hb : s.b ≤ (k : Int) + 1) : Calls Tryd.prog 20 #[s.val, .int .i64 day, .bool false] w (Yes s m day false k w) := by
  have KC := Lib.hid (fun u => rcheck_yes s m u hin h)
  have KD := Lib.hid (fun u => rday_s day u true (dayB_yes hd.1 hd.2))
  have D0 := Lib.hid (gx_can w s)
  have b0 := h.num.b0
  have b1' := h.num.b1
  obtain ⟨n, hn⟩ : ∃ n, bnd s.c m (k + 1) = n := ⟨_, rfl⟩
  have KF := Lib.hid (fun u => rper_yes s.c m day k u h.c hin hd hk)
  rw [hn] at KF
  have hkm : (k : Int) ≤ 119988 := by
    rcases Nat.lt_or_ge 119988 (k + 1) with g | g
    · exact absurd hk.1 (has_hi h.c hin.lo g)
    · omega
  have HRES := Lib.hid (show (s.ended (canEnd s m day false k)).val = (s.ended n).val ∧ (canTurn s m day false k).val = Tn.none.val from ⟨by unfold canEnd; rw [hn]; simp, by unfold canTurn; simp⟩)
  unfold Yes
  rw [HRES.out.1, HRES.out.2]
  clear hn hd hk
  have q1 : (s.e != 0) = false := by simpa using h1
  have q2 : decide (day < s.c.s) = false := by simpa using h2
  clear h1
  go_enter Tryd.func20, Tryd.ntmps20
  unfold Sb.val Sb.cells
  go_wp2_with fail
  refine (KC.out _).mono ?_
  rintro e w1 ⟨rfl, b1⟩
  have D1 := Lib.hid (D0.out.later b1)
  clear b1
  obtain ⟨x0, x1, x2, x3, x4, x5, x6, x7, x8, x9, xlt⟩ := Sx.of D1.out.s
  go_wp2_with fail
  refine (KD.out _).mono ?_
  rintro e w2 ⟨rfl, rfl⟩
  go_wp2_with fail
  refine (KF.out _).mono ?_
  rintro e w4 ⟨rfl, b4⟩
  have D4 := Lib.hid (D1.out.later b4)
  clear b4
  clear x0 x1 x2 x3 x4 x5 x6 x7 x8 x9 xlt
  obtain ⟨x0, x1, x2, x3, x4, x5, x6, x7, x8, x9, xlt⟩ := Sx.of D4.out.s
  obtain ⟨y0, y1, y2, y3, y4, y5, y6, y7, y8, y9, z0, z1, z2, z3, z4, z5, z6, z7, z8, z9⟩ := blk_writes D4.out.o.r
  obtain ⟨v0, v1, v2, v3, u0, u1, u2, u3⟩ := blk_four D4.out.o.x
  have e9 := D4.out.s.frozen 9
  go_upto_region 12 with (fail)
  obtain ⟨W9, hW9⟩ : ∃ W9, w4.setCell ⟨w.heap.size, 9, Option.none⟩ (.int .i64 n) = W9 := ⟨_, rfl⟩
  have S9 := Lib.hid (show Blk W9 w.heap.size (s.ended n).cells 26 by rw [← hW9]; exact D4.out.s.set 9 _)
  have R9 := Lib.hid (show Blk W9 (w.heap.size + 1) Sb.none.cells 26 by rw [← hW9]; exact D4.out.o.r.other 9 _ (by omega))
  have X9 := Lib.hid (show Blk W9 (w.heap.size + 1 + 1) #[.int .i64 0, .int .i64 0, .int .i64 0, .int .i64 0] 45 by rw [← hW9]; exact D4.out.o.x.other 9 _ (by omega))
  have B9 := Lib.hid (show Below w.heap.size w W9 by rw [← hW9]; exact D4.out.b.setCell (p := ⟨w.heap.size, 9, Option.none⟩) (Nat.le_refl _) _)
  rw [hW9]
  clear hW9 e9
  clear x0 x1 x2 x3 x4 x5 x6 x7 x8 x9 xlt
  clear y0 y1 y2 y3 y4 y5 y6 y7 y8 y9 z0 z1 z2 z3 z4 z5 z6 z7 z8 z9 v0 v1 v2 v3 u0 u1 u2 u3
  obtain ⟨x0, x1, x2, x3, x4, x5, x6, x7, x8, x9, xlt⟩ := Sx.of S9.out
  dsimp only [Sb.ended] at x0 x1 x2 x3 x4 x5 x6 x7 x8 x9
  obtain ⟨y0, y1, y2, y3, y4, y5, y6, y7, y8, y9, z0, z1, z2, z3, z4, z5, z6, z7, z8, z9⟩ := blk_writes R9.out
  obtain ⟨v0, v1, v2, v3, u0, u1, u2, u3⟩ := blk_four X9.out
  go_wp2_with fail
  have HF := fin R9.out X9.out (.int .u64 s.id) (.int .u64 s.cu) (.int .u64 s.pl) (.int .i64 s.c.s) (.int .i64 s.c.a) (.int .i64 s.c.e) (.int .i64 s.p) (.int .i64 s.b) (.int .i64 s.s) (.int .i64 n) (.int .i64 0) (.int .i64 0) (.int .i64 0) (.int .i64 0)
  exact bodyPost_ret (res_rcan rfl rfl rfl HF.1 HF.2) rfl ⟨rfl, fin_below B9.out (by omega) _ _ _ _ _ _ _ _ _ _ _ _ _ _⟩
set_option maxRecDepth 100000 in
set_option maxHeartbeats 4000000 in
theorem rcan_at0 (s : Sb) (m day : Int) (w : World) (hin : In m s.c.s) (h : s.Ok m) (hd : 1 ≤ day ∧ day ≤ 3652059) (h1 : s.e = 0) (h2 : ¬ day < s.c.s) (h3 : ¬ day < s.s) (k : Nat) (hk : Per s.c m day k) (hb : s.b ≤ (k : Int)) : Calls Tryd.prog 20 #[s.val, .int .i64 day, .bool true] w (Yes s m day true k w) := by
  have KC := Lib.hid (fun u => rcheck_yes s m u hin h)
  have KD := Lib.hid (fun u => rday_s day u true (dayB_yes hd.1 hd.2))
  have D0 := Lib.hid (gx_can w s)
  have b0 := h.num.b0
  have b1' := h.num.b1
  obtain ⟨n, hn⟩ : ∃ n, bnd s.c m (k + 1) = n := ⟨_, rfl⟩
  have KF := Lib.hid (fun u => rper_yes s.c m day k u h.c hin hd hk)
  rw [hn] at KF
  have hkm : (k : Int) ≤ 119988 := by
    rcases Nat.lt_or_ge 119988 (k + 1) with g | g
    · exact absurd hk.1 (has_hi h.c hin.lo g)
    · omega
  have HRES := Lib.hid (show (s.ended (canEnd s m day true k)).val = (s.ended day).val ∧ (canTurn s m day true k).val = Tn.none.val from ⟨by unfold canEnd; simp, by unfold canTurn; rw [if_neg (by omega)]⟩)
  unfold Yes
  rw [HRES.out.1, HRES.out.2]
  have q4 : (s.b == (k : Int) + 1) = false := by simp; omega
  clear hn hd hk
  have q1 : (s.e != 0) = false := by simpa using h1
  have q2 : decide (day < s.c.s) = false := by simpa using h2
  have q3 : decide (day < s.s) = false := by simpa using h3
  clear h1
  go_enter Tryd.func20, Tryd.ntmps20
  unfold Sb.val Sb.cells
  go_wp2_with fail
  refine (KC.out _).mono ?_
  rintro e w1 ⟨rfl, b1⟩
  have D1 := Lib.hid (D0.out.later b1)
  clear b1
  obtain ⟨x0, x1, x2, x3, x4, x5, x6, x7, x8, x9, xlt⟩ := Sx.of D1.out.s
  go_wp2_with fail
  refine (KD.out _).mono ?_
  rintro e w2 ⟨rfl, rfl⟩
  go_wp2_with fail
  refine (KF.out _).mono ?_
  rintro e w4 ⟨rfl, b4⟩
  have D4 := Lib.hid (D1.out.later b4)
  clear b4
  clear x0 x1 x2 x3 x4 x5 x6 x7 x8 x9 xlt
  obtain ⟨x0, x1, x2, x3, x4, x5, x6, x7, x8, x9, xlt⟩ := Sx.of D4.out.s
  have hGX : w.heap.size + 2 < w4.heap.size := D4.out.o.x.lt
  go_upto_region 14 with (fail)
  obtain ⟨W5, hW5⟩ : ∃ W5, w4.alloc (.cells zero4 45) = W5 := ⟨_, rfl⟩
  have b5 : Below w4.heap.size w4 W5 := by rw [← hW5]; exact (Below.refl _ w4).alloc (Nat.le_refl _) _
  have P5 := Lib.hid (show Blk W5 w4.heap.size zero4 45 by rw [← hW5]; exact Blk.new w4 _ _)
  rw [show w4.alloc (.cells #[.int .i64 0, .int .i64 0, .int .i64 0, .int .i64 0] 45) = W5 from hW5]
  have D5 := Lib.hid (D4.out.later b5)
  generalize w4.heap.size = G at *
  clear b5 hW5 D4
  clear x0 x1 x2 x3 x4 x5 x6 x7 x8 x9 xlt
  obtain ⟨x0, x1, x2, x3, x4, x5, x6, x7, x8, x9, xlt⟩ := Sx.of D5.out.s
  have S8 := Lib.hid D5.out.s
  have R8 := Lib.hid D5.out.o.r
  have X8 := Lib.hid D5.out.o.x
  have G8 := P5
  have B8 := Lib.hid D5.out.b
  clear D5 P5
  clear x0 x1 x2 x3 x4 x5 x6 x7 x8 x9 xlt
  have e9 := S8.out.frozen 9
  obtain ⟨x0, x1, x2, x3, x4, x5, x6, x7, x8, x9, xlt⟩ := Sx.of S8.out
  go_upto_region 17 with (fail)
  obtain ⟨W9, hW9⟩ : ∃ W9, W5.setCell ⟨w.heap.size, 9, Option.none⟩ (.int .i64 day) = W9 := ⟨_, rfl⟩
  have S9 := Lib.hid (show Blk W9 w.heap.size (s.ended day).cells 26 by rw [← hW9]; exact S8.out.set 9 _)
  have R9 := Lib.hid (show Blk W9 (w.heap.size + 1) Sb.none.cells 26 by rw [← hW9]; exact R8.out.other 9 _ (by omega))
  have X9 := Lib.hid (show Blk W9 (w.heap.size + 1 + 1) #[.int .i64 0, .int .i64 0, .int .i64 0, .int .i64 0] 45 by rw [← hW9]; exact X8.out.other 9 _ (by omega))
  have G9 := Lib.hid (show Blk W9 G #[.int .i64 0, .int .i64 0, .int .i64 0, .int .i64 0] 45 by rw [← hW9]; exact G8.out.other 9 _ (by omega))
  have B9 := Lib.hid (show Below w.heap.size w W9 by rw [← hW9]; exact B8.out.setCell (p := ⟨w.heap.size, 9, Option.none⟩) (Nat.le_refl _) _)
  rw [hW9]
  clear hW9 e9 S8 R8 X8 G8 B8
  clear x0 x1 x2 x3 x4 x5 x6 x7 x8 x9 xlt
  obtain ⟨x0, x1, x2, x3, x4, x5, x6, x7, x8, x9, xlt⟩ := Sx.of S9.out
  dsimp only [Sb.ended] at x0 x1 x2 x3 x4 x5 x6 x7 x8 x9
  obtain ⟨y0, y1, y2, y3, y4, y5, y6, y7, y8, y9, z0, z1, z2, z3, z4, z5, z6, z7, z8, z9⟩ := blk_writes R9.out
  obtain ⟨v0, v1, v2, v3, u0, u1, u2, u3⟩ := blk_four X9.out
  have t0 : W9.cell? ⟨G, 0, Option.none⟩ = some (.int .i64 0) := G9.out.cell 0
  have t1 : W9.cell? ⟨G, 1, Option.none⟩ = some (.int .i64 0) := G9.out.cell 1
  have t2 : W9.cell? ⟨G, 2, Option.none⟩ = some (.int .i64 0) := G9.out.cell 2
  have t3 : W9.cell? ⟨G, 3, Option.none⟩ = some (.int .i64 0) := G9.out.cell 3
  go_wp2_with fail
  go_region
  generalize hW10 : World.drew _ = W10
  have HF := fin R9.out X9.out (.int .u64 s.id) (.int .u64 s.cu) (.int .u64 s.pl) (.int .i64 s.c.s) (.int .i64 s.c.a) (.int .i64 s.c.e) (.int .i64 s.p) (.int .i64 s.b) (.int .i64 s.s) (.int .i64 day) (.int .i64 0) (.int .i64 0) (.int .i64 0) (.int .i64 0)
  have F1 := Lib.hid (show Blk W10 (w.heap.size + 1) (s.ended day).cells 26 by rw [← hW10]; exact HF.1.drew)
  have F2 := Lib.hid (show Blk W10 (w.heap.size + 1 + 1) #[.int .i64 0, .int .i64 0, .int .i64 0, .int .i64 0] 45 by rw [← hW10]; exact HF.2.drew)
  have F3 := Lib.hid (show Below w.heap.size w W10 by rw [← hW10]; exact (fin_below (B := w.heap.size + 1) B9.out (by omega) (.int .u64 s.id) (.int .u64 s.cu) (.int .u64 s.pl) (.int .i64 s.c.s) (.int .i64 s.c.a) (.int .i64 s.c.e) (.int .i64 s.p) (.int .i64 s.b) (.int .i64 s.s) (.int .i64 day) (.int .i64 0) (.int .i64 0) (.int .i64 0) (.int .i64 0)).drew)
  clear HF hW10 S9 R9 X9 G9 B9 x0 x1 x2 x3 x4 x5 x6 x7 x8 x9 xlt y0 y1 y2 y3 y4 y5 y6 y7 y8 y9 z0 z1 z2 z3 z4 z5 z6 z7 z8 z9 v0 v1 v2 v3 u0 u1 u2 u3 t0 t1 t2 t3
  go_wp2_with fail
  exact bodyPost_ret (res_rcan rfl rfl rfl F1.out F2.out) rfl ⟨rfl, F3.out⟩
set_option maxRecDepth 100000 in
set_option maxHeartbeats 4000000 in
theorem rcan_at1 (s : Sb) (m day : Int) (w : World) (hin : In m s.c.s) (h : s.Ok m) (hd : 1 ≤ day ∧ day ≤ 3652059) (h1 : s.e = 0) (h2 : ¬ day < s.c.s) (h3 : ¬ day < s.s) (k : Nat) (hk : Per s.c m day k) (hb : s.b = (k : Int) + 1) : Calls Tryd.prog 20 #[s.val, .int .i64 day, .bool true] w (Yes s m day true k w) := by
  have KC := Lib.hid (fun u => rcheck_yes s m u hin h)
  have KD := Lib.hid (fun u => rday_s day u true (dayB_yes hd.1 hd.2))
  have D0 := Lib.hid (gx_can w s)
  have b0 := h.num.b0
  have b1' := h.num.b1
  obtain ⟨n, hn⟩ : ∃ n, bnd s.c m (k + 1) = n := ⟨_, rfl⟩
  have KF := Lib.hid (fun u => rper_yes s.c m day k u h.c hin hd hk)
  rw [hn] at KF
  have hkm : (k : Int) ≤ 119988 := by
    rcases Nat.lt_or_ge 119988 (k + 1) with g | g
    · exact absurd hk.1 (has_hi h.c hin.lo g)
    · omega
  have KO := Lib.hid (fun u => ron_s s (mo s.c m k) (bnd s.c m (k + 1)) s.p day (bnd s.c m (k + 1)) u h.c (mo_in h.c hin hk.1) hd.1 hd.2 (by have := per_bd h.c hin hk.1; omega) (by have := per_bd h.c hin hk.1; omega))
  obtain ⟨qa, hqa⟩ : ∃ qa, onv s.p (bnd s.c m (k + 1) - bg s.c (mo s.c m k) - (bnd s.c m (k + 1) - day)) (bnd s.c m (k + 1) - bg s.c (mo s.c m k) - (bnd s.c m (k + 1) - bnd s.c m (k + 1))) (bnd s.c m (k + 1) - bg s.c (mo s.c m k)) = qa := ⟨_, rfl⟩
  rw [hqa] at KO
  have HRES := Lib.hid (show (s.ended (canEnd s m day true k)).val = (s.ended day).val ∧ (canTurn s m day true k).val = Tn.val ⟨day, n, qa, 0⟩ from ⟨by unfold canEnd; simp, by unfold canTurn; rw [if_pos ⟨rfl, by omega⟩, ← hqa, ← hn]; rfl⟩)
  rw [hn] at KO
  unfold Yes
  rw [HRES.out.1, HRES.out.2]
  have q4 : (s.b == (k : Int) + 1) = true := by simp; omega
  have HBK := Lib.hid hb
  have q5 : ¬ ((k : Int) + 1 < s.b) := by omega
  clear hn hd hk hqa hb
  have q1 : (s.e != 0) = false := by simpa using h1
  have q2 : decide (day < s.c.s) = false := by simpa using h2
  have q3 : decide (day < s.s) = false := by simpa using h3
  clear h1
  go_enter Tryd.func20, Tryd.ntmps20
  unfold Sb.val Sb.cells
  go_wp2_with fail
  refine (KC.out _).mono ?_
  rintro e w1 ⟨rfl, b1⟩
  have D1 := Lib.hid (D0.out.later b1)
  clear b1
  obtain ⟨x0, x1, x2, x3, x4, x5, x6, x7, x8, x9, xlt⟩ := Sx.of D1.out.s
  go_wp2_with fail
  refine (KD.out _).mono ?_
  rintro e w2 ⟨rfl, rfl⟩
  go_wp2_with fail
  refine (KF.out _).mono ?_
  rintro e w4 ⟨rfl, b4⟩
  have D4 := Lib.hid (D1.out.later b4)
  clear b4
  clear x0 x1 x2 x3 x4 x5 x6 x7 x8 x9 xlt
  obtain ⟨x0, x1, x2, x3, x4, x5, x6, x7, x8, x9, xlt⟩ := Sx.of D4.out.s
  have hGX : w.heap.size + 2 < w4.heap.size := D4.out.o.x.lt
  go_upto_region 14 with (fail)
  obtain ⟨W5, hW5⟩ : ∃ W5, w4.alloc (.cells zero4 45) = W5 := ⟨_, rfl⟩
  have b5 : Below w4.heap.size w4 W5 := by rw [← hW5]; exact (Below.refl _ w4).alloc (Nat.le_refl _) _
  have P5 := Lib.hid (show Blk W5 w4.heap.size zero4 45 by rw [← hW5]; exact Blk.new w4 _ _)
  rw [show w4.alloc (.cells #[.int .i64 0, .int .i64 0, .int .i64 0, .int .i64 0] 45) = W5 from hW5]
  have D5 := Lib.hid (D4.out.later b5)
  generalize w4.heap.size = G at *
  clear b5 hW5 D4
  clear x0 x1 x2 x3 x4 x5 x6 x7 x8 x9 xlt
  obtain ⟨x0, x1, x2, x3, x4, x5, x6, x7, x8, x9, xlt⟩ := Sx.of D5.out.s
  go_wp2_with fail
  refine (KO.out _).mono ?_
  rintro e w6 ⟨rfl, b6⟩
  have D6 := Lib.hid (D5.out.later b6)
  have P6 := Lib.hid (P5.out.later b6)
  clear b6 D5 P5
  clear x0 x1 x2 x3 x4 x5 x6 x7 x8 x9 xlt
  have f0 := P6.out.frozen 0
  have f1 := P6.out.frozen 1
  have f2 := P6.out.frozen 2
  have f3 := P6.out.frozen 3
  have p0 : w6.cell? ⟨G, 0, Option.none⟩ = some (.int .i64 0) := P6.out.cell 0
  have p1 : w6.cell? ⟨G, 1, Option.none⟩ = some (.int .i64 0) := P6.out.cell 1
  have p2 : w6.cell? ⟨G, 2, Option.none⟩ = some (.int .i64 0) := P6.out.cell 2
  have p3 : w6.cell? ⟨G, 3, Option.none⟩ = some (.int .i64 0) := P6.out.cell 3
  go_upto_region 16 with (fail)
  obtain ⟨W8, hW8⟩ : ∃ W8, ((((w6.setCell ⟨G, 0, Option.none⟩ (.int .i64 day)).setCell ⟨G, 1, Option.none⟩ (.int .i64 n)).setCell ⟨G, 2, Option.none⟩ (.int .i64 qa)).setCell ⟨G, 3, Option.none⟩ (.int .i64 0)) = W8 := ⟨_, rfl⟩
  have S8 := Lib.hid (show Blk W8 w.heap.size s.cells 26 by rw [← hW8]; exact D6.out.s.far (by omega) _ _ _ _)
  have R8 := Lib.hid (show Blk W8 (w.heap.size + 1) Sb.none.cells 26 by rw [← hW8]; exact D6.out.o.r.far (by omega) _ _ _ _)
  have X8 := Lib.hid (show Blk W8 (w.heap.size + 1 + 1) zero4 45 by rw [← hW8]; exact D6.out.o.x.far (by omega) _ _ _ _)
  have G8 := Lib.hid (show Blk W8 G #[.int .i64 day, .int .i64 n, .int .i64 qa, .int .i64 0] 45 by rw [← hW8]; exact P6.out.four _ _ _ _)
  have B8 := Lib.hid (show Below w.heap.size w W8 by rw [← hW8]; exact below_four D6.out.b (by omega) _ _ _ _)
  rw [hW8]
  clear hW8 D6 P6 f0 f1 f2 f3 p0 p1 p2 p3
  have e9 := S8.out.frozen 9
  obtain ⟨x0, x1, x2, x3, x4, x5, x6, x7, x8, x9, xlt⟩ := Sx.of S8.out
  go_upto_region 17 with (fail)
  obtain ⟨W9, hW9⟩ : ∃ W9, W8.setCell ⟨w.heap.size, 9, Option.none⟩ (.int .i64 day) = W9 := ⟨_, rfl⟩
  have S9 := Lib.hid (show Blk W9 w.heap.size (s.ended day).cells 26 by rw [← hW9]; exact S8.out.set 9 _)
  have R9 := Lib.hid (show Blk W9 (w.heap.size + 1) Sb.none.cells 26 by rw [← hW9]; exact R8.out.other 9 _ (by omega))
  have X9 := Lib.hid (show Blk W9 (w.heap.size + 1 + 1) #[.int .i64 0, .int .i64 0, .int .i64 0, .int .i64 0] 45 by rw [← hW9]; exact X8.out.other 9 _ (by omega))
  have G9 := Lib.hid (show Blk W9 G #[.int .i64 day, .int .i64 n, .int .i64 qa, .int .i64 0] 45 by rw [← hW9]; exact G8.out.other 9 _ (by omega))
  have B9 := Lib.hid (show Below w.heap.size w W9 by rw [← hW9]; exact B8.out.setCell (p := ⟨w.heap.size, 9, Option.none⟩) (Nat.le_refl _) _)
  rw [hW9]
  clear hW9 e9 S8 R8 X8 G8 B8
  clear x0 x1 x2 x3 x4 x5 x6 x7 x8 x9 xlt
  obtain ⟨x0, x1, x2, x3, x4, x5, x6, x7, x8, x9, xlt⟩ := Sx.of S9.out
  dsimp only [Sb.ended] at x0 x1 x2 x3 x4 x5 x6 x7 x8 x9
  obtain ⟨y0, y1, y2, y3, y4, y5, y6, y7, y8, y9, z0, z1, z2, z3, z4, z5, z6, z7, z8, z9⟩ := blk_writes R9.out
  obtain ⟨v0, v1, v2, v3, u0, u1, u2, u3⟩ := blk_four X9.out
  have t0 : W9.cell? ⟨G, 0, Option.none⟩ = some (.int .i64 day) := G9.out.cell 0
  have t1 : W9.cell? ⟨G, 1, Option.none⟩ = some (.int .i64 n) := G9.out.cell 1
  have t2 : W9.cell? ⟨G, 2, Option.none⟩ = some (.int .i64 qa) := G9.out.cell 2
  have t3 : W9.cell? ⟨G, 3, Option.none⟩ = some (.int .i64 0) := G9.out.cell 3
  go_wp2_with fail
  go_region
  generalize hW10 : World.drew _ = W10
  have HF := fin R9.out X9.out (.int .u64 s.id) (.int .u64 s.cu) (.int .u64 s.pl) (.int .i64 s.c.s) (.int .i64 s.c.a) (.int .i64 s.c.e) (.int .i64 s.p) (.int .i64 s.b) (.int .i64 s.s) (.int .i64 day) (.int .i64 day) (.int .i64 n) (.int .i64 qa) (.int .i64 0)
  have F1 := Lib.hid (show Blk W10 (w.heap.size + 1) (s.ended day).cells 26 by rw [← hW10]; exact HF.1.drew)
  have F2 := Lib.hid (show Blk W10 (w.heap.size + 1 + 1) #[.int .i64 day, .int .i64 n, .int .i64 qa, .int .i64 0] 45 by rw [← hW10]; exact HF.2.drew)
  have F3 := Lib.hid (show Below w.heap.size w W10 by rw [← hW10]; exact (fin_below (B := w.heap.size + 1) B9.out (by omega) (.int .u64 s.id) (.int .u64 s.cu) (.int .u64 s.pl) (.int .i64 s.c.s) (.int .i64 s.c.a) (.int .i64 s.c.e) (.int .i64 s.p) (.int .i64 s.b) (.int .i64 s.s) (.int .i64 day) (.int .i64 day) (.int .i64 n) (.int .i64 qa) (.int .i64 0)).drew)
  clear HF hW10 S9 R9 X9 G9 B9 x0 x1 x2 x3 x4 x5 x6 x7 x8 x9 xlt y0 y1 y2 y3 y4 y5 y6 y7 y8 y9 z0 z1 z2 z3 z4 z5 z6 z7 z8 z9 v0 v1 v2 v3 u0 u1 u2 u3 t0 t1 t2 t3
  go_wp2_with fail
  exact bodyPost_ret (res_rcan rfl rfl rfl F1.out F2.out) rfl ⟨rfl, F3.out⟩
end Go.Proofs.YtjchecjonkmhgaaDoor.Su
