/- Package subs: Cancel, what is given back. -/
import Derived.Test.YtjchecjonkmhgaaDoorSuCan
import Derived.Deep.DeepCutAuto
namespace Go.Proofs.YtjchecjonkmhgaaDoor.Su
open Go.RowKit Pr Cw An Rf
set_option maxRecDepth 100000 in
set_option maxHeartbeats 8000000 in
theorem can_at1 (s : Sb) (m day : Int) (w : World) (hw : Tab w) (hin : In m s.c.s) (h : s.Ok m) (hd : 1 ≤ day ∧ day ≤ 3652059) (h1 : s.e = 0) (h2 : ¬ day < s.c.s) (h3 : ¬ day < s.s) (k : Nat) (hk : Per s.c m day k) (hb : s.b = (k : Int) + 1) : Calls Tryd.prog 19 #[s.val, .int .i64 day, .bool true] w (Yes s m day true k w) := by
  have KC := Lib.hid (fun u hu => check_yes s m u hu hin h)
  have KD := Lib.hid (fun u => day_yes day u hd)
  have HT := Lib.hid hw
  have D0 := Lib.hid (gx_can w s)
  have b0 := h.num.b0
  have b1' := h.num.b1
  obtain ⟨p, hp⟩ : ∃ p, per s.c m k = p := ⟨_, rfl⟩
  have hpk : p.k = (k : Int) := by rw [← hp]; rfl
  have hpn : p.n = bnd s.c m (k + 1) := by rw [← hp]; rfl
  have KF := Lib.hid (fun u hu => con_yes s m day k u hu h.c hin hd hk)
  rw [hp] at KF
  have hkn : (0 : Int) ≤ p.k := by omega
  have hkm : p.k ≤ 119988 := by
    rcases Nat.lt_or_ge 119988 (k + 1) with g | g
    · exact absurd hk.1 (has_hi h.c hin.lo g)
    · omega
  have hps : p.Small := hp ▸ per_small h.c hin hk.1
  have hpb := per_bd h.c hin hk.1
  rw [← hpn] at hpb
  have KY := Lib.hid (fun (price : Int) (B : Nat) (u : World) (hc : Cx B p day p.n u) => days1_c p price day p.n B u hps hd.1 hd.2 (by omega) (by omega) hc)
  obtain ⟨qa, hqa⟩ : ∃ qa, onv s.p (p.pl day) (p.pl p.n) p.u = qa := ⟨_, rfl⟩
  have HRES := Lib.hid (show (s.ended (canEnd s m day true k)).val = (s.ended day).val ∧ (canTurn s m day true k).val = Tn.val ⟨day, p.n, qa, 0⟩ from ⟨by unfold canEnd; simp, by unfold canTurn amt; rw [if_pos ⟨rfl, by omega⟩, hp, ← hpn, hqa]⟩)
  have HQA := Lib.hid hqa
  rw [← hpk] at hb
  have q5 : ¬ (p.k + 1 < s.b) := by omega
  have q6 : p.k < s.b := by omega
  unfold Yes
  rw [HRES.out.1, HRES.out.2]
  clear hp hpk hpn hd hk hqa hps hpb hb
  have q1 : (s.e != 0) = false := by simpa using h1
  have q2 : decide (day < s.c.s) = false := by simpa using h2
  have q3 : decide (day < s.s) = false := by simpa using h3
  have hmf := mk_fn
  clear h1
  go_enter Tryd.func19, Tryd.ntmps19
  unfold Sb.val Sb.cells
  go_wp2_with fail
  refine (KC.out _ (tab_later HT.out D0.out.b)).mono ?_
  rintro e w1 ⟨rfl, b1⟩
  have D1 := Lib.hid (D0.out.later b1)
  clear b1
  obtain ⟨x0, x1, x2, x3, x4, x5, x6, x7, x8, x9, xlt⟩ := Sx.of D1.out.s
  go_wp2_with fail
  refine (KD.out _).mono ?_
  rintro e w2 ⟨rfl, rfl⟩
  go_wp2_with fail
  refine (KF.out _ (tab_later HT.out D1.out.b)).mono ?_
  rintro e w4 ⟨rfl, b4⟩
  have D4 := Lib.hid (D1.out.later b4)
  clear b4
  clear x0 x1 x2 x3 x4 x5 x6 x7 x8 x9 xlt
  have hG : w.heap.size + 2 < w4.heap.size := D4.out.o.x.lt
  go_upto_region 6 with (fail)
  obtain ⟨W5, hW5⟩ : ∃ W5, w4.alloc (.cells (Pd.cells p) 70) = W5 := ⟨_, rfl⟩
  have b5 : Below w4.heap.size w4 W5 := by rw [← hW5]; exact (Below.refl _ w4).alloc (Nat.le_refl _) _
  have P5 := Lib.hid (show Blk W5 w4.heap.size (Pd.cells p) 70 by rw [← hW5]; exact Blk.new w4 _ _)
  rw [show w4.alloc (.cells #[.int .i64 (Pd.k p), .int .i64 (Pd.f p), .int .i64 (Pd.n p), .int .i64 (Pd.u p)] 70) = W5 from hW5]
  have D5 := Lib.hid (D4.out.later b5)
  generalize w4.heap.size = G at *
  clear b5 hW5 D4
  have p0 : W5.cell? ⟨G, 0, Option.none⟩ = some (.int .i64 (Pd.k p)) := P5.out.cell 0
  have p1 : W5.cell? ⟨G, 1, Option.none⟩ = some (.int .i64 (Pd.f p)) := P5.out.cell 1
  have p2 : W5.cell? ⟨G, 2, Option.none⟩ = some (.int .i64 (Pd.n p)) := P5.out.cell 2
  have p3 : W5.cell? ⟨G, 3, Option.none⟩ = some (.int .i64 (Pd.u p)) := P5.out.cell 3
  obtain ⟨x0, x1, x2, x3, x4, x5, x6, x7, x8, x9, xlt⟩ := Sx.of D5.out.s
  have e9 := D5.out.s.frozen 9
  go_upto_region 14 with (fail)
  obtain ⟨W6, hW6⟩ : ∃ W6, (W5.setCell ⟨w.heap.size, 9, Option.none⟩ (.int .i64 p.n)).setCell ⟨w.heap.size, 9, Option.none⟩ (.int .i64 day) = W6 := ⟨_, rfl⟩
  have J := Lib.hid (show Ez w (s.ended day) p G W6 by rw [← hW6]; exact ⟨(D5.out.s.set 9 _).set 9 _, (D5.out.o.r.other 9 _ (by omega)).other 9 _ (by omega), (P5.out.other 9 _ (by omega)).other 9 _ (by omega), (D5.out.b.setCell (p := ⟨w.heap.size, 9, Option.none⟩) (Nat.le_refl _) _).setCell (p := ⟨w.heap.size, 9, Option.none⟩) (Nat.le_refl _) _⟩)
  have T := Lib.hid (show Blk W6 (w.heap.size + 1 + 1) zero4 45 by rw [← hW6]; exact (D5.out.o.x.other 9 _ (by omega)).other 9 _ (by omega))
  rw [hW6]
  clear hW6 e9 p0 p1 p2 p3 D5 P5
  clear x0 x1 x2 x3 x4 x5 x6 x7 x8 x9 xlt
  have J := J.out.drew
  have T : Blk W6.drew (w.heap.size + 1 + 1) zero4 45 := T.out
  obtain ⟨v0, v1, v2, v3, u0, u1', u2', u3'⟩ := blk_four T
  go_region_held3 (fun u => u.cell? ⟨w.heap.size, 0, Option.none⟩ = some (.int .u64 s.id) ∧ u.cell? ⟨w.heap.size, 1, Option.none⟩ = some (.int .u64 s.cu) ∧ u.cell? ⟨w.heap.size, 2, Option.none⟩ = some (.int .u64 s.pl) ∧ u.cell? ⟨w.heap.size, 3, Option.none⟩ = some (.int .i64 s.c.s) ∧ u.cell? ⟨w.heap.size, 4, Option.none⟩ = some (.int .i64 s.c.a) ∧ u.cell? ⟨w.heap.size, 5, Option.none⟩ = some (.int .i64 s.c.e) ∧ u.cell? ⟨w.heap.size, 6, Option.none⟩ = some (.int .i64 s.p) ∧ u.cell? ⟨w.heap.size, 7, Option.none⟩ = some (.int .i64 s.b) ∧ u.cell? ⟨w.heap.size, 8, Option.none⟩ = some (.int .i64 s.s) ∧ u.cell? ⟨w.heap.size, 9, Option.none⟩ = some (.int .i64 day) ∧ u.cell? ⟨G, 0, Option.none⟩ = some (.int .i64 p.k) ∧ u.cell? ⟨G, 1, Option.none⟩ = some (.int .i64 p.f) ∧ u.cell? ⟨G, 2, Option.none⟩ = some (.int .i64 p.n) ∧ u.cell? ⟨G, 3, Option.none⟩ = some (.int .i64 p.u) ∧ Ez w (s.ended day) p G u)
    (first | exact Ez.pack (by assumption) | exact Ez.pack (Ez.store (by assumption) hG _ _ _ _))
    (first | (go_at_call 36; (try go_split_ands); refine (days_r p _ _ _).mono ?_; rintro e u2 ⟨B, hle, rfl, hc, hb2⟩; have J := Ez.later (by assumption) hb2; obtain ⟨v0, v1, v2, v3, u0, u1', u2', u3'⟩ := blk_four (Blk.later T hb2); have T := Blk.later T hb2; have C := hc; clear hc hb2 hle) | (go_at_call 58; (try go_split_ands); refine (KY.out _ _ _ (by assumption)).mono ?_; rintro e u3 ⟨rfl, hb3⟩; have J := Ez.later (by assumption) hb3; obtain ⟨v0, v1, v2, v3, u0, u1', u2', u3'⟩ := blk_four (Blk.later T hb3); have T := Blk.later T hb3; clear hb3))
  all_goals
    go_split_ands
    rw [HQA.out]
    obtain ⟨W9, hW9⟩ : ∃ W9, ((((u3.setCell ⟨w.heap.size + 1 + 1, 0, Option.none⟩ (.int .i64 day)).setCell ⟨w.heap.size + 1 + 1, 1, Option.none⟩ (.int .i64 p.n)).setCell ⟨w.heap.size + 1 + 1, 2, Option.none⟩ (.int .i64 qa)).setCell ⟨w.heap.size + 1 + 1, 3, Option.none⟩ (.int .i64 0)) = W9 := ⟨_, rfl⟩
    have J9 := Lib.hid (show Ez w (s.ended day) p G W9 by rw [← hW9]; exact Ez.store J hG _ _ _ _)
    have X9 := Lib.hid (show Blk W9 (w.heap.size + 1 + 1) #[.int .i64 day, .int .i64 p.n, .int .i64 qa, .int .i64 0] 45 by rw [← hW9]; exact Blk.four T _ _ _ _)
    have S9 := Lib.hid J9.out.s
    have R9 := Lib.hid J9.out.r
    have B9 := Lib.hid J9.out.b
    rw [hW9]
    have J := True.intro
    have T := True.intro
    clear hW9
    obtain ⟨x0, x1, x2, x3, x4, x5, x6, x7, x8, x9, xlt⟩ := Sx.of S9.out
    dsimp only [Sb.ended] at x0 x1 x2 x3 x4 x5 x6 x7 x8 x9
    obtain ⟨y0, y1, y2, y3, y4, y5, y6, y7, y8, y9, z0, z1, z2, z3, z4, z5, z6, z7, z8, z9⟩ := blk_writes R9.out
    have v0 : W9.cell? ⟨w.heap.size + 1 + 1, 0, Option.none⟩ = some (.int .i64 day) := X9.out.cell 0
    have v1 : W9.cell? ⟨w.heap.size + 1 + 1, 1, Option.none⟩ = some (.int .i64 p.n) := X9.out.cell 1
    have v2 : W9.cell? ⟨w.heap.size + 1 + 1, 2, Option.none⟩ = some (.int .i64 qa) := X9.out.cell 2
    have v3 : W9.cell? ⟨w.heap.size + 1 + 1, 3, Option.none⟩ = some (.int .i64 0) := X9.out.cell 3
    have g0 := X9.out.frozen 0
    have g1 := X9.out.frozen 1
    have g2 := X9.out.frozen 2
    have g3 := X9.out.frozen 3
    go_wp2_with fail
    go_region
    generalize hW10 : World.drew _ = W10
    have HF := fin R9.out X9.out (.int .u64 s.id) (.int .u64 s.cu) (.int .u64 s.pl) (.int .i64 s.c.s) (.int .i64 s.c.a) (.int .i64 s.c.e) (.int .i64 s.p) (.int .i64 s.b) (.int .i64 s.s) (.int .i64 day) (.int .i64 day) (.int .i64 p.n) (.int .i64 qa) (.int .i64 0)
    have F1 := Lib.hid (show Blk W10 (w.heap.size + 1) (s.ended day).cells 26 by rw [← hW10]; exact HF.1.drew)
    have F2 := Lib.hid (show Blk W10 (w.heap.size + 1 + 1) #[.int .i64 day, .int .i64 p.n, .int .i64 qa, .int .i64 0] 45 by rw [← hW10]; exact HF.2.drew)
    have F3 := Lib.hid (show Below w.heap.size w W10 by rw [← hW10]; exact (fin_below (B := w.heap.size + 1) B9.out (by omega) (.int .u64 s.id) (.int .u64 s.cu) (.int .u64 s.pl) (.int .i64 s.c.s) (.int .i64 s.c.a) (.int .i64 s.c.e) (.int .i64 s.p) (.int .i64 s.b) (.int .i64 s.s) (.int .i64 day) (.int .i64 day) (.int .i64 p.n) (.int .i64 qa) (.int .i64 0)).drew)
    clear HF hW10 S9 R9 X9 B9 x0 x1 x2 x3 x4 x5 x6 x7 x8 x9 xlt y0 y1 y2 y3 y4 y5 y6 y7 y8 y9 z0 z1 z2 z3 z4 z5 z6 z7 z8 z9 v0 v1 v2 v3 g0 g1 g2 g3
    go_wp2_with fail
    exact bodyPost_ret (res_can rfl rfl rfl F1.out F2.out) rfl ⟨rfl, F3.out⟩
end Go.Proofs.YtjchecjonkmhgaaDoor.Su
