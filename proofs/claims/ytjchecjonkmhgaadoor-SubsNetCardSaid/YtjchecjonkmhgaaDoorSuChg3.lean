/- Package subs: Change, what is done. -/
import Derived.Test.YtjchecjonkmhgaaDoorSuChg0
import Derived.Deep.RegionHeld3
import Derived.Deep.DeepCutAuto
namespace Go.Proofs.YtjchecjonkmhgaaDoor.Su
open Go.RowKit Pr Cw An Rf
/-- What computes the part of a price, made. -/
def DaysRes (p : Pd) (a b : Int) (w : World) (e : Ending) (w' : World) : Prop :=
  ∃ B, w.heap.size ≤ B ∧ e = .returned (.func (.func 58) #[] #[.pointer (some ⟨B, 0, Option.none⟩), .pointer (some ⟨B + 1, 0, Option.none⟩), .pointer (some ⟨B + 1 + 1, 0, Option.none⟩)]) ∧ Cx B p a b w' ∧ Below w.heap.size w w'
theorem days_r (p : Pd) (a b : Int) (w : World) : Calls Tryd.prog 36 #[.func (.func 27) #[.agg #[.int .i64 p.k, .int .i64 p.f, .int .i64 p.n, .int .i64 p.u]] #[], .int .i64 a, .int .i64 b] w (DaysRes p a b w) :=
  (days_c _ a b w rfl).mono fun e w' ⟨h1, h2⟩ => ⟨w.heap.size, Nat.le_refl _, h1, h2 ▸ cx_new p a b w, h2 ▸ (((Below.refl _ w).alloc (Nat.le_refl _) _).alloc (by simp) _).alloc (by simp; omega) _⟩
/-- What the change's walk keeps. -/
structure Hz (w : World) (s : Sb) (tp tq : Int) (p : Pd) (G : Nat) (u : World) : Prop where
  s : Blk u w.heap.size s.cells 26
  t : Blk u (w.heap.size + 1) #[.int .u64 tp, .int .i64 tq] 43
  r : Blk u (w.heap.size + 1 + 1) Sb.none.cells 26
  p : Blk u G p.cells 70
  b : Below w.heap.size w u
section
variable {w : World} {s : Sb} {tp tq : Int} {p : Pd} {G : Nat} {u v : World}
theorem Hz.later (h : Hz w s tp tq p G u) (k : Below u.heap.size u v) : Hz w s tp tq p G v := ⟨h.s.later k, h.t.later k, h.r.later k, h.p.later k, h.b.trans (k.mono h.b.size)⟩
theorem Hz.drew (h : Hz w s tp tq p G u) : Hz w s tp tq p G u.drew := ⟨h.s, h.t, h.r, h.p, h.b.drew⟩
theorem Cx.drew {B : Nat} {a b : Int} (h : Cx B p a b u) : Cx B p a b u.drew := ⟨h.f, h.a, h.b⟩
theorem Hz.pack (h : Hz w s tp tq p G u) : u.cell? ⟨w.heap.size, 0, Option.none⟩ = some (.int .u64 s.id) ∧ u.cell? ⟨w.heap.size, 1, Option.none⟩ = some (.int .u64 s.cu) ∧ u.cell? ⟨w.heap.size, 2, Option.none⟩ = some (.int .u64 s.pl) ∧ u.cell? ⟨w.heap.size, 3, Option.none⟩ = some (.int .i64 s.c.s) ∧ u.cell? ⟨w.heap.size, 4, Option.none⟩ = some (.int .i64 s.c.a) ∧ u.cell? ⟨w.heap.size, 5, Option.none⟩ = some (.int .i64 s.c.e) ∧ u.cell? ⟨w.heap.size, 6, Option.none⟩ = some (.int .i64 s.p) ∧ u.cell? ⟨w.heap.size, 7, Option.none⟩ = some (.int .i64 s.b) ∧ u.cell? ⟨w.heap.size, 8, Option.none⟩ = some (.int .i64 s.s) ∧ u.cell? ⟨w.heap.size, 9, Option.none⟩ = some (.int .i64 s.e) ∧ u.cell? ⟨G, 0, Option.none⟩ = some (.int .i64 p.k) ∧ u.cell? ⟨G, 1, Option.none⟩ = some (.int .i64 p.f) ∧ u.cell? ⟨G, 2, Option.none⟩ = some (.int .i64 p.n) ∧ u.cell? ⟨G, 3, Option.none⟩ = some (.int .i64 p.u) ∧ Hz w s tp tq p G u := ⟨h.s.cell 0, h.s.cell 1, h.s.cell 2, h.s.cell 3, h.s.cell 4, h.s.cell 5, h.s.cell 6, h.s.cell 7, h.s.cell 8, h.s.cell 9, h.p.cell 0, h.p.cell 1, h.p.cell 2, h.p.cell 3, h⟩
theorem Hz.pack7 (h : Hz w s tp tq p G u) {B : Nat} {a b : Int} (c : Cx B p a b u) : u.cell? ⟨w.heap.size, 0, Option.none⟩ = some (.int .u64 s.id) ∧ u.cell? ⟨w.heap.size, 1, Option.none⟩ = some (.int .u64 s.cu) ∧ u.cell? ⟨w.heap.size, 2, Option.none⟩ = some (.int .u64 s.pl) ∧ u.cell? ⟨w.heap.size, 3, Option.none⟩ = some (.int .i64 s.c.s) ∧ u.cell? ⟨w.heap.size, 4, Option.none⟩ = some (.int .i64 s.c.a) ∧ u.cell? ⟨w.heap.size, 5, Option.none⟩ = some (.int .i64 s.c.e) ∧ u.cell? ⟨w.heap.size, 6, Option.none⟩ = some (.int .i64 s.p) ∧ u.cell? ⟨w.heap.size, 7, Option.none⟩ = some (.int .i64 s.b) ∧ u.cell? ⟨w.heap.size, 8, Option.none⟩ = some (.int .i64 s.s) ∧ u.cell? ⟨w.heap.size, 9, Option.none⟩ = some (.int .i64 s.e) ∧ u.cell? ⟨G, 0, Option.none⟩ = some (.int .i64 p.k) ∧ u.cell? ⟨G, 1, Option.none⟩ = some (.int .i64 p.f) ∧ u.cell? ⟨G, 2, Option.none⟩ = some (.int .i64 p.n) ∧ u.cell? ⟨G, 3, Option.none⟩ = some (.int .i64 p.u) ∧ u.cell? ⟨w.heap.size + 1, 0, Option.none⟩ = some (.int .u64 tp) ∧ u.cell? ⟨w.heap.size + 1, 1, Option.none⟩ = some (.int .i64 tq) ∧ Hz w s tp tq p G u ∧ Cx B p a b u := ⟨h.s.cell 0, h.s.cell 1, h.s.cell 2, h.s.cell 3, h.s.cell 4, h.s.cell 5, h.s.cell 6, h.s.cell 7, h.s.cell 8, h.s.cell 9, h.p.cell 0, h.p.cell 1, h.p.cell 2, h.p.cell 3, h.t.cell 0, h.t.cell 1, h, c⟩
theorem Blk.far {W : World} {B b : Nat} {xs : Array Value} {t : TypeId} (h : Blk W B xs t) (hne : B ≠ b) (y0 y1 y2 y3 : Value) : Blk ((((W.setCell ⟨b, 0, Option.none⟩ y0).setCell ⟨b, 1, Option.none⟩ y1).setCell ⟨b, 2, Option.none⟩ y2).setCell ⟨b, 3, Option.none⟩ y3) B xs t :=
  (((h.other 0 y0 hne).other 1 y1 hne).other 2 y2 hne).other 3 y3 hne
theorem Hz.store (h : Hz w s tp tq p G u) (hG : w.heap.size + 3 < G) (y0 y1 y2 y3 : Value) : Hz w s tp tq p G ((((u.setCell ⟨w.heap.size + 1 + 1 + 1, 0, Option.none⟩ y0).setCell ⟨w.heap.size + 1 + 1 + 1, 1, Option.none⟩ y1).setCell ⟨w.heap.size + 1 + 1 + 1, 2, Option.none⟩ y2).setCell ⟨w.heap.size + 1 + 1 + 1, 3, Option.none⟩ y3) :=
  ⟨h.s.far (by omega) _ _ _ _, h.t.far (by omega) _ _ _ _, h.r.far (by omega) _ _ _ _, h.p.far (by omega) _ _ _ _, below_four h.b (by omega) _ _ _ _⟩
theorem Cx.store {B : Nat} {a b : Int} (h : Cx B p a b u) (hB : w.heap.size + 3 < B) (y0 y1 y2 y3 : Value) : Cx B p a b ((((u.setCell ⟨w.heap.size + 1 + 1 + 1, 0, Option.none⟩ y0).setCell ⟨w.heap.size + 1 + 1 + 1, 1, Option.none⟩ y1).setCell ⟨w.heap.size + 1 + 1 + 1, 2, Option.none⟩ y2).setCell ⟨w.heap.size + 1 + 1 + 1, 3, Option.none⟩ y3) :=
  ⟨h.f.far (by omega) _ _ _ _, h.a.far (by omega) _ _ _ _, h.b.far (by omega) _ _ _ _⟩
end
set_option maxRecDepth 100000 in
set_option maxHeartbeats 4000000 in
theorem chg_ok (s : Sb) (m day tp tq : Int) (w : World) (hw : Tab w) (hin : In m s.c.s) (h : s.Ok m) (hd : 1 ≤ day ∧ day ≤ 3652059) (ht : 1 ≤ tp) (hq0 : 0 ≤ tq) (hq1 : tq < 4611686018427387904) (k : Nat) (hk : Per s.c m day k) (hcase : (k : Int) = s.b - 1 ∧ ¬ en s.e (bnd s.c m (k + 1)) ≤ day ∧ ¬ day < s.s) : Calls Tryd.prog 17 #[s.val, .int .i64 day, .agg #[.int .u64 tp, .int .i64 tq]] w (fun e w' => Chg s m day k ∧ e = .returned (.tuple #[(s.turned tp tq day).val, (turnOf s m day tq k).val, .int .i64 0]) ∧ Below w.heap.size w w') := by
  have KC := Lib.hid (fun u hu => check_yes s m u hu hin h)
  have KD := Lib.hid (fun u => day_yes day u hd)
  have KQ := Lib.hid (fun u => price_yes tq u hq0 hq1)
  have HT := Lib.hid hw
  have D0 := Lib.hid (gx_chg w s tp tq).1
  have T0 := Lib.hid (gx_chg w s tp tq).2
  have b0 := h.num.b0
  have b1' := h.num.b1
  obtain ⟨p, hp⟩ : ∃ p, per s.c m k = p := ⟨_, rfl⟩
  have hpk : p.k = (k : Int) := by rw [← hp]; rfl
  have hpn : p.n = bnd s.c m (k + 1) := by rw [← hp]; rfl
  have KF := Lib.hid (fun u hu => con_yes s m day k u hu h.c hin hd hk)
  rw [hp] at KF
  try rw [← hpn] at hcase
  rw [← hpk] at hcase
  have HPQ := Lib.hid hp
  have HPK := Lib.hid hk
  have HPN := Lib.hid hpn
  have HPKK := Lib.hid hpk
  clear hp hk hpk hpn
  have q1 : (p.k != s.b - 1) = false := by simpa using hcase.1
  have q2 : decide (en s.e p.n ≤ day) = false := by simpa using hcase.2.1
  have q3 : decide (day < s.s) = false := by simpa using hcase.2.2
  have hps : p.Small := HPQ.out ▸ per_small h.c hin HPK.out.1
  have hpb := per_bd h.c hin HPK.out.1
  rw [HPN.out.symm] at hpb
  have hse : s.e = 0 ∨ 1 ≤ s.e := by rcases h.we with hw0 | hw0 <;> omega
  have hen := en_bd (e := s.e) (n := p.n) hse (by omega)
  have HRES := Lib.hid (show turnOf s m day tq k = ⟨day, en s.e p.n, onv s.p (p.pl day) (p.pl (en s.e p.n)) p.u, onv tq (p.pl day) (p.pl (en s.e p.n)) p.u⟩ by
    unfold turnOf amt
    rw [HPQ.out, ← HPN.out])
  have HCH := Lib.hid (show Chg s m day k from ⟨HPK.out, by have := HPKK.out; have := hcase.1; omega, by rw [← HPN.out]; omega, by omega⟩)
  have KE := Lib.hid (fun u => end_c p s u)
  have KY := Lib.hid (fun (price : Int) (B : Nat) (u : World) (hc : Cx B p day (en s.e p.n) u) => days1_c p price day (en s.e p.n) B u hps hd.1 hd.2 hen.1 (by omega) hc)
  obtain ⟨ev, hev⟩ : ∃ ev, en s.e p.n = ev := ⟨_, rfl⟩
  rw [hev] at KE KY HRES q2 hen
  clear hcase hev hps hpb hse hd
  go_enter Tryd.func17, Tryd.ntmps17
  unfold Sb.val Sb.cells
  go_wp2_with fail
  refine (KC.out _ (tab_later HT.out D0.out.b)).mono ?_
  rintro e w1 ⟨rfl, b1⟩
  have D1 := Lib.hid (D0.out.later b1)
  have T1 := Lib.hid (T0.out.later b1)
  clear b1
  have t0 : w1.cell? ⟨w.heap.size + 1, 0, Option.none⟩ = some (.int .u64 tp) := T1.out.cell 0
  have t1 : w1.cell? ⟨w.heap.size + 1, 1, Option.none⟩ = some (.int .i64 tq) := T1.out.cell 1
  obtain ⟨x0, x1, x2, x3, x4, x5, x6, x7, x8, x9, xlt⟩ := Sx.of D1.out.s
  go_wp2_with fail
  refine (KD.out _).mono ?_
  rintro e w2 ⟨rfl, rfl⟩
  go_wp2_with fail
  refine (KQ.out _).mono ?_
  rintro e w3 ⟨rfl, rfl⟩
  go_wp2_with fail
  refine (KF.out _ (tab_later HT.out D1.out.b)).mono ?_
  rintro e w4 ⟨rfl, b4⟩
  have D4 := Lib.hid (D1.out.later b4)
  have T4 := Lib.hid (T1.out.later b4)
  clear b4 t0 t1
  clear x0 x1 x2 x3 x4 x5 x6 x7 x8 x9 xlt
  have hG : w.heap.size + 3 < w4.heap.size := D4.out.o.x.lt
  go_upto_region 4 with (fail)
  obtain ⟨W5, hW5⟩ : ∃ W5, w4.alloc (.cells (Pd.cells p) 70) = W5 := ⟨_, rfl⟩
  have b5 : Below w4.heap.size w4 W5 := by rw [← hW5]; exact (Below.refl _ w4).alloc (Nat.le_refl _) _
  have P5 := Lib.hid (show Blk W5 w4.heap.size (Pd.cells p) 70 by rw [← hW5]; exact Blk.new w4 _ _)
  rw [show w4.alloc (.cells #[.int .i64 (Pd.k p), .int .i64 (Pd.f p), .int .i64 (Pd.n p), .int .i64 (Pd.u p)] 70) = W5 from hW5]
  have D5 := Lib.hid (D4.out.later b5)
  have T5 := Lib.hid (T4.out.later b5)
  generalize w4.heap.size = G at *
  clear b5 hW5 D4 T4
  have p0 : W5.cell? ⟨G, 0, Option.none⟩ = some (.int .i64 (Pd.k p)) := P5.out.cell 0
  have p1 : W5.cell? ⟨G, 1, Option.none⟩ = some (.int .i64 (Pd.f p)) := P5.out.cell 1
  have p2 : W5.cell? ⟨G, 2, Option.none⟩ = some (.int .i64 (Pd.n p)) := P5.out.cell 2
  have p3 : W5.cell? ⟨G, 3, Option.none⟩ = some (.int .i64 (Pd.u p)) := P5.out.cell 3
  obtain ⟨x0, x1, x2, x3, x4, x5, x6, x7, x8, x9, xlt⟩ := Sx.of D5.out.s
  have KE6 := Lib.hid KE.out
  go_wp2_with fail
  refine (KE.out _).mono ?_
  rintro e w6 ⟨rfl, b6⟩
  have D6 := Lib.hid (D5.out.later b6)
  have T6 := Lib.hid (T5.out.later b6)
  have P6 := Lib.hid (P5.out.later b6)
  clear b6 p0 p1 p2 p3 D5 T5 P5
  clear x0 x1 x2 x3 x4 x5 x6 x7 x8 x9 xlt
  obtain ⟨x0, x1, x2, x3, x4, x5, x6, x7, x8, x9, xlt⟩ := Sx.of D6.out.s
  go_wp2_with fail
  clear x0 x1 x2 x3 x4 x5 x6 x7 x8 x9 xlt
  have J := (Hz.mk D6.out.s T6.out D6.out.o.r P6.out D6.out.b).drew
  have T : Blk w6.drew (w.heap.size + 1 + 1 + 1) zero4 45 := D6.out.o.x
  have hmf := mk_fn
  clear D6 T6 P6
  go_region_held3 (fun u => u.cell? ⟨w.heap.size, 0, Option.none⟩ = some (.int .u64 s.id) ∧ u.cell? ⟨w.heap.size, 1, Option.none⟩ = some (.int .u64 s.cu) ∧ u.cell? ⟨w.heap.size, 2, Option.none⟩ = some (.int .u64 s.pl) ∧ u.cell? ⟨w.heap.size, 3, Option.none⟩ = some (.int .i64 s.c.s) ∧ u.cell? ⟨w.heap.size, 4, Option.none⟩ = some (.int .i64 s.c.a) ∧ u.cell? ⟨w.heap.size, 5, Option.none⟩ = some (.int .i64 s.c.e) ∧ u.cell? ⟨w.heap.size, 6, Option.none⟩ = some (.int .i64 s.p) ∧ u.cell? ⟨w.heap.size, 7, Option.none⟩ = some (.int .i64 s.b) ∧ u.cell? ⟨w.heap.size, 8, Option.none⟩ = some (.int .i64 s.s) ∧ u.cell? ⟨w.heap.size, 9, Option.none⟩ = some (.int .i64 s.e) ∧ u.cell? ⟨G, 0, Option.none⟩ = some (.int .i64 p.k) ∧ u.cell? ⟨G, 1, Option.none⟩ = some (.int .i64 p.f) ∧ u.cell? ⟨G, 2, Option.none⟩ = some (.int .i64 p.n) ∧ u.cell? ⟨G, 3, Option.none⟩ = some (.int .i64 p.u) ∧ Hz w s tp tq p G u)
    (exact Hz.pack (by assumption))
    (first | (go_at_call 26; (try go_split_ands); refine (KE.out _).mono ?_; rintro e u1 ⟨rfl, hb1⟩; have J := Hz.later (by assumption) hb1;  have T := Blk.later T hb1; clear hb1) | (go_at_call 36; (try go_split_ands); refine (days_r p _ _ _).mono ?_; rintro e u2 ⟨B, hle, rfl, hc, hb2⟩; have hB : w.heap.size + 3 < B := Nat.lt_of_lt_of_le (Blk.lt T) hle; have J := Hz.later (by assumption) hb2; have T := Blk.later T hb2; have C := hc; clear hc hb2 hle))
  all_goals
    go_split_ands
    have J := Hz.drew J
    have C := Cx.drew C
    have T := Blk.drew T
    obtain ⟨v0, v1, v2, v3, u0, u1', u2', u3'⟩ := blk_four T
    go_wp2_with fail
    go_region_held3 (fun u => u.cell? ⟨w.heap.size, 0, Option.none⟩ = some (.int .u64 s.id) ∧ u.cell? ⟨w.heap.size, 1, Option.none⟩ = some (.int .u64 s.cu) ∧ u.cell? ⟨w.heap.size, 2, Option.none⟩ = some (.int .u64 s.pl) ∧ u.cell? ⟨w.heap.size, 3, Option.none⟩ = some (.int .i64 s.c.s) ∧ u.cell? ⟨w.heap.size, 4, Option.none⟩ = some (.int .i64 s.c.a) ∧ u.cell? ⟨w.heap.size, 5, Option.none⟩ = some (.int .i64 s.c.e) ∧ u.cell? ⟨w.heap.size, 6, Option.none⟩ = some (.int .i64 s.p) ∧ u.cell? ⟨w.heap.size, 7, Option.none⟩ = some (.int .i64 s.b) ∧ u.cell? ⟨w.heap.size, 8, Option.none⟩ = some (.int .i64 s.s) ∧ u.cell? ⟨w.heap.size, 9, Option.none⟩ = some (.int .i64 s.e) ∧ u.cell? ⟨G, 0, Option.none⟩ = some (.int .i64 p.k) ∧ u.cell? ⟨G, 1, Option.none⟩ = some (.int .i64 p.f) ∧ u.cell? ⟨G, 2, Option.none⟩ = some (.int .i64 p.n) ∧ u.cell? ⟨G, 3, Option.none⟩ = some (.int .i64 p.u) ∧ u.cell? ⟨w.heap.size + 1, 0, Option.none⟩ = some (.int .u64 tp) ∧ u.cell? ⟨w.heap.size + 1, 1, Option.none⟩ = some (.int .i64 tq) ∧ Hz w s tp tq p G u ∧ Cx B p day ev u)
      (first | exact Hz.pack7 (by assumption) (by assumption) | exact Hz.pack7 (Hz.store (by assumption) hG _ _ _ _) (Cx.store (by assumption) hB _ _ _ _))
      (first | (go_at_call 26; (try go_split_ands); refine (KE.out _).mono ?_; rintro e u1 ⟨rfl, hb1⟩; have J := Hz.later (by assumption) hb1; have C := Cx.later (by assumption) hb1; obtain ⟨v0, v1, v2, v3, u0, u1', u2', u3'⟩ := blk_four (Blk.later T hb1); have T := Blk.later T hb1; clear hb1) | (go_at_call 58; (try go_split_ands); refine (KY.out _ _ _ (by assumption)).mono ?_; rintro e u3 ⟨rfl, hb3⟩; have J := Hz.later (by assumption) hb3; have C := Cx.later (by assumption) hb3; obtain ⟨v0, v1, v2, v3, u0, u1', u2', u3'⟩ := blk_four (Blk.later T hb3); have T := Blk.later T hb3; clear hb3))
    all_goals
      go_split_ands
      obtain ⟨qa, hqa⟩ : ∃ qa, onv s.p (p.pl day) (p.pl ev) p.u = qa := ⟨_, rfl⟩
      obtain ⟨qb, hqb⟩ : ∃ qb, onv tq (p.pl day) (p.pl ev) p.u = qb := ⟨_, rfl⟩
      rw [hqa, hqb] at HRES
      rw [hqa, hqb]
      obtain ⟨W8, hW8⟩ : ∃ W8, ((((u3.setCell ⟨w.heap.size + 1 + 1 + 1, 0, Option.none⟩ (.int .i64 day)).setCell ⟨w.heap.size + 1 + 1 + 1, 1, Option.none⟩ (.int .i64 ev)).setCell ⟨w.heap.size + 1 + 1 + 1, 2, Option.none⟩ (.int .i64 qa)).setCell ⟨w.heap.size + 1 + 1 + 1, 3, Option.none⟩ (.int .i64 qb)) = W8 := ⟨_, rfl⟩
      have J8 := Lib.hid (show Hz w s tp tq p G W8 by rw [← hW8]; exact Hz.store J hG _ _ _ _)
      have X8 := Lib.hid (show Blk W8 (w.heap.size + 1 + 1 + 1) #[.int .i64 day, .int .i64 ev, .int .i64 qa, .int .i64 qb] 45 by rw [← hW8]; exact Blk.four T _ _ _ _)
      rw [hW8]
      have J := True.intro
      have T := True.intro
      obtain ⟨x0, x1, x2, x3, x4, x5, x6, x7, x8, x9, xlt⟩ := Sx.of J8.out.s
      have t0 : W8.cell? ⟨w.heap.size + 1, 0, Option.none⟩ = some (.int .u64 tp) := J8.out.t.cell 0
      have t1 : W8.cell? ⟨w.heap.size + 1, 1, Option.none⟩ = some (.int .i64 tq) := J8.out.t.cell 1
      have f2 := J8.out.s.frozen 2
      have f6 := J8.out.s.frozen 6
      have f8 := J8.out.s.frozen 8
      clear hW8
      go_wp2_with fail
      go_region
      generalize hW9 : World.drew _ = W9
      have S9 := Lib.hid (show Blk W9 w.heap.size (s.turned tp tq day).cells 26 by rw [← hW9]; exact (((J8.out.s.set 2 (.int .u64 tp)).set 6 (.int .i64 tq)).set 8 (.int .i64 day)).drew)
      have R9 := Lib.hid (show Blk W9 (w.heap.size + 1 + 1) Sb.none.cells 26 by rw [← hW9]; exact (((J8.out.r.other 2 (.int .u64 tp) (by omega)).other 6 (.int .i64 tq) (by omega)).other 8 (.int .i64 day) (by omega)).drew)
      have X9 := Lib.hid (show Blk W9 (w.heap.size + 1 + 1 + 1) #[.int .i64 day, .int .i64 ev, .int .i64 qa, .int .i64 qb] 45 by rw [← hW9]; exact (((X8.out.other 2 (.int .u64 tp) (by omega)).other 6 (.int .i64 tq) (by omega)).other 8 (.int .i64 day) (by omega)).drew)
      have B9 := Lib.hid (show Below w.heap.size w W9 by rw [← hW9]; exact (((J8.out.b.setCell (p := ⟨w.heap.size, 2, Option.none⟩) (Nat.le_refl _) (.int .u64 tp)).setCell (p := ⟨w.heap.size, 6, Option.none⟩) (Nat.le_refl _) (.int .i64 tq)).setCell (p := ⟨w.heap.size, 8, Option.none⟩) (Nat.le_refl _) (.int .i64 day)).drew)
      clear hW9 t0 t1 f2 f6 f8 x0 x1 x2 x3 x4 x5 x6 x7 x8 x9 xlt
      obtain ⟨x0, x1, x2, x3, x4, x5, x6, x7, x8, x9, xlt⟩ := Sx.of S9.out
      dsimp only [Sb.turned] at x0 x1 x2 x3 x4 x5 x6 x7 x8 x9
      obtain ⟨y0, y1, y2, y3, y4, y5, y6, y7, y8, y9, z0, z1, z2, z3, z4, z5, z6, z7, z8, z9⟩ := blk_writes R9.out
      have v0 : W9.cell? ⟨w.heap.size + 1 + 1 + 1, 0, Option.none⟩ = some (.int .i64 day) := X9.out.cell 0
      have v1 : W9.cell? ⟨w.heap.size + 1 + 1 + 1, 1, Option.none⟩ = some (.int .i64 ev) := X9.out.cell 1
      have v2 : W9.cell? ⟨w.heap.size + 1 + 1 + 1, 2, Option.none⟩ = some (.int .i64 qa) := X9.out.cell 2
      have v3 : W9.cell? ⟨w.heap.size + 1 + 1 + 1, 3, Option.none⟩ = some (.int .i64 qb) := X9.out.cell 3
      have g0 := X9.out.frozen 0
      have g1 := X9.out.frozen 1
      have g2 := X9.out.frozen 2
      have g3 := X9.out.frozen 3
      go_wp2_with fail
      go_region
      generalize hW10 : World.drew _ = W10
      have HF := fin R9.out X9.out (.int .u64 s.id) (.int .u64 s.cu) (.int .u64 tp) (.int .i64 s.c.s) (.int .i64 s.c.a) (.int .i64 s.c.e) (.int .i64 tq) (.int .i64 s.b) (.int .i64 day) (.int .i64 s.e) (.int .i64 day) (.int .i64 ev) (.int .i64 qa) (.int .i64 qb)
      have F1 := Lib.hid (show Blk W10 (w.heap.size + 1 + 1) (s.turned tp tq day).cells 26 by rw [← hW10]; exact HF.1.drew)
      have F2 := Lib.hid (show Blk W10 (w.heap.size + 1 + 1 + 1) #[.int .i64 day, .int .i64 ev, .int .i64 qa, .int .i64 qb] 45 by rw [← hW10]; exact HF.2.drew)
      have F3 := Lib.hid (show Below w.heap.size w W10 by rw [← hW10]; exact (fin_below (B := w.heap.size + 1 + 1) B9.out (by omega) (.int .u64 s.id) (.int .u64 s.cu) (.int .u64 tp) (.int .i64 s.c.s) (.int .i64 s.c.a) (.int .i64 s.c.e) (.int .i64 tq) (.int .i64 s.b) (.int .i64 day) (.int .i64 s.e) (.int .i64 day) (.int .i64 ev) (.int .i64 qa) (.int .i64 qb)).drew)
      clear HF hW10 S9 R9 X9 B9 x0 x1 x2 x3 x4 x5 x6 x7 x8 x9 xlt y0 y1 y2 y3 y4 y5 y6 y7 y8 y9 z0 z1 z2 z3 z4 z5 z6 z7 z8 z9 v0 v1 v2 v3 g0 g1 g2 g3
      go_wp2_with fail
      exact bodyPost_ret (res_chg rfl rfl rfl F1.out F2.out) rfl ⟨HCH.out, by rw [HRES.out], F3.out⟩
end Go.Proofs.YtjchecjonkmhgaaDoor.Su
