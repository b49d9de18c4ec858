/- The document's Change, behind its arguments. -/
import Derived.Test.YtjchecjonkmhgaaDoorSuRChg0
import Derived.Test.YtjchecjonkmhgaaDoorSuChg3
import Derived.Deep.DeepCutAuto
namespace Go.Proofs.YtjchecjonkmhgaaDoor.Su
open Go.RowKit Pr Cw An Rf
set_option maxRecDepth 100000 in
set_option maxHeartbeats 4000000 in
theorem rchg_first (s : Sb) (m day tp tq : Int) (w : World) (hin : In m s.c.s) (h : s.Ok m) (hd : 1 ≤ day ∧ day ≤ 3652059) (ht : 1 ≤ tp) (hq0 : 0 ≤ tq) (hq1 : tq < 4611686018427387904) (hb : s.b = 0) : Calls Tryd.prog 18 #[s.val, .int .i64 day, .agg #[.int .u64 tp, .int .i64 tq]] w (NoRes 9 w) := by
  have KC := Lib.hid (fun u => rcheck_yes s m u hin h)
  have KD := Lib.hid (fun u => rday_s day u true (dayB_yes hd.1 hd.2))
  have D0 := Lib.hid (gx_chg w s tp tq).1
  have T0 := Lib.hid (gx_chg w s tp tq).2
  have b0 := h.num.b0
  have b1' := h.num.b1
  have ht0 : (tp == 0) = false := by simp; omega
  have KF := Lib.hid (fun u => last_none s day u hb)
  clear hd hb
  go_enter Tryd.func18, Tryd.ntmps18
  unfold Sb.val Sb.cells
  go_wp2_with fail
  refine (KC.out _).mono ?_
  rintro e w1 ⟨rfl, b1⟩
  have D1 := Lib.hid (D0.out.later b1)
  have T1 := Lib.hid (T0.out.later b1)
  clear b1
  have t0 : w1.cell? ⟨w.heap.size + 1, 0, Option.none⟩ = some (.int .u64 tp) := T1.out.cell 0
  have t1 : w1.cell? ⟨w.heap.size + 1, 1, Option.none⟩ = some (.int .i64 tq) := T1.out.cell 1
  obtain ⟨x0, x1, x2, x3, x4, x5, x6, x7, x8, x9, xlt⟩ := Sx.of D1.out.s
  go_wp2_with fail
  refine (KD.out _).mono ?_
  rintro e w2 ⟨rfl, rfl⟩
  go_wp2_with fail
  refine (KF.out _).mono ?_
  rintro e w4 ⟨rfl, b4⟩
  have D4 := Lib.hid (D1.out.later b4)
  have T4 := Lib.hid (T1.out.later b4)
  clear b4 t0 t1
  clear x0 x1 x2 x3 x4 x5 x6 x7 x8 x9 xlt
  obtain ⟨y0, y1, y2, y3, y4, y5, y6, y7, y8, y9, z0, z1, z2, z3, z4, z5, z6, z7, z8, z9⟩ := blk_writes D4.out.o.r
  obtain ⟨v0, v1, v2, v3, u0, u1, u2, u3⟩ := blk_four D4.out.o.x
  go_wp2_with fail
  have HF := fin D4.out.o.r D4.out.o.x (.int .u64 0) (.int .u64 0) (.int .u64 0) (.int .i64 0) (.int .i64 0) (.int .i64 0) (.int .i64 0) (.int .i64 0) (.int .i64 0) (.int .i64 0) (.int .i64 0) (.int .i64 0) (.int .i64 0) (.int .i64 0)
  exact bodyPost_ret (res_rchg rfl rfl rfl HF.1 HF.2) rfl ⟨rfl, fin_below D4.out.b (by omega) _ _ _ _ _ _ _ _ _ _ _ _ _ _⟩
set_option maxRecDepth 100000 in
set_option maxHeartbeats 4000000 in
theorem rchg_no (s : Sb) (m day tp tq : Int) (w : World) (hin : In m s.c.s) (h : s.Ok m) (hd : 1 ≤ day ∧ day ≤ 3652059) (ht : 1 ≤ tp) (hq0 : 0 ≤ tq) (hq1 : tq < 4611686018427387904) (hb : 1 ≤ s.b) (hl : lastB s m day = false) : Calls Tryd.prog 18 #[s.val, .int .i64 day, .agg #[.int .u64 tp, .int .i64 tq]] w (NoRes 9 w) := by
  have KC := Lib.hid (fun u => rcheck_yes s m u hin h)
  have KD := Lib.hid (fun u => rday_s day u true (dayB_yes hd.1 hd.2))
  have D0 := Lib.hid (gx_chg w s tp tq).1
  have T0 := Lib.hid (gx_chg w s tp tq).2
  have b0 := h.num.b0
  have b1' := h.num.b1
  have ht0 : (tp == 0) = false := by simp; omega
  have KF := Lib.hid (fun u => last_some s m day u h hin hb)
  rw [hl] at KF
  clear hd hb hl
  go_enter Tryd.func18, Tryd.ntmps18
  unfold Sb.val Sb.cells
  go_wp2_with fail
  refine (KC.out _).mono ?_
  rintro e w1 ⟨rfl, b1⟩
  have D1 := Lib.hid (D0.out.later b1)
  have T1 := Lib.hid (T0.out.later b1)
  clear b1
  have t0 : w1.cell? ⟨w.heap.size + 1, 0, Option.none⟩ = some (.int .u64 tp) := T1.out.cell 0
  have t1 : w1.cell? ⟨w.heap.size + 1, 1, Option.none⟩ = some (.int .i64 tq) := T1.out.cell 1
  obtain ⟨x0, x1, x2, x3, x4, x5, x6, x7, x8, x9, xlt⟩ := Sx.of D1.out.s
  go_wp2_with fail
  refine (KD.out _).mono ?_
  rintro e w2 ⟨rfl, rfl⟩
  go_wp2_with fail
  refine (KF.out _).mono ?_
  rintro e w4 ⟨rfl, b4⟩
  have D4 := Lib.hid (D1.out.later b4)
  have T4 := Lib.hid (T1.out.later b4)
  clear b4 t0 t1
  clear x0 x1 x2 x3 x4 x5 x6 x7 x8 x9 xlt
  obtain ⟨y0, y1, y2, y3, y4, y5, y6, y7, y8, y9, z0, z1, z2, z3, z4, z5, z6, z7, z8, z9⟩ := blk_writes D4.out.o.r
  obtain ⟨v0, v1, v2, v3, u0, u1, u2, u3⟩ := blk_four D4.out.o.x
  go_wp2_with fail
  have HF := fin D4.out.o.r D4.out.o.x (.int .u64 0) (.int .u64 0) (.int .u64 0) (.int .i64 0) (.int .i64 0) (.int .i64 0) (.int .i64 0) (.int .i64 0) (.int .i64 0) (.int .i64 0) (.int .i64 0) (.int .i64 0) (.int .i64 0) (.int .i64 0)
  exact bodyPost_ret (res_rchg rfl rfl rfl HF.1 HF.2) rfl ⟨rfl, fin_below D4.out.b (by omega) _ _ _ _ _ _ _ _ _ _ _ _ _ _⟩
/-- What the walk keeps. -/
structure Rz (w : World) (s : Sb) (tp tq : Int) (u : World) : Prop where
  g : Gx w s (w.heap.size + 1 + 1) u
  t : Blk u (w.heap.size + 1) #[.int .u64 tp, .int .i64 tq] 43
section
variable {w : World} {s : Sb} {tp tq : Int} {u v : World}
theorem Rz.later (h : Rz w s tp tq u) (k : Below u.heap.size u v) : Rz w s tp tq v := ⟨h.g.later k, h.t.later k⟩
theorem Rz.far (h : Rz w s tp tq u) {G : Nat} (hG : w.heap.size + 3 < G) (y0 y1 y2 y3 : Value) : Rz w s tp tq ((((u.setCell ⟨G, 0, Option.none⟩ y0).setCell ⟨G, 1, Option.none⟩ y1).setCell ⟨G, 2, Option.none⟩ y2).setCell ⟨G, 3, Option.none⟩ y3) :=
  ⟨⟨h.g.s.far (by omega) _ _ _ _, ⟨h.g.o.r.far (by omega) _ _ _ _, h.g.o.x.far (by omega) _ _ _ _⟩, below_four h.g.b (by omega) _ _ _ _⟩, h.t.far (by omega) _ _ _ _⟩
theorem Rz.drew (h : Rz w s tp tq u) : Rz w s tp tq u.drew := h.later ((Below.refl _ u).drew)
theorem Rz.alloc (h : Rz w s tp tq u) (o : Obj) : Rz w s tp tq (u.alloc o) := h.later ((Below.refl _ u).alloc (Nat.le_refl _) o)
theorem rz_alloc (h : Rz w s tp tq u) (k : Below (u.alloc (.cells zero4 45)).heap.size (u.alloc (.cells zero4 45)) v) : w.heap.size + 3 < u.heap.size ∧ Blk v u.heap.size zero4 45 := ⟨h.g.o.x.lt, (Blk.new u _ _).later k⟩
theorem rz_alloc2 (h : Rz w s tp tq u) {o : Obj} (k : Below (u.alloc o).heap.size (u.alloc o) v) : Rz w s tp tq v := (h.later ((Below.refl _ u).alloc (Nat.le_refl _) o)).later k
theorem Rz.pack (h : Rz w s tp tq u) : u.cell? ⟨w.heap.size, 0, Option.none⟩ = some (.int .u64 s.id) ∧ u.cell? ⟨w.heap.size, 1, Option.none⟩ = some (.int .u64 s.cu) ∧ u.cell? ⟨w.heap.size, 2, Option.none⟩ = some (.int .u64 s.pl) ∧ u.cell? ⟨w.heap.size, 3, Option.none⟩ = some (.int .i64 s.c.s) ∧ u.cell? ⟨w.heap.size, 4, Option.none⟩ = some (.int .i64 s.c.a) ∧ u.cell? ⟨w.heap.size, 5, Option.none⟩ = some (.int .i64 s.c.e) ∧ u.cell? ⟨w.heap.size, 6, Option.none⟩ = some (.int .i64 s.p) ∧ u.cell? ⟨w.heap.size, 7, Option.none⟩ = some (.int .i64 s.b) ∧ u.cell? ⟨w.heap.size, 8, Option.none⟩ = some (.int .i64 s.s) ∧ u.cell? ⟨w.heap.size, 9, Option.none⟩ = some (.int .i64 s.e) ∧ u.cell? ⟨w.heap.size + 1, 0, Option.none⟩ = some (.int .u64 tp) ∧ u.cell? ⟨w.heap.size + 1, 1, Option.none⟩ = some (.int .i64 tq) ∧ Rz w s tp tq u := ⟨h.g.s.cell 0, h.g.s.cell 1, h.g.s.cell 2, h.g.s.cell 3, h.g.s.cell 4, h.g.s.cell 5, h.g.s.cell 6, h.g.s.cell 7, h.g.s.cell 8, h.g.s.cell 9, h.t.cell 0, h.t.cell 1, h⟩
end
set_option maxRecDepth 100000 in
set_option maxHeartbeats 4000000 in
theorem rchg_ok (s : Sb) (m day tp tq : Int) (w : World) (hin : In m s.c.s) (h : s.Ok m) (hd : 1 ≤ day ∧ day ≤ 3652059) (ht : 1 ≤ tp) (hq0 : 0 ≤ tq) (hq1 : tq < 4611686018427387904) (k : Nat) (hk : s.b = (k : Int) + 1) (hl : lastB s m day = true) : Calls Tryd.prog 18 #[s.val, .int .i64 day, .agg #[.int .u64 tp, .int .i64 tq]] w (fun e w' => e = .returned (.tuple #[(s.turned tp tq day).val, (turnOf s m day tq k).val, .int .i64 0]) ∧ Below w.heap.size w w') := by
  have KC := Lib.hid (fun u => rcheck_yes s m u hin h)
  have KD := Lib.hid (fun u => rday_s day u true (dayB_yes hd.1 hd.2))
  have D0 := Lib.hid (gx_chg w s tp tq).1
  have T0 := Lib.hid (gx_chg w s tp tq).2
  have b0 := h.num.b0
  have b1' := h.num.b1
  have ht0 : (tp == 0) = false := by simp; omega
  have hbk : s.b.toNat = k + 1 := by omega
  have KF := Lib.hid (fun u => last_some s m day u h hin (by omega))
  rw [hl, hbk] at KF
  have hh : Has s.c m (k + 1) := hbk ▸ h.has
  have hpb := per_bd h.c hin hh
  have hse : s.e = 0 ∨ 1 ≤ s.e := by rcases h.we with hw0 | hw0 <;> omega
  have hen := en_bd (e := s.e) (n := bnd s.c m (k + 1)) hse (by omega)
  have KE := Lib.hid (fun u => rend_c s (bnd s.c m (k + 1)) u)
  have KO := Lib.hid (fun (price : Int) u => ron_s s (mo s.c m k) (bnd s.c m (k + 1)) price day (en s.e (bnd s.c m (k + 1))) u h.c (mo_in h.c hin hh) hd.1 hd.2 hen.1 (by omega))
  have HRES := Lib.hid (show turnOf s m day tq k = ⟨day, en s.e (bnd s.c m (k + 1)), onv s.p (bnd s.c m (k + 1) - bg s.c (mo s.c m k) - (bnd s.c m (k + 1) - day)) (bnd s.c m (k + 1) - bg s.c (mo s.c m k) - (bnd s.c m (k + 1) - en s.e (bnd s.c m (k + 1)))) (bnd s.c m (k + 1) - bg s.c (mo s.c m k)), onv tq (bnd s.c m (k + 1) - bg s.c (mo s.c m k) - (bnd s.c m (k + 1) - day)) (bnd s.c m (k + 1) - bg s.c (mo s.c m k) - (bnd s.c m (k + 1) - en s.e (bnd s.c m (k + 1)))) (bnd s.c m (k + 1) - bg s.c (mo s.c m k))⟩ from rfl)
  generalize bnd s.c m (k + 1) - bg s.c (mo s.c m k) = fu at KO HRES
  obtain ⟨ev, hev⟩ : ∃ ev, en s.e (bnd s.c m (k + 1)) = ev := ⟨_, rfl⟩
  rw [hev] at KE KO HRES
  clear hpb hse hen hev hh hbk hl hd
  generalize bnd s.c m (k + 1) = nx at *
  obtain ⟨qa, hqa⟩ : ∃ qa, onv s.p (fu - (nx - day)) (fu - (nx - ev)) fu = qa := ⟨_, rfl⟩
  obtain ⟨qb, hqb⟩ : ∃ qb, onv tq (fu - (nx - day)) (fu - (nx - ev)) fu = qb := ⟨_, rfl⟩
  rw [hqa, hqb] at HRES
  have HQ := Lib.hid (And.intro hqa hqb)
  clear hk hqa hqb
  go_enter Tryd.func18, Tryd.ntmps18
  unfold Sb.val Sb.cells
  go_wp2_with fail
  refine (KC.out _).mono ?_
  rintro e w1 ⟨rfl, b1⟩
  have D1 := Lib.hid (D0.out.later b1)
  have T1 := Lib.hid (T0.out.later b1)
  clear b1
  have t0 : w1.cell? ⟨w.heap.size + 1, 0, Option.none⟩ = some (.int .u64 tp) := T1.out.cell 0
  have t1 : w1.cell? ⟨w.heap.size + 1, 1, Option.none⟩ = some (.int .i64 tq) := T1.out.cell 1
  obtain ⟨x0, x1, x2, x3, x4, x5, x6, x7, x8, x9, xlt⟩ := Sx.of D1.out.s
  go_wp2_with fail
  refine (KD.out _).mono ?_
  rintro e w2 ⟨rfl, rfl⟩
  go_wp2_with fail
  refine (KF.out _).mono ?_
  rintro e w4 ⟨rfl, b4⟩
  have D4 := Lib.hid (D1.out.later b4)
  have T4 := Lib.hid (T1.out.later b4)
  clear b4 t0 t1
  clear x0 x1 x2 x3 x4 x5 x6 x7 x8 x9 xlt
  obtain ⟨x0, x1, x2, x3, x4, x5, x6, x7, x8, x9, xlt⟩ := Sx.of D4.out.s
  go_wp2_with fail
  refine (KE.out _).mono ?_
  rintro e w5 ⟨rfl, b5⟩
  have D5 := Lib.hid (D4.out.later b5)
  have T5 := Lib.hid (T4.out.later b5)
  clear b5
  clear x0 x1 x2 x3 x4 x5 x6 x7 x8 x9 xlt
  obtain ⟨x0, x1, x2, x3, x4, x5, x6, x7, x8, x9, xlt⟩ := Sx.of D5.out.s
  have t0 : w5.cell? ⟨w.heap.size + 1, 0, Option.none⟩ = some (.int .u64 tp) := T5.out.cell 0
  have t1 : w5.cell? ⟨w.heap.size + 1, 1, Option.none⟩ = some (.int .i64 tq) := T5.out.cell 1
  go_wp2_with fail
  have KA := Lib.hid (show ∀ (price : Int) (u : World), Rz w s tp tq u → Calls Tryd.prog 22 #[s.val, .int .i64 nx, .int .i64 price, .int .i64 day, .int .i64 ev] (u.alloc (.cells #[.int .i64 0, .int .i64 0, .int .i64 0, .int .i64 0] 45)) fun e w' => e = .returned (.int .i64 (onv price (fu - (nx - day)) (fu - (nx - ev)) fu)) ∧ Rz w s tp tq w' ∧ w.heap.size + 3 < u.heap.size ∧ Blk w' u.heap.size zero4 45 from
    fun price u hz => (KO.out price _).mono fun e w' ⟨h1, h2⟩ => ⟨h1, rz_alloc2 hz h2, (rz_alloc hz h2).1, (rz_alloc hz h2).2⟩)
  have KA2 := Lib.hid (show ∀ (price : Int) (u : World), Rz w s tp tq u → Calls Tryd.prog 22 #[s.val, .int .i64 nx, .int .i64 price, .int .i64 day, .int .i64 ev] ((u.alloc (.cells #[.int .i64 0, .int .i64 0, .int .i64 0, .int .i64 0] 45)).drew) fun e w' => e = .returned (.int .i64 (onv price (fu - (nx - day)) (fu - (nx - ev)) fu)) ∧ Rz w s tp tq w' ∧ w.heap.size + 3 < u.heap.size ∧ Blk w' u.heap.size zero4 45 from
    fun price u hz => (KO.out price _).mono fun e w' ⟨h1, h2⟩ => ⟨h1, (Rz.drew (hz.later ((Below.refl _ u).alloc (Nat.le_refl _) _))).later h2, hz.g.o.x.lt, ((Blk.new u _ _).drew).later h2⟩)
  have J5 := Rz.mk D5.out T5.out
  have KB := Lib.hid (show ∀ (price : Int) (u : World) (G : Nat), Rz w s tp tq u → w.heap.size + 3 < G → Blk u G zero4 45 → Calls Tryd.prog 22 #[s.val, .int .i64 nx, .int .i64 price, .int .i64 day, .int .i64 ev] u fun e w' => e = .returned (.int .i64 (onv price (fu - (nx - day)) (fu - (nx - ev)) fu)) ∧ Rz w s tp tq w' ∧ Blk w' G zero4 45 from
    fun price u G hz _ ha => (KO.out price _).mono fun e w' ⟨h1, h2⟩ => ⟨h1, hz.later h2, ha.later h2⟩)
  have KZ := Lib.hid (show ∀ (price : Int) (u : World), Rz w s tp tq u → Calls Tryd.prog 22 #[s.val, .int .i64 nx, .int .i64 price, .int .i64 day, .int .i64 ev] u fun e w' => e = .returned (.int .i64 (onv price (fu - (nx - day)) (fu - (nx - ev)) fu)) ∧ Rz w s tp tq w' from
    fun price u hz => (KO.out price _).mono fun e w' ⟨h1, h2⟩ => ⟨h1, hz.later h2⟩)
  have J := (Rz.mk D5.out T5.out).drew
  go_region_held3 (fun u => u.cell? ⟨w.heap.size, 0, Option.none⟩ = some (.int .u64 s.id) ∧ u.cell? ⟨w.heap.size, 1, Option.none⟩ = some (.int .u64 s.cu) ∧ u.cell? ⟨w.heap.size, 2, Option.none⟩ = some (.int .u64 s.pl) ∧ u.cell? ⟨w.heap.size, 3, Option.none⟩ = some (.int .i64 s.c.s) ∧ u.cell? ⟨w.heap.size, 4, Option.none⟩ = some (.int .i64 s.c.a) ∧ u.cell? ⟨w.heap.size, 5, Option.none⟩ = some (.int .i64 s.c.e) ∧ u.cell? ⟨w.heap.size, 6, Option.none⟩ = some (.int .i64 s.p) ∧ u.cell? ⟨w.heap.size, 7, Option.none⟩ = some (.int .i64 s.b) ∧ u.cell? ⟨w.heap.size, 8, Option.none⟩ = some (.int .i64 s.s) ∧ u.cell? ⟨w.heap.size, 9, Option.none⟩ = some (.int .i64 s.e) ∧ u.cell? ⟨w.heap.size + 1, 0, Option.none⟩ = some (.int .u64 tp) ∧ u.cell? ⟨w.heap.size + 1, 1, Option.none⟩ = some (.int .i64 tq) ∧ Rz w s tp tq u)
    (first | exact Rz.pack (by assumption) | exact Rz.pack (Rz.alloc (by assumption) _) | exact Rz.pack (Rz.far (by assumption) (by assumption) _ _ _ _))
    (first | (go_at_call 22; (try go_split_ands); refine (KA2.out _ _ J5).mono ?_; rintro e u1 ⟨rfl, J, hA, A⟩; (try (have hA : w.heap.size + 3 < w5.heap.size := hA; have A : Blk u1 w5.heap.size zero4 45 := A)); obtain ⟨v0, v1, v2, v3, u0, u1', u2', u3'⟩ := blk_four A; obtain ⟨c0', c1', c2', c3', e0', e1', e2', e3'⟩ := blk_four (Blk.new u1 #[.int .i64 0, .int .i64 0, .int .i64 0, .int .i64 0] 45)) | (go_at_call 22; (try go_split_ands); refine (KA.out _ _ (by assumption)).mono ?_; rintro e u1 ⟨rfl, J, hA, A⟩; (try (have hA : w.heap.size + 3 < w5.heap.size := hA; have A : Blk u1 w5.heap.size zero4 45 := A)); obtain ⟨v0, v1, v2, v3, u0, u1', u2', u3'⟩ := blk_four A; obtain ⟨c0', c1', c2', c3', e0', e1', e2', e3'⟩ := blk_four (Blk.new u1 #[.int .i64 0, .int .i64 0, .int .i64 0, .int .i64 0] 45)) | (go_at_call 22; (try go_split_ands); refine (KB.out _ _ _ (by assumption) hA A).mono ?_; rintro e u1 ⟨rfl, J, A⟩; have hA := hA; obtain ⟨v0, v1, v2, v3, u0, u1', u2', u3'⟩ := blk_four A; obtain ⟨c0', c1', c2', c3', e0', e1', e2', e3'⟩ := blk_four (Blk.new u1 #[.int .i64 0, .int .i64 0, .int .i64 0, .int .i64 0] 45)) | (go_at_call 22; (try go_split_ands); refine (KZ.out _ _ (by assumption)).mono ?_; rintro e u1 ⟨rfl, J⟩; obtain ⟨c0', c1', c2', c3', e0', e1', e2', e3'⟩ := blk_four (Blk.new u1 #[.int .i64 0, .int .i64 0, .int .i64 0, .int .i64 0] 45)))
  all_goals
    go_split_ands
    have hqa2 := HQ.out.1
    have hqb2 := HQ.out.2
    try rw [hqa2]
    try rw [hqb2]
    first
      | obtain ⟨W8, hW8⟩ : ∃ W8, u1.alloc (.cells #[.int .i64 day, .int .i64 ev, .int .i64 qa, .int .i64 qb] 45) = W8 := ⟨_, rfl⟩
        rw [hW8]
        have J8 := Lib.hid (show Rz w s tp tq W8 by rw [← hW8]; exact Rz.alloc J _)
        obtain ⟨G, hG⟩ : ∃ G, u1.heap.size = G := ⟨_, rfl⟩
        have X8 := Lib.hid (show Blk W8 G #[.int .i64 day, .int .i64 ev, .int .i64 qa, .int .i64 qb] 45 by rw [← hW8, ← hG]; exact Blk.new _ _ _)
        have hA2 : w.heap.size + 3 < G := by rw [← hG]; exact J.g.o.x.lt
        rw [hG]
        clear hW8 hG
      | generalize hW8 : World.setCell (World.setCell (World.setCell (World.setCell u1 _ _) _ _) _ _) _ _ = W8
        have J8 := Lib.hid (show Rz w s tp tq W8 by rw [← hW8]; exact Rz.far J hA _ _ _ _)
        have X8 := Lib.hid (show Blk W8 _ #[.int .i64 day, .int .i64 ev, .int .i64 qa, .int .i64 qb] 45 by rw [← hW8]; exact Blk.four A _ _ _ _)
        have hA2 := hA
        clear hW8 A
    have J := True.intro
    clear hqa2 hqb2
    clear HQ
    obtain ⟨x0, x1, x2, x3, x4, x5, x6, x7, x8, x9, xlt⟩ := Sx.of J8.out.g.s
    have t0 : W8.cell? ⟨w.heap.size + 1, 0, Option.none⟩ = some (.int .u64 tp) := J8.out.t.cell 0
    have t1 : W8.cell? ⟨w.heap.size + 1, 1, Option.none⟩ = some (.int .i64 tq) := J8.out.t.cell 1
    have f2 := J8.out.g.s.frozen 2
    have f6 := J8.out.g.s.frozen 6
    have f8 := J8.out.g.s.frozen 8
    go_upto_region 11 with (fail)
    obtain ⟨W9, hW9⟩ : ∃ W9, ((W8.setCell ⟨w.heap.size, 2, Option.none⟩ (.int .u64 tp)).setCell ⟨w.heap.size, 6, Option.none⟩ (.int .i64 tq)).setCell ⟨w.heap.size, 8, Option.none⟩ (.int .i64 day) = W9 := ⟨_, rfl⟩
    have S9 := Lib.hid (show Blk W9 w.heap.size (s.turned tp tq day).cells 26 by rw [← hW9]; exact ((J8.out.g.s.set 2 (.int .u64 tp)).set 6 (.int .i64 tq)).set 8 (.int .i64 day))
    have R9 := Lib.hid (show Blk W9 (w.heap.size + 1 + 1) Sb.none.cells 26 by rw [← hW9]; exact ((J8.out.g.o.r.other 2 (.int .u64 tp) (by omega)).other 6 (.int .i64 tq) (by omega)).other 8 (.int .i64 day) (by omega))
    have X9 := Lib.hid (show Blk W9 (w.heap.size + 1 + 1 + 1) zero4 45 by rw [← hW9]; exact ((J8.out.g.o.x.other 2 (.int .u64 tp) (by omega)).other 6 (.int .i64 tq) (by omega)).other 8 (.int .i64 day) (by omega))
    have G9 := Lib.hid (show Blk W9 _ #[.int .i64 day, .int .i64 ev, .int .i64 qa, .int .i64 qb] 45 by rw [← hW9]; exact ((X8.out.other 2 (.int .u64 tp) (by omega)).other 6 (.int .i64 tq) (by omega)).other 8 (.int .i64 day) (by omega))
    have B9 := Lib.hid (show Below w.heap.size w W9 by rw [← hW9]; exact ((J8.out.g.b.setCell (p := ⟨w.heap.size, 2, Option.none⟩) (Nat.le_refl _) (.int .u64 tp)).setCell (p := ⟨w.heap.size, 6, Option.none⟩) (Nat.le_refl _) (.int .i64 tq)).setCell (p := ⟨w.heap.size, 8, Option.none⟩) (Nat.le_refl _) (.int .i64 day))
    rw [hW9]
    clear hW9 J8 X8 t0 t1 f2 f6 f8 x0 x1 x2 x3 x4 x5 x6 x7 x8 x9 xlt
    obtain ⟨x0, x1, x2, x3, x4, x5, x6, x7, x8, x9, xlt⟩ := Sx.of S9.out
    dsimp only [Sb.turned] at x0 x1 x2 x3 x4 x5 x6 x7 x8 x9
    obtain ⟨y0, y1, y2, y3, y4, y5, y6, y7, y8, y9, z0, z1, z2, z3, z4, z5, z6, z7, z8, z9⟩ := blk_writes R9.out
    obtain ⟨v0, v1, v2, v3, u0, u1', u2', u3'⟩ := blk_four X9.out
    have t0 : W9.cell? ⟨_, 0, Option.none⟩ = some (.int .i64 day) := G9.out.cell 0
    have t1 : W9.cell? ⟨_, 1, Option.none⟩ = some (.int .i64 ev) := G9.out.cell 1
    have t2 : W9.cell? ⟨_, 2, Option.none⟩ = some (.int .i64 qa) := G9.out.cell 2
    have t3 : W9.cell? ⟨_, 3, Option.none⟩ = some (.int .i64 qb) := G9.out.cell 3
    go_wp2_with fail
    go_region
    generalize hW10 : World.drew _ = W10
    have HF := fin R9.out X9.out (.int .u64 s.id) (.int .u64 s.cu) (.int .u64 tp) (.int .i64 s.c.s) (.int .i64 s.c.a) (.int .i64 s.c.e) (.int .i64 tq) (.int .i64 s.b) (.int .i64 day) (.int .i64 s.e) (.int .i64 day) (.int .i64 ev) (.int .i64 qa) (.int .i64 qb)
    have F1 := Lib.hid (show Blk W10 (w.heap.size + 1 + 1) (s.turned tp tq day).cells 26 by rw [← hW10]; exact HF.1.drew)
    have F2 := Lib.hid (show Blk W10 (w.heap.size + 1 + 1 + 1) #[.int .i64 day, .int .i64 ev, .int .i64 qa, .int .i64 qb] 45 by rw [← hW10]; exact HF.2.drew)
    have F3 := Lib.hid (show Below w.heap.size w W10 by rw [← hW10]; exact (fin_below (B := w.heap.size + 1 + 1) B9.out (by omega) (.int .u64 s.id) (.int .u64 s.cu) (.int .u64 tp) (.int .i64 s.c.s) (.int .i64 s.c.a) (.int .i64 s.c.e) (.int .i64 tq) (.int .i64 s.b) (.int .i64 day) (.int .i64 s.e) (.int .i64 day) (.int .i64 ev) (.int .i64 qa) (.int .i64 qb)).drew)
    clear HF hW10 S9 R9 X9 G9 B9 x0 x1 x2 x3 x4 x5 x6 x7 x8 x9 xlt y0 y1 y2 y3 y4 y5 y6 y7 y8 y9 z0 z1 z2 z3 z4 z5 z6 z7 z8 z9 v0 v1 v2 v3 u0 u1' u2' u3' t0 t1 t2 t3
    go_wp2_with fail
    exact bodyPost_ret (res_rchg rfl rfl rfl F1.out F2.out) rfl ⟨by rw [HRES.out], F3.out⟩
end Go.Proofs.YtjchecjonkmhgaaDoor.Su
