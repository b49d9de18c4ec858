/- The document's bills. -/
import Derived.Test.YtjchecjonkmhgaaDoorSuDue
import Derived.Test.YtjchecjonkmhgaaDoorSuRCheck
namespace Go.Proofs.YtjchecjonkmhgaaDoor.Su
open Go.RowKit Pr An Rf
theorem res_rdue {W : World} {tmps : Array Value} {B : Nat} {v a0 a1 a2 a3 a4 a5 a6 a7 a8 a9 : Value} {z : Int} (h6 : tmps[6]?.getD undef = v) (h7 : tmps[7]?.getD undef = .pointer (some ⟨B, 0, none⟩)) (h8 : tmps[8]?.getD undef = .int .i64 z)
    (h : Blk W B #[a0, a1, a2, a3, a4, a5, a6, a7, a8, a9] 26) :
    (results Tryd.f10 tmps).run Tryd.prog W = .ok (.tuple #[v, .agg #[a0, a1, a2, a3, a4, a5, a6, a7, a8, a9], .int .i64 z]) W := by
  have q0 : W.cell? ⟨B, 0, Option.none⟩ = some a0 := h.cell 0
  have q1 : W.cell? ⟨B, 1, Option.none⟩ = some a1 := h.cell 1
  have q2 : W.cell? ⟨B, 2, Option.none⟩ = some a2 := h.cell 2
  have q3 : W.cell? ⟨B, 3, Option.none⟩ = some a3 := h.cell 3
  have q4 : W.cell? ⟨B, 4, Option.none⟩ = some a4 := h.cell 4
  have q5 : W.cell? ⟨B, 5, Option.none⟩ = some a5 := h.cell 5
  have q6 : W.cell? ⟨B, 6, Option.none⟩ = some a6 := h.cell 6
  have q7 : W.cell? ⟨B, 7, Option.none⟩ = some a7 := h.cell 7
  have q8 : W.cell? ⟨B, 8, Option.none⟩ = some a8 := h.cell 8
  have q9 : W.cell? ⟨B, 9, Option.none⟩ = some a9 := h.cell 9
  simp [results, Tryd.results10, go_sem, h6, h7, h8, q0, q1, q2, q3, q4, q5, q6, q7, q8, q9]
/-- The blocks of a call: the subscription's, the result's. -/
structure Ex (w : World) (s : Sb) (W : World) : Prop where
  s : Blk W w.heap.size s.cells 26
  r : Blk W (w.heap.size + 1) Sb.none.cells 26
  b : Below w.heap.size w W
theorem Ex.later {w : World} {s : Sb} {W W' : World} (h : Ex w s W) (k : Below W.heap.size W W') : Ex w s W' := ⟨h.s.later k, h.r.later k, h.b.trans (k.mono h.b.size)⟩
theorem Ex.drew {w : World} {s : Sb} {W : World} (h : Ex w s W) : Ex w s W.drew := ⟨h.s, h.r, h.b.drew⟩
theorem ex_new (w : World) (s : Sb) : Ex w s ((w.alloc (.cells s.cells 26)).alloc (.cells Sb.none.cells 26)) := by
  refine ⟨(Blk.new w _ _).alloc _, ?_, ((Below.refl _ w).alloc (Nat.le_refl _) _).alloc (by simp) _⟩
  have := Blk.new (w.alloc (.cells s.cells 26)) Sb.none.cells 26
  rwa [World.size_alloc] at this
set_option maxRecDepth 100000 in
set_option maxHeartbeats 1600000 in
theorem rdue_bad (s : Sb) (m today most : Int) (w : World) (hf : s.Fits) (hin : s.c.Ok → In m s.c.s) (h : ¬ s.Ok m) :
    Calls Tryd.prog 10 #[s.val, .int .i64 today, .int .i64 most] w (DueNo w) := by
  have KC := Lib.hid (fun u => rcheck_no s m u hf hin h)
  have D0 := Lib.hid (ex_new w s)
  go_enter Tryd.func10, Tryd.ntmps10
  unfold Sb.val Sb.cells
  go_wp2_with fail
  refine (KC.out _).mono ?_
  rintro e w1 ⟨rfl, b1⟩
  have D1 := Lib.hid (D0.out.later b1)
  clear b1
  obtain ⟨y0, y1, y2, y3, y4, y5, y6, y7, y8, y9, z0, z1, z2, z3, z4, z5, z6, z7, z8, z9⟩ := blk_writes D1.out.r
  go_wp2_with fail
  exact bodyPost_ret (res_rdue rfl rfl rfl (D1.out.r.ten _ _ _ _ _ _ _ _ _ _)) rfl ⟨rfl, below_ten D1.out.b (by omega) _ _ _ _ _ _ _ _ _ _⟩
set_option maxRecDepth 100000 in
set_option maxHeartbeats 1600000 in
theorem rdue_day (s : Sb) (m today most : Int) (w : World) (hin : In m s.c.s) (h : s.Ok m) (hd : ¬ (1 ≤ today ∧ today ≤ 3652059)) :
    Calls Tryd.prog 10 #[s.val, .int .i64 today, .int .i64 most] w (DueNo w) := by
  have KC := Lib.hid (fun u => rcheck_yes s m u hin h)
  have KD := Lib.hid (fun u => rday_s today u false (dayB_no (by omega)))
  have D0 := Lib.hid (ex_new w s)
  clear hd
  go_enter Tryd.func10, Tryd.ntmps10
  unfold Sb.val Sb.cells
  go_wp2_with fail
  refine (KC.out _).mono ?_
  rintro e w1 ⟨rfl, b1⟩
  have D1 := Lib.hid (D0.out.later b1)
  clear b1
  obtain ⟨y0, y1, y2, y3, y4, y5, y6, y7, y8, y9, z0, z1, z2, z3, z4, z5, z6, z7, z8, z9⟩ := blk_writes D1.out.r
  go_wp2_with fail
  refine (KD.out _).mono ?_
  rintro e w2 ⟨rfl, rfl⟩
  go_wp2_with fail
  exact bodyPost_ret (res_rdue rfl rfl rfl (D1.out.r.ten _ _ _ _ _ _ _ _ _ _)) rfl ⟨rfl, below_ten D1.out.b (by omega) _ _ _ _ _ _ _ _ _ _⟩
set_option maxRecDepth 100000 in
set_option maxHeartbeats 1600000 in
theorem rdue_most (s : Sb) (m today most : Int) (w : World) (hin : In m s.c.s) (h : s.Ok m) (hd : 1 ≤ today ∧ today ≤ 3652059) (hm : most < 1 ∨ (1 ≤ most ∧ 1000 < most)) :
    Calls Tryd.prog 10 #[s.val, .int .i64 today, .int .i64 most] w (DueNo w) := by
  have KC := Lib.hid (fun u => rcheck_yes s m u hin h)
  have KD := Lib.hid (fun u => rday_s today u true (dayB_yes hd.1 hd.2))
  have D0 := Lib.hid (ex_new w s)
  clear hd
  rcases hm with hm | ⟨hm1, hm2⟩
  all_goals
    go_enter Tryd.func10, Tryd.ntmps10
    unfold Sb.val Sb.cells
    go_wp2_with fail
    refine (KC.out _).mono ?_
    rintro e w1 ⟨rfl, b1⟩
    have D1 := Lib.hid (D0.out.later b1)
    clear b1
    obtain ⟨y0, y1, y2, y3, y4, y5, y6, y7, y8, y9, z0, z1, z2, z3, z4, z5, z6, z7, z8, z9⟩ := blk_writes D1.out.r
    go_wp2_with fail
    refine (KD.out _).mono ?_
    rintro e w2 ⟨rfl, rfl⟩
    go_wp2_with fail
    exact bodyPost_ret (res_rdue rfl rfl rfl (D1.out.r.ten _ _ _ _ _ _ _ _ _ _)) rfl ⟨rfl, below_ten D1.out.b (by omega) _ _ _ _ _ _ _ _ _ _⟩
/-- What a round keeps. -/
structure Mx (w : World) (s : Sb) (m : Int) (g N B2 : Nat) (i : Nat) (v : Value) (W : World) : Prop where
  x : Ex w (s.after i) W
  l : ∀ j, j ≤ N → W.cell? ⟨g, j, Option.none⟩ = some (.int .i64 (bnd s.c m j))
  gl : g < W.heap.size
  row : W.ownsRow B2 57 4 v i (cellsB (bills s m i))
  sz : B2 ≤ W.heap.size
theorem Mx.later {w : World} {s : Sb} {m : Int} {g N B2 i : Nat} {v : Value} {W W' : World} (h : Mx w s m g N B2 i v W) (k : Below W.heap.size W W') : Mx w s m g N B2 i v W' :=
  ⟨h.x.later k, fun j hj => (k.cell (by simpa using h.gl)).trans (h.l j hj), Nat.lt_of_lt_of_le h.gl k.size, own_later h.row k, Nat.le_trans h.sz k.size⟩
theorem Mx.drew {w : World} {s : Sb} {m : Int} {g N B2 i : Nat} {v : Value} {W : World} (h : Mx w s m g N B2 i v W) : Mx w s m g N B2 i v W.drew := h.later ((Below.refl _ W).drew)
theorem stop_end {s : Sb} {m today most : Int} {N i : Nat} (h : s.Ok m) (hin : In m s.c.s) (hb : s.b.toNat + i < 2000) (hN : N ≤ s.b.toNat + i) (he : ¬ Has s.c m (N + 1) ∨ today < bnd s.c m N ∨ N + 1 = 2002) : Stop s m today most i := by
  rcases he with he | he | he
  · exact Or.inr (Or.inr (Or.inl fun hh => he (Has.le h.c (by omega) hh)))
  · exact Or.inr (Or.inr (Or.inr (Or.inl (Int.lt_of_lt_of_le he (bnd_le h.c hin hN)))))
  · omega
theorem after_0 (s : Sb) : s.after 0 = s := by simp [Sb.after]
theorem Mx.alloc {w : World} {s : Sb} {m : Int} {g N B2 i : Nat} {v : Value} {W : World} (h : Mx w s m g N B2 i v W) (o : Obj) : Mx w s m g N B2 i v (W.alloc o) := h.later ((Below.refl _ W).alloc (Nat.le_refl _) o)
/-- What a round keeps behind its append. -/
structure Ax (w : World) (s : Sb) (m : Int) (g N B2 : Nat) (i : Nat) (v : Value) (W : World) : Prop where
  x : Ex w (s.after i) W
  l : ∀ j, j ≤ N → W.cell? ⟨g, j, Option.none⟩ = some (.int .i64 (bnd s.c m j))
  gl : g < W.heap.size
  row : W.ownsRow B2 57 4 v (i + 1) (cellsB (bills s m (i + 1)))
  sz : B2 ≤ W.heap.size
theorem ex_pack {w : World} {s : Sb} {i : Nat} {kk : Int} {u : World} (hkk : s.b + (i : Int) = kk) (h : Ex w (s.after i) u) :
    u.cell? ⟨w.heap.size, 0, Option.none⟩ = some (.int .u64 s.id) ∧ u.cell? ⟨w.heap.size, 1, Option.none⟩ = some (.int .u64 s.cu) ∧ u.cell? ⟨w.heap.size, 2, Option.none⟩ = some (.int .u64 s.pl) ∧ u.cell? ⟨w.heap.size, 3, Option.none⟩ = some (.int .i64 s.c.s) ∧ u.cell? ⟨w.heap.size, 4, Option.none⟩ = some (.int .i64 s.c.a) ∧ u.cell? ⟨w.heap.size, 5, Option.none⟩ = some (.int .i64 s.c.e) ∧ u.cell? ⟨w.heap.size, 6, Option.none⟩ = some (.int .i64 s.p) ∧ u.cell? ⟨w.heap.size, 7, Option.none⟩ = some (.int .i64 kk) ∧ u.cell? ⟨w.heap.size, 8, Option.none⟩ = some (.int .i64 s.s) ∧ u.cell? ⟨w.heap.size, 9, Option.none⟩ = some (.int .i64 s.e) ∧ Ex w (s.after i) u := by
  subst hkk
  exact ⟨h.s.cell 0, h.s.cell 1, h.s.cell 2, h.s.cell 3, h.s.cell 4, h.s.cell 5, h.s.cell 6, h.s.cell 7, h.s.cell 8, h.s.cell 9, h⟩
theorem mx_next {w : World} {s : Sb} {m : Int} {g N B2 i : Nat} {v : Value} {W : World} {kk : Int} (hkk : s.b + (i : Int) = kk) (h : Ax w s m g N B2 i v W) (hg : w.heap.size + 1 < g) (hB : w.heap.size + 1 < B2) : Mx w s m g N B2 (i + 1) v (W.setCell ⟨w.heap.size, 7, Option.none⟩ (.int .i64 (kk + 1))) := by
  subst hkk
  refine ⟨⟨?_, h.x.r.other 7 _ (by omega), h.x.b.setCell (by simp) _⟩, fun j hj => (World.cell?_setCell_other _ _ _ _ (by intro e; injection e with e; omega)).trans (h.l j hj), by simpa [World.setCell] using h.gl, own_set7 h.row (by omega) _, by simpa [World.setCell] using h.sz⟩
  have := h.x.s.set 7 (.int .i64 (s.b + (i : Int) + 1))
  have e : s.b + ((i + 1 : Nat) : Int) = s.b + (i : Int) + 1 := by omega
  unfold Sb.cells Sb.after
  rw [e]
  exact this
theorem step_bill {ops : Array Oper} {o : Oper} {a : Act} {K : Act → World → Prop} {Q : Exit → Act → World → Prop} {E : Prop} {w u : World} {s : Sb} {m : Int} {g N B2 i vc : Nat} {va : Option Addr} {x0 x1 x2 x3 : Int} (hgd : o.guard = Option.none) (l x : Operand)
    (ho : o.op = .call { callee := .builtin .append, args := #[l, x], argTypes := #[27, 27] }) (hi : i ≤ 1000) (hb : bill s m (s.b.toNat + i) = ⟨x0, x1, x2, x3⟩) (hB2 : w.heap.size + 1 < B2) (hgB : g < B2)
    (hs : a.eval l = .slice va i vc) (hx : a.eval x = .slice (some ⟨u.heap.size, 0, Option.none⟩) 1 1) (hM : Mx w s m g N B2 i (.slice va i vc) u)
    (h : ∀ v' w7, Ax w s m g N B2 i v' w7 → K (a.put o.dst v') w7) : if Region.wanted o (yielded ops a.tmps) = true then Oper.wp Tryd.prog o a (u.alloc (.cells #[.int .i64 x0, .int .i64 x1, .int .i64 x2, .int .i64 x3] 57)) K Q else E := by
  obtain ⟨i0, hi0, hz0, hz1, hz2⟩ := info_parts infoBill
  have hsz := hM.sz
  refine step_append_lies _ hgd l x 27 ho B2 57 i0 (.agg #[.int .i64 0, .int .i64 0, .int .i64 0, .int .i64 0]) 4 32 Tryd.underlying27 hi0 hz0 hz1 hz2 rfl (by decide) (.slice va i vc) i (cellsB (bills s m i)) hs (hM.row.alloc _) ⟨u.heap.size, 0, Option.none⟩ 1 1 [.int .i64 x0, .int .i64 x1, .int .i64 x2, .int .i64 x3] hx rfl (four_new _ _ _ _ _ _) (by simp [Value.oneCell']) (by omega) (by unfold maxLen; omega) (by omega) (by simp; omega) _ rfl ?_
  intro g' cap' w7 k1 k2 _ _
  have far : ∀ j, j < B2 → w7.heap[j]? = u.heap[j]? := fun j hj => (k2.block j (by simp; omega) (own_ne hM.row hj)).trans (Below.heap_alloc _ _ _ (by omega))
  have hsz7 : u.heap.size ≤ w7.heap.size := by have := k2.size; simp at this; omega
  refine h _ w7 ⟨⟨(far _ (by omega)).trans hM.x.s, (far _ (by omega)).trans hM.x.r, ?_⟩, fun j hj => (World.cell?_of_block (w := u) (w' := w7) (far g hgB)).trans (hM.l j hj), by have := hM.gl; omega, ?_, by omega⟩
  · refine (hM.x.b.alloc hM.x.b.size _).grown k2 (by simp; have := hM.x.b.size; omega) fun j ej => ?_
    have := own_ne hM.row (b := j)
    rcases Nat.lt_or_ge j w.heap.size with hl | hl
    · exact absurd ej.symm (this (by omega))
    · exact hl
  · rw [bills_succ, cellsB_snoc, hb]
    exact k1
set_option maxRecDepth 100000 in
set_option maxHeartbeats 4000000 in
theorem rdue_in (s : Sb) (m today most : Int) (w : World) (hin : In m s.c.s) (h : s.Ok m) (hd : 1 ≤ today ∧ today ≤ 3652059) (hm1 : 1 ≤ most) (hm2 : most ≤ 1000) :
    Calls Tryd.prog 10 #[s.val, .int .i64 today, .int .i64 most] w (DueRes s m today most w) := by
  have KC := Lib.hid (fun u => rcheck_yes s m u hin h)
  have KD := Lib.hid (fun u => rday_s today u true (dayB_yes hd.1 hd.2))
  have KB := Lib.hid (fun u => rbounds_c s.c m today 2002 u h.c hin (by omega) (by omega))
  have D0 := Lib.hid (ex_new w s)
  have b0 := h.num.b0
  have b1 := h.num.b1
  have HO := Lib.hid h
  have HIN := Lib.hid hin
  clear hd h hin
  go_enter Tryd.func10, Tryd.ntmps10
  unfold Sb.val Sb.cells
  go_wp2_with fail
  refine (KC.out _).mono ?_
  rintro e w1 ⟨rfl, hb1⟩
  have D1 := Lib.hid (D0.out.later hb1)
  clear hb1
  obtain ⟨x0, x1, x2, x3, x4, x5, x6, x7, x8, x9, xlt⟩ := Sx.of D1.out.s
  go_wp2_with fail
  refine (KD.out _).mono ?_
  rintro e w2 ⟨rfl, rfl⟩
  go_wp2_with fail
  refine (KB.out _).mono ?_
  rintro e w3 ⟨N, g, cap, rfl, hown, hn1, hn2, hn3, hend, hb3⟩
  have D3 := Lib.hid (D1.out.later hb3)
  obtain ⟨hgl, hcell⟩ := own_cell hown
  have hgb : w1.heap.size ≤ g := by
    rcases hown.2 with ⟨h0, _⟩ | ⟨g', cap', cur, hv, hg, _⟩
    · cases h0
    · obtain ⟨rfl, rfl⟩ : g = g' ∧ cap = cap' := by simpa using hv
      exact hg
  have hgw : w.heap.size + 1 < g := Nat.lt_of_lt_of_le D1.out.r.lt hgb
  have hgB : g < w3.heap.size := hgl
  have HM := Lib.hid (show Mx w s m g N w3.heap.size 0 (.slice Option.none 0 0) w3 from ⟨by rw [after_0]; exact D3.out, fun j hj => hcell j _ (BL_at s.c m (N + 1) j (by omega)), hgl, World.ownsRow_nil _ _ _ _, Nat.le_refl _⟩)
  have HN := Lib.hid hn2
  have HE := Lib.hid hend
  have hN : N ≤ 2001 := by omega
  generalize hB2 : w3.heap.size = B2 at HM hgB
  have hB2' : w.heap.size + 1 < B2 := by rw [← hB2]; exact D3.out.r.lt
  clear hb3 hown hcell hn1 hn2 hn3 hend hgl hgb x0 x1 x2 x3 x4 x5 x6 x7 x8 x9 xlt hB2 KC KD KB D0 D1 D3
  go_wp2_with fail
  go_loopw [9, 11, 12] (fun s9 _ _ wr => ∃ i : Nat, Mx w s m g N B2 i s9 wr ∧ Hid (∀ j, j < i → ¬ Stop s m today most j) ∧ s.b + i ≤ 2000 ∧ (i : Int) ≤ most) (fun _ _ _ wr => (2000 - intOf ((wr.cell? ⟨w.heap.size, 7, Option.none⟩).getD undef)).toNat)
  case atStart => exact ⟨0, HM.out, Lib.hid (fun j hj => absurd hj (by omega)), by omega, by omega⟩
  case round =>
    obtain ⟨i, hM, hall, hi1, hi2⟩ := hrel
    have HX := Lib.hid hM
    obtain ⟨va, vc, rfl⟩ := own_slice hM.row
    clear hM
    obtain ⟨x0, x1, x2, x3, x4, x5, x6, x7, x8, x9, xlt⟩ := Sx.of HX.out.x.s
    dsimp only [Sb.after] at x0 x1 x2 x3 x4 x5 x6 x7 x8 x9
    obtain ⟨kk, hkk⟩ : ∃ kk : Int, s.b + (i : Int) = kk := ⟨_, rfl⟩
    have hkn := Lib.hid (show kk = ((s.b.toNat + i : Nat) : Int) by omega)
    rw [hkk] at x7 hi1
    have hkN : 0 ≤ kk := by omega
    rcases (show 2000 ≤ kk ∨ (kk < 2000 ∧ most ≤ (i : Int)) ∨ (kk < 2000 ∧ (i : Int) < most ∧ (N : Int) ≤ kk) ∨ (kk < 2000 ∧ (i : Int) < most ∧ kk < (N : Int)) by omega) with c1 | ⟨c1, c2⟩ | ⟨c1, c2, c3⟩ | ⟨c1, c2, c3⟩
    · have HMA := Lib.hid (show Many s m today most i from ⟨hall.out, Or.inr (Or.inl (by have := hkn.out; omega))⟩)
      subst hkk
      obtain ⟨y0, y1, y2, y3, y4, y5, y6, y7, y8, y9, z0, z1, z2, z3, z4, z5, z6, z7, z8, z9⟩ := blk_writes HX.out.x.r
      go_wp2_with fail
      go_region
      generalize hW6 : World.drew _ = W6
      have R6 := Lib.hid (show Blk W6 (w.heap.size + 1) (s.after i).cells 26 by rw [← hW6]; exact (HX.out.x.r.ten (.int .u64 s.id) (.int .u64 s.cu) (.int .u64 s.pl) (.int .i64 s.c.s) (.int .i64 s.c.a) (.int .i64 s.c.e) (.int .i64 s.p) (.int .i64 (s.b + (i : Int))) (.int .i64 s.s) (.int .i64 s.e)).drew)
      have O6 := Lib.hid (show W6.ownsRow B2 57 4 (.slice va i vc) i (cellsB (bills s m i)) by rw [← hW6]; exact own_later (own_ten (B := w.heap.size + 1) HX.out.row (by omega) (.int .u64 s.id) (.int .u64 s.cu) (.int .u64 s.pl) (.int .i64 s.c.s) (.int .i64 s.c.a) (.int .i64 s.c.e) (.int .i64 s.p) (.int .i64 (s.b + (i : Int))) (.int .i64 s.s) (.int .i64 s.e)) ((Below.refl _ _).drew))
      have B6 := Lib.hid (show Below w.heap.size w W6 by rw [← hW6]; exact (below_ten (B := w.heap.size + 1) HX.out.x.b (by omega) (.int .u64 s.id) (.int .u64 s.cu) (.int .u64 s.pl) (.int .i64 s.c.s) (.int .i64 s.c.a) (.int .i64 s.c.e) (.int .i64 s.p) (.int .i64 (s.b + (i : Int))) (.int .i64 s.s) (.int .i64 s.e)).drew)
      clear hW6 HX x0 x1 x2 x3 x4 x5 x6 x7 x8 x9 xlt y0 y1 y2 y3 y4 y5 y6 y7 y8 y9 z0 z1 z2 z3 z4 z5 z6 z7 z8 z9
      go_wp2_with fail
      exact bodyPost_ret (res_rdue rfl rfl rfl R6.out) rfl ⟨i, _, HMA.out, rfl, own_lower O6.out (by omega), B6.out⟩
    · have HMA := Lib.hid (show Many s m today most i from ⟨hall.out, Or.inl (by omega)⟩)
      subst hkk
      obtain ⟨y0, y1, y2, y3, y4, y5, y6, y7, y8, y9, z0, z1, z2, z3, z4, z5, z6, z7, z8, z9⟩ := blk_writes HX.out.x.r
      go_wp2_with fail
      go_region
      generalize hW6 : World.drew _ = W6
      have R6 := Lib.hid (show Blk W6 (w.heap.size + 1) (s.after i).cells 26 by rw [← hW6]; exact (HX.out.x.r.ten (.int .u64 s.id) (.int .u64 s.cu) (.int .u64 s.pl) (.int .i64 s.c.s) (.int .i64 s.c.a) (.int .i64 s.c.e) (.int .i64 s.p) (.int .i64 (s.b + (i : Int))) (.int .i64 s.s) (.int .i64 s.e)).drew)
      have O6 := Lib.hid (show W6.ownsRow B2 57 4 (.slice va i vc) i (cellsB (bills s m i)) by rw [← hW6]; exact own_later (own_ten (B := w.heap.size + 1) HX.out.row (by omega) (.int .u64 s.id) (.int .u64 s.cu) (.int .u64 s.pl) (.int .i64 s.c.s) (.int .i64 s.c.a) (.int .i64 s.c.e) (.int .i64 s.p) (.int .i64 (s.b + (i : Int))) (.int .i64 s.s) (.int .i64 s.e)) ((Below.refl _ _).drew))
      have B6 := Lib.hid (show Below w.heap.size w W6 by rw [← hW6]; exact (below_ten (B := w.heap.size + 1) HX.out.x.b (by omega) (.int .u64 s.id) (.int .u64 s.cu) (.int .u64 s.pl) (.int .i64 s.c.s) (.int .i64 s.c.a) (.int .i64 s.c.e) (.int .i64 s.p) (.int .i64 (s.b + (i : Int))) (.int .i64 s.s) (.int .i64 s.e)).drew)
      clear hW6 HX x0 x1 x2 x3 x4 x5 x6 x7 x8 x9 xlt y0 y1 y2 y3 y4 y5 y6 y7 y8 y9 z0 z1 z2 z3 z4 z5 z6 z7 z8 z9
      go_wp2_with fail
      exact bodyPost_ret (res_rdue rfl rfl rfl R6.out) rfl ⟨i, _, HMA.out, rfl, own_lower O6.out (by omega), B6.out⟩
    · have HMA := Lib.hid (show Many s m today most i from ⟨hall.out, stop_end HO.out HIN.out (by have := hkn.out; omega) (by have := hkn.out; omega) HE.out⟩)
      subst hkk
      obtain ⟨y0, y1, y2, y3, y4, y5, y6, y7, y8, y9, z0, z1, z2, z3, z4, z5, z6, z7, z8, z9⟩ := blk_writes HX.out.x.r
      go_wp2_with fail
      go_region
      generalize hW6 : World.drew _ = W6
      have R6 := Lib.hid (show Blk W6 (w.heap.size + 1) (s.after i).cells 26 by rw [← hW6]; exact (HX.out.x.r.ten (.int .u64 s.id) (.int .u64 s.cu) (.int .u64 s.pl) (.int .i64 s.c.s) (.int .i64 s.c.a) (.int .i64 s.c.e) (.int .i64 s.p) (.int .i64 (s.b + (i : Int))) (.int .i64 s.s) (.int .i64 s.e)).drew)
      have O6 := Lib.hid (show W6.ownsRow B2 57 4 (.slice va i vc) i (cellsB (bills s m i)) by rw [← hW6]; exact own_later (own_ten (B := w.heap.size + 1) HX.out.row (by omega) (.int .u64 s.id) (.int .u64 s.cu) (.int .u64 s.pl) (.int .i64 s.c.s) (.int .i64 s.c.a) (.int .i64 s.c.e) (.int .i64 s.p) (.int .i64 (s.b + (i : Int))) (.int .i64 s.s) (.int .i64 s.e)) ((Below.refl _ _).drew))
      have B6 := Lib.hid (show Below w.heap.size w W6 by rw [← hW6]; exact (below_ten (B := w.heap.size + 1) HX.out.x.b (by omega) (.int .u64 s.id) (.int .u64 s.cu) (.int .u64 s.pl) (.int .i64 s.c.s) (.int .i64 s.c.a) (.int .i64 s.c.e) (.int .i64 s.p) (.int .i64 (s.b + (i : Int))) (.int .i64 s.s) (.int .i64 s.e)).drew)
      clear hW6 HX x0 x1 x2 x3 x4 x5 x6 x7 x8 x9 xlt y0 y1 y2 y3 y4 y5 y6 y7 y8 y9 z0 z1 z2 z3 z4 z5 z6 z7 z8 z9
      go_wp2_with fail
      exact bodyPost_ret (res_rdue rfl rfl rfl R6.out) rfl ⟨i, _, HMA.out, rfl, own_lower O6.out (by omega), B6.out⟩
    · obtain ⟨k, hk⟩ : ∃ k, s.b.toNat + i = k := ⟨_, rfl⟩
      have HKE := Lib.hid hk
      have hkn2 := hkn.out
      rw [hk] at hkn2
      have HH := Lib.hid (show Has s.c m (k + 1) from Has.le HO.out.c (by omega) HN.out)
      have hpb := per_bd HO.out.c HIN.out HH.out
      have hl0 := HX.out.l k (by omega)
      have hl1 := HX.out.l (k + 1) (by omega)
      have HMO := Lib.hid (mo_in HO.out.c HIN.out HH.out)
      obtain ⟨fr, hfr⟩ : ∃ fr, bnd s.c m k = fr := ⟨_, rfl⟩
      obtain ⟨nx, hnx⟩ : ∃ nx, bnd s.c m (k + 1) = nx := ⟨_, rfl⟩
      rw [hfr] at hl0 hpb
      rw [hnx] at hl1 hpb HMO
      have HFR := Lib.hid hfr
      have HNX := Lib.hid hnx
      rw [show k = kk.toNat by omega] at hl0
      rw [show k + 1 = (kk + 1).toNat by omega] at hl1
      have HST := Lib.hid (show Stop s m today most i ↔ (today < fr ∨ (s.e ≠ 0 ∧ s.e ≤ fr)) by
        unfold Stop
        rw [hk, hfr]
        constructor
        · rintro (h | h | h | h)
          · omega
          · omega
          · exact absurd HH.out h
          · exact h
        · exact fun h => Or.inr (Or.inr (Or.inr h)))
      clear hk hkn2 hfr hnx
      have hke : 0 ≤ kk + 1 := by omega
      have hkf : kk + 1 < (N : Int) + 1 := by omega
      have hkg : kk < (N : Int) + 1 := by omega
      rcases (show today < fr ∨ (¬ today < fr ∧ s.e ≠ 0 ∧ s.e ≤ fr) ∨ (¬ today < fr ∧ s.e = 0) ∨ (¬ today < fr ∧ s.e ≠ 0 ∧ ¬ s.e ≤ fr) by omega) with a1 | ⟨a1, h0e, a2⟩ | ⟨a1, h0e⟩ | ⟨a1, h0e, a2⟩
      · have HMA := Lib.hid (show Many s m today most i from ⟨hall.out, HST.out.2 (Or.inl a1)⟩)
        have q2 : decide (today < fr) = true := by simpa using a1
        go_wp2_with fail
        go_region
        generalize hw5 : wr.drew = w5
        have HX5 := Lib.hid (show Mx w s m g N B2 i (.slice va i vc) w5 from hw5 ▸ HX.out.drew)
        have xm := x7
        clear hw5 x0 x1 x2 x3 x4 x5 x6 x7 x8 x9 xlt hl0 hl1 HX
        have HX := HX5
        clear HX5
        obtain ⟨x0, x1, x2, x3, x4, x5, x6, x7, x8, x9, xlt⟩ := Sx.of HX.out.x.s
        dsimp only [Sb.after] at x0 x1 x2 x3 x4 x5 x6 x7 x8 x9
        rw [hkk] at x7
        subst hkk
        obtain ⟨y0, y1, y2, y3, y4, y5, y6, y7, y8, y9, z0, z1, z2, z3, z4, z5, z6, z7, z8, z9⟩ := blk_writes HX.out.x.r
        go_wp2_with fail
        go_region
        generalize hW6 : World.drew _ = W6
        have R6 := Lib.hid (show Blk W6 (w.heap.size + 1) (s.after i).cells 26 by rw [← hW6]; exact (HX.out.x.r.ten (.int .u64 s.id) (.int .u64 s.cu) (.int .u64 s.pl) (.int .i64 s.c.s) (.int .i64 s.c.a) (.int .i64 s.c.e) (.int .i64 s.p) (.int .i64 (s.b + (i : Int))) (.int .i64 s.s) (.int .i64 s.e)).drew)
        have O6 := Lib.hid (show W6.ownsRow B2 57 4 (.slice va i vc) i (cellsB (bills s m i)) by rw [← hW6]; exact own_later (own_ten (B := w.heap.size + 1) HX.out.row (by omega) (.int .u64 s.id) (.int .u64 s.cu) (.int .u64 s.pl) (.int .i64 s.c.s) (.int .i64 s.c.a) (.int .i64 s.c.e) (.int .i64 s.p) (.int .i64 (s.b + (i : Int))) (.int .i64 s.s) (.int .i64 s.e)) ((Below.refl _ _).drew))
        have B6 := Lib.hid (show Below w.heap.size w W6 by rw [← hW6]; exact (below_ten (B := w.heap.size + 1) HX.out.x.b (by omega) (.int .u64 s.id) (.int .u64 s.cu) (.int .u64 s.pl) (.int .i64 s.c.s) (.int .i64 s.c.a) (.int .i64 s.c.e) (.int .i64 s.p) (.int .i64 (s.b + (i : Int))) (.int .i64 s.s) (.int .i64 s.e)).drew)
        clear hW6 HX x0 x1 x2 x3 x4 x5 x6 x7 x8 x9 xlt y0 y1 y2 y3 y4 y5 y6 y7 y8 y9 z0 z1 z2 z3 z4 z5 z6 z7 z8 z9
        go_wp2_with fail
        exact bodyPost_ret (res_rdue rfl rfl rfl R6.out) rfl ⟨i, _, HMA.out, rfl, own_lower O6.out (by omega), B6.out⟩
      · have HMA := Lib.hid (show Many s m today most i from ⟨hall.out, HST.out.2 (Or.inr ⟨h0e, a2⟩)⟩)
        have q2 : decide (today < fr) = false := by simpa using a1
        have q3 : (s.e != 0) = true := by simpa using h0e
        have q4 : decide (s.e ≤ fr) = true := by simpa using a2
        clear h0e
        go_wp2_with fail
        go_region
        generalize hw5 : wr.drew = w5
        have HX5 := Lib.hid (show Mx w s m g N B2 i (.slice va i vc) w5 from hw5 ▸ HX.out.drew)
        have xm := x7
        clear hw5 x0 x1 x2 x3 x4 x5 x6 x7 x8 x9 xlt hl0 hl1 HX
        have HX := HX5
        clear HX5
        obtain ⟨x0, x1, x2, x3, x4, x5, x6, x7, x8, x9, xlt⟩ := Sx.of HX.out.x.s
        dsimp only [Sb.after] at x0 x1 x2 x3 x4 x5 x6 x7 x8 x9
        rw [hkk] at x7
        subst hkk
        obtain ⟨y0, y1, y2, y3, y4, y5, y6, y7, y8, y9, z0, z1, z2, z3, z4, z5, z6, z7, z8, z9⟩ := blk_writes HX.out.x.r
        go_wp2_with fail
        go_region
        generalize hW6 : World.drew _ = W6
        have R6 := Lib.hid (show Blk W6 (w.heap.size + 1) (s.after i).cells 26 by rw [← hW6]; exact (HX.out.x.r.ten (.int .u64 s.id) (.int .u64 s.cu) (.int .u64 s.pl) (.int .i64 s.c.s) (.int .i64 s.c.a) (.int .i64 s.c.e) (.int .i64 s.p) (.int .i64 (s.b + (i : Int))) (.int .i64 s.s) (.int .i64 s.e)).drew)
        have O6 := Lib.hid (show W6.ownsRow B2 57 4 (.slice va i vc) i (cellsB (bills s m i)) by rw [← hW6]; exact own_later (own_ten (B := w.heap.size + 1) HX.out.row (by omega) (.int .u64 s.id) (.int .u64 s.cu) (.int .u64 s.pl) (.int .i64 s.c.s) (.int .i64 s.c.a) (.int .i64 s.c.e) (.int .i64 s.p) (.int .i64 (s.b + (i : Int))) (.int .i64 s.s) (.int .i64 s.e)) ((Below.refl _ _).drew))
        have B6 := Lib.hid (show Below w.heap.size w W6 by rw [← hW6]; exact (below_ten (B := w.heap.size + 1) HX.out.x.b (by omega) (.int .u64 s.id) (.int .u64 s.cu) (.int .u64 s.pl) (.int .i64 s.c.s) (.int .i64 s.c.a) (.int .i64 s.c.e) (.int .i64 s.p) (.int .i64 (s.b + (i : Int))) (.int .i64 s.s) (.int .i64 s.e)).drew)
        clear hW6 HX x0 x1 x2 x3 x4 x5 x6 x7 x8 x9 xlt y0 y1 y2 y3 y4 y5 y6 y7 y8 y9 z0 z1 z2 z3 z4 z5 z6 z7 z8 z9
        go_wp2_with fail
        exact bodyPost_ret (res_rdue rfl rfl rfl R6.out) rfl ⟨i, _, HMA.out, rfl, own_lower O6.out (by omega), B6.out⟩
      · have HNS := Lib.hid (show ¬ Stop s m today most i from fun hh => by have := HST.out.1 hh; omega)
        have q2 : decide (today < fr) = false := by simpa using a1
        have q3 : (s.e != 0) = false := by simpa using h0e
        have hse : s.e = 0 ∨ 1 ≤ s.e := Or.inl h0e
        have hen := en_bd (e := s.e) (n := nx) hse (by omega)
        have KE := Lib.hid (fun u => rend_c (s.after i) nx u)
        have KO := Lib.hid (fun u => ron_s (s.after i) (mo s.c m k) nx s.p fr (en s.e nx) u HO.out.c HMO.out (by omega) (by omega) hen.1 (by omega))
        rw [show (s.after i).e = s.e from rfl] at KE
        rw [show (s.after i).c = s.c from rfl] at KO
        obtain ⟨q, hq⟩ : ∃ q, onv s.p (nx - bg s.c (mo s.c m k) - (nx - fr)) (nx - bg s.c (mo s.c m k) - (nx - en s.e nx)) (nx - bg s.c (mo s.c m k)) = q := ⟨_, rfl⟩
        rw [hq] at KO
        have HBI := Lib.hid (show bill s m (s.b.toNat + i) = ⟨kk, fr, en s.e nx, q⟩ by rw [← hq, ← HFR.out, ← HNX.out, hkn.out, HKE.out]; rfl)
        obtain ⟨ev, hev⟩ : ∃ ev, en s.e nx = ev := ⟨_, rfl⟩
        rw [hev] at KE KO HBI hen
        unfold Sb.val Sb.cells at KE KO
        dsimp only [Sb.after] at KE KO
        rw [hkk] at KE KO
        clear hq hev
        clear h0e hse
        go_wp2_with fail
        go_region
        generalize hw5 : wr.drew = w5
        have HX5 := Lib.hid (show Mx w s m g N B2 i (.slice va i vc) w5 from hw5 ▸ HX.out.drew)
        have xm := x7
        clear hw5 x0 x1 x2 x3 x4 x5 x6 x7 x8 x9 xlt hl0 hl1 HX
        have HX := HX5
        clear HX5
        obtain ⟨x0, x1, x2, x3, x4, x5, x6, x7, x8, x9, xlt⟩ := Sx.of HX.out.x.s
        dsimp only [Sb.after] at x0 x1 x2 x3 x4 x5 x6 x7 x8 x9
        rw [hkk] at x7
        go_wp2_with fail
        have J0 := HX.out.drew
        go_region_held3 (fun u => u.cell? ⟨w.heap.size, 0, none⟩ = some (.int .u64 s.id) ∧ u.cell? ⟨w.heap.size, 1, none⟩ = some (.int .u64 s.cu) ∧ u.cell? ⟨w.heap.size, 2, none⟩ = some (.int .u64 s.pl) ∧ u.cell? ⟨w.heap.size, 3, none⟩ = some (.int .i64 s.c.s) ∧ u.cell? ⟨w.heap.size, 4, none⟩ = some (.int .i64 s.c.a) ∧ u.cell? ⟨w.heap.size, 5, none⟩ = some (.int .i64 s.c.e) ∧ u.cell? ⟨w.heap.size, 6, none⟩ = some (.int .i64 s.p) ∧ u.cell? ⟨w.heap.size, 7, none⟩ = some (.int .i64 kk) ∧ u.cell? ⟨w.heap.size, 8, none⟩ = some (.int .i64 s.s) ∧ u.cell? ⟨w.heap.size, 9, none⟩ = some (.int .i64 s.e) ∧ Ex w (s.after i) u)
          (first | exact ex_pack hkk (Mx.x (by assumption)) | exact ex_pack hkk (Mx.x (Mx.drew (by assumption))) | exact ex_pack hkk (Mx.x (Mx.alloc (by assumption) _)) | exact ex_pack hkk (Ax.x (by assumption)))
          (first | (go_at_call 30; (try go_split_ands); refine (KE.out _).mono ?_; rintro e u1 ⟨rfl, hb1⟩; have J := Mx.later (by assumption) hb1; clear hb1) | (go_at_call 22; (try go_split_ands); refine (KO.out _).mono ?_; rintro e u2 ⟨rfl, hb2⟩; have J := Mx.later (by assumption) hb2; clear hb2) | (refine step_bill rfl _ _ rfl (va := va) (vc := vc) (by omega) (i := i) (x0 := kk) (x1 := fr) (x2 := ev) (x3 := q) HBI.out hB2' hgB rfl rfl (by assumption) ?_; intro v' w7 hA))
        have HA := Lib.hid hA
        clear hA x0 x1 x2 x3 x4 x5 x6 x7 x8 x9 xlt HX
        obtain ⟨x0, x1, x2, x3, x4, x5, x6, x7, x8, x9, xlt⟩ := Sx.of HA.out.x.s
        dsimp only [Sb.after] at x0 x1 x2 x3 x4 x5 x6 x7 x8 x9
        rw [hkk] at x7
        have f7 := HA.out.x.s.frozen 7
        go_wp2_with fail
        go_roundw
        case rel => exact ⟨i + 1, mx_next hkk HA.out hgw hB2', Lib.hid (fun j hj => by
          rcases Nat.lt_or_ge j i with h | h
          · exact hall.out j h
          · obtain rfl : j = i := by omega
            exact HNS.out), by omega, by omega⟩
        case measure =>
          rw [xm, World.cell?_setCell_same' _ _ _ (by rw [x7]; rfl)]
          simp [intOf]
          omega
      · have HNS := Lib.hid (show ¬ Stop s m today most i from fun hh => by have := HST.out.1 hh; omega)
        have q2 : decide (today < fr) = false := by simpa using a1
        have q3 : (s.e != 0) = true := by simpa using h0e
        have q4 : decide (s.e ≤ fr) = false := by simpa using a2
        have hse : s.e = 0 ∨ 1 ≤ s.e := Or.inr (by rcases HO.out.we with hw0 | hw0 <;> omega)
        have hen := en_bd (e := s.e) (n := nx) hse (by omega)
        have KE := Lib.hid (fun u => rend_c (s.after i) nx u)
        have KO := Lib.hid (fun u => ron_s (s.after i) (mo s.c m k) nx s.p fr (en s.e nx) u HO.out.c HMO.out (by omega) (by omega) hen.1 (by omega))
        rw [show (s.after i).e = s.e from rfl] at KE
        rw [show (s.after i).c = s.c from rfl] at KO
        obtain ⟨q, hq⟩ : ∃ q, onv s.p (nx - bg s.c (mo s.c m k) - (nx - fr)) (nx - bg s.c (mo s.c m k) - (nx - en s.e nx)) (nx - bg s.c (mo s.c m k)) = q := ⟨_, rfl⟩
        rw [hq] at KO
        have HBI := Lib.hid (show bill s m (s.b.toNat + i) = ⟨kk, fr, en s.e nx, q⟩ by rw [← hq, ← HFR.out, ← HNX.out, hkn.out, HKE.out]; rfl)
        obtain ⟨ev, hev⟩ : ∃ ev, en s.e nx = ev := ⟨_, rfl⟩
        rw [hev] at KE KO HBI hen
        unfold Sb.val Sb.cells at KE KO
        dsimp only [Sb.after] at KE KO
        rw [hkk] at KE KO
        clear hq hev
        clear h0e hse
        go_wp2_with fail
        go_region
        generalize hw5 : wr.drew = w5
        have HX5 := Lib.hid (show Mx w s m g N B2 i (.slice va i vc) w5 from hw5 ▸ HX.out.drew)
        have xm := x7
        clear hw5 x0 x1 x2 x3 x4 x5 x6 x7 x8 x9 xlt hl0 hl1 HX
        have HX := HX5
        clear HX5
        obtain ⟨x0, x1, x2, x3, x4, x5, x6, x7, x8, x9, xlt⟩ := Sx.of HX.out.x.s
        dsimp only [Sb.after] at x0 x1 x2 x3 x4 x5 x6 x7 x8 x9
        rw [hkk] at x7
        go_wp2_with fail
        have J0 := HX.out.drew
        go_region_held3 (fun u => u.cell? ⟨w.heap.size, 0, none⟩ = some (.int .u64 s.id) ∧ u.cell? ⟨w.heap.size, 1, none⟩ = some (.int .u64 s.cu) ∧ u.cell? ⟨w.heap.size, 2, none⟩ = some (.int .u64 s.pl) ∧ u.cell? ⟨w.heap.size, 3, none⟩ = some (.int .i64 s.c.s) ∧ u.cell? ⟨w.heap.size, 4, none⟩ = some (.int .i64 s.c.a) ∧ u.cell? ⟨w.heap.size, 5, none⟩ = some (.int .i64 s.c.e) ∧ u.cell? ⟨w.heap.size, 6, none⟩ = some (.int .i64 s.p) ∧ u.cell? ⟨w.heap.size, 7, none⟩ = some (.int .i64 kk) ∧ u.cell? ⟨w.heap.size, 8, none⟩ = some (.int .i64 s.s) ∧ u.cell? ⟨w.heap.size, 9, none⟩ = some (.int .i64 s.e) ∧ Ex w (s.after i) u)
          (first | exact ex_pack hkk (Mx.x (by assumption)) | exact ex_pack hkk (Mx.x (Mx.drew (by assumption))) | exact ex_pack hkk (Mx.x (Mx.alloc (by assumption) _)) | exact ex_pack hkk (Ax.x (by assumption)))
          (first | (go_at_call 30; (try go_split_ands); refine (KE.out _).mono ?_; rintro e u1 ⟨rfl, hb1⟩; have J := Mx.later (by assumption) hb1; clear hb1) | (go_at_call 22; (try go_split_ands); refine (KO.out _).mono ?_; rintro e u2 ⟨rfl, hb2⟩; have J := Mx.later (by assumption) hb2; clear hb2) | (refine step_bill rfl _ _ rfl (va := va) (vc := vc) (by omega) (i := i) (x0 := kk) (x1 := fr) (x2 := ev) (x3 := q) HBI.out hB2' hgB rfl rfl (by assumption) ?_; intro v' w7 hA))
        have HA := Lib.hid hA
        clear hA x0 x1 x2 x3 x4 x5 x6 x7 x8 x9 xlt HX
        obtain ⟨x0, x1, x2, x3, x4, x5, x6, x7, x8, x9, xlt⟩ := Sx.of HA.out.x.s
        dsimp only [Sb.after] at x0 x1 x2 x3 x4 x5 x6 x7 x8 x9
        rw [hkk] at x7
        have f7 := HA.out.x.s.frozen 7
        go_wp2_with fail
        go_roundw
        case rel => exact ⟨i + 1, mx_next hkk HA.out hgw hB2', Lib.hid (fun j hj => by
          rcases Nat.lt_or_ge j i with h | h
          · exact hall.out j h
          · obtain rfl : j = i := by omega
            exact HNS.out), by omega, by omega⟩
        case measure =>
          rw [xm, World.cell?_setCell_same' _ _ _ (by rw [x7]; rfl)]
          simp [intOf]
          omega
end Go.Proofs.YtjchecjonkmhgaaDoor.Su
