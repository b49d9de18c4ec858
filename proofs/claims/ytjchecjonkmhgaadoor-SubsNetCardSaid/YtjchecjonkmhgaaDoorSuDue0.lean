/- Package subs: Due, what is refused; what a call of it keeps. -/
import Derived.Test.YtjchecjonkmhgaaDoorSuYield
namespace Go.Proofs.YtjchecjonkmhgaaDoor.Su
open Go.RowKit Go.Shelf Pr Cw An Rf
/-- No subscription. -/
def Sb.none : Sb := ⟨0, 0, 0, ⟨0, 0, 0⟩, 0, 0, 0, 0⟩
theorem res_due {W : World} {tmps : Array Value} {B : Nat} {v a0 a1 a2 a3 a4 a5 a6 a7 a8 a9 : Value} {z : Int} (h6 : tmps[6]?.getD undef = v) (h7 : tmps[7]?.getD undef = .pointer (some ⟨B, 0, none⟩)) (h8 : tmps[8]?.getD undef = .int .i64 z)
    (h : Blk W B #[a0, a1, a2, a3, a4, a5, a6, a7, a8, a9] 26) :
    (results Tryd.f9 tmps).run Tryd.prog W = .ok (.tuple #[v, .agg #[a0, a1, a2, a3, a4, a5, a6, a7, a8, a9], .int .i64 z]) W := by
  have q0 : W.cell? ⟨B, 0, Option.none⟩ = some a0 := h.cell 0
  have q1 : W.cell? ⟨B, 1, Option.none⟩ = some a1 := h.cell 1
  have q2 : W.cell? ⟨B, 2, Option.none⟩ = some a2 := h.cell 2
  have q3 : W.cell? ⟨B, 3, Option.none⟩ = some a3 := h.cell 3
  have q4 : W.cell? ⟨B, 4, Option.none⟩ = some a4 := h.cell 4
  have q5 : W.cell? ⟨B, 5, Option.none⟩ = some a5 := h.cell 5
  have q6 : W.cell? ⟨B, 6, Option.none⟩ = some a6 := h.cell 6
  have q7 : W.cell? ⟨B, 7, Option.none⟩ = some a7 := h.cell 7
  have q8 : W.cell? ⟨B, 8, Option.none⟩ = some a8 := h.cell 8
  have q9 : W.cell? ⟨B, 9, Option.none⟩ = some a9 := h.cell 9
  simp [results, Tryd.results9, go_sem, h6, h7, h8, q0, q1, q2, q3, q4, q5, q6, q7, q8, q9]
theorem Sx.of {g : Nat} {s : Sb} {w : World} {t : TypeId} (h : Blk w g s.cells t) : Sx g s w :=
  ⟨h.cell 0, h.cell 1, h.cell 2, h.cell 3, h.cell 4, h.cell 5, h.cell 6, h.cell 7, h.cell 8, h.cell 9, h.lt⟩
/-- The blocks of a call: the subscription's, two numbers', the result's. -/
structure Dx (w : World) (s : Sb) (today most : Int) (W : World) : Prop where
  s : Blk W w.heap.size s.cells 26
  t : Blk W (w.heap.size + 1) #[.int .i64 today] 3
  m : Blk W (w.heap.size + 2) #[.int .i64 most] 3
  r : Blk W (w.heap.size + 3) Sb.none.cells 26
  b : Below w.heap.size w W
theorem Dx.later {w : World} {s : Sb} {today most : Int} {W W' : World} (h : Dx w s today most W) (k : Below W.heap.size W W') : Dx w s today most W' :=
  ⟨h.s.later k, h.t.later k, h.m.later k, h.r.later k, h.b.trans (k.mono h.b.size)⟩
theorem Dx.drew {w : World} {s : Sb} {today most : Int} {W : World} (h : Dx w s today most W) : Dx w s today most W.drew := ⟨h.s, h.t, h.m, h.r, h.b.drew⟩
theorem dx_new (w : World) (s : Sb) (today most : Int) :
    Dx w s today most ((((w.alloc (.cells s.cells 26)).alloc (.cells #[.int .i64 today] 3)).alloc (.cells #[.int .i64 most] 3)).alloc (.cells Sb.none.cells 26)) := by
  refine ⟨(((Blk.new w _ _).alloc _).alloc _).alloc _, ?_, ?_, ?_, (((Below.refl _ w).alloc (Nat.le_refl _) _).alloc (by simp) _).alloc (by simp; omega) _ |>.alloc (by simp; omega) _⟩
  · have := ((Blk.new (w.alloc (.cells s.cells 26)) #[.int .i64 today] 3).alloc (.cells #[.int .i64 most] 3)).alloc (.cells Sb.none.cells 26)
    rwa [World.size_alloc] at this
  · have := (Blk.new ((w.alloc (.cells s.cells 26)).alloc (.cells #[.int .i64 today] 3)) #[.int .i64 most] 3).alloc (.cells Sb.none.cells 26)
    rwa [World.size_alloc, World.size_alloc] at this
  · have := Blk.new (((w.alloc (.cells s.cells 26)).alloc (.cells #[.int .i64 today] 3)).alloc (.cells #[.int .i64 most] 3)) Sb.none.cells 26
    rwa [World.size_alloc, World.size_alloc, World.size_alloc] at this
/-- What a walk reads of them. -/
theorem Dx.reads {w : World} {s : Sb} {today most : Int} {W : World} (h : Dx w s today most W) :
    Sx w.heap.size s W ∧ W.cell? ⟨w.heap.size + 1, 0, Option.none⟩ = some (.int .i64 today) ∧ W.cell? ⟨w.heap.size + 2, 0, Option.none⟩ = some (.int .i64 most) := ⟨Sx.of h.s, h.t.cell 0, h.m.cell 0⟩
/-- That the result's cells may be written. -/
theorem Dx.writes {w : World} {s : Sb} {today most : Int} {W : World} (h : Dx w s today most W) :
    W.cell? ⟨w.heap.size + 3, 0, Option.none⟩ = some (.int .u64 0) ∧ W.cell? ⟨w.heap.size + 3, 1, Option.none⟩ = some (.int .u64 0) ∧ W.cell? ⟨w.heap.size + 3, 2, Option.none⟩ = some (.int .u64 0) ∧ W.cell? ⟨w.heap.size + 3, 3, Option.none⟩ = some (.int .i64 0) ∧ W.cell? ⟨w.heap.size + 3, 4, Option.none⟩ = some (.int .i64 0) ∧
    W.cell? ⟨w.heap.size + 3, 5, Option.none⟩ = some (.int .i64 0) ∧ W.cell? ⟨w.heap.size + 3, 6, Option.none⟩ = some (.int .i64 0) ∧ W.cell? ⟨w.heap.size + 3, 7, Option.none⟩ = some (.int .i64 0) ∧ W.cell? ⟨w.heap.size + 3, 8, Option.none⟩ = some (.int .i64 0) ∧ W.cell? ⟨w.heap.size + 3, 9, Option.none⟩ = some (.int .i64 0) ∧
    (W.frozen? ⟨w.heap.size + 3, 0, Option.none⟩ = false ∧ W.frozen? ⟨w.heap.size + 3, 1, Option.none⟩ = false ∧ W.frozen? ⟨w.heap.size + 3, 2, Option.none⟩ = false ∧ W.frozen? ⟨w.heap.size + 3, 3, Option.none⟩ = false ∧ W.frozen? ⟨w.heap.size + 3, 4, Option.none⟩ = false ∧
    W.frozen? ⟨w.heap.size + 3, 5, Option.none⟩ = false ∧ W.frozen? ⟨w.heap.size + 3, 6, Option.none⟩ = false ∧ W.frozen? ⟨w.heap.size + 3, 7, Option.none⟩ = false ∧ W.frozen? ⟨w.heap.size + 3, 8, Option.none⟩ = false ∧ W.frozen? ⟨w.heap.size + 3, 9, Option.none⟩ = false) :=
  ⟨h.r.cell 0, h.r.cell 1, h.r.cell 2, h.r.cell 3, h.r.cell 4, h.r.cell 5, h.r.cell 6, h.r.cell 7, h.r.cell 8, h.r.cell 9, h.r.frozen 0, h.r.frozen 1, h.r.frozen 2, h.r.frozen 3, h.r.frozen 4, h.r.frozen 5, h.r.frozen 6, h.r.frozen 7, h.r.frozen 8, h.r.frozen 9⟩
def DueNo (w : World) (e : Ending) (w' : World) : Prop := e = .returned (.tuple #[.slice Option.none 0 0, Sb.none.val, .int .i64 2]) ∧ Below w.heap.size w w'
set_option maxRecDepth 100000 in
set_option maxHeartbeats 1600000 in
theorem due_bad (s : Sb) (m today most : Int) (w : World) (hw : Tab w) (hf : s.Fits) (hin : s.c.Ok → In m s.c.s) (h : ¬ s.Ok m) :
    Calls Tryd.prog 9 #[s.val, .int .i64 today, .int .i64 most] w (DueNo w) := by
  have KC := Lib.hid (fun u hu => check_no s m u hu hf hin h)
  have HT := Lib.hid hw
  have D0 := Lib.hid (dx_new w s today most)
  go_enter Tryd.func9, Tryd.ntmps9
  unfold Sb.val Sb.cells
  go_wp2_with fail
  refine (KC.out _ (tab_later HT.out D0.out.b)).mono ?_
  rintro e w1 ⟨rfl, b1⟩
  have D1 := Lib.hid (D0.out.later b1)
  clear b1
  obtain ⟨y0, y1, y2, y3, y4, y5, y6, y7, y8, y9, z0, z1, z2, z3, z4, z5, z6, z7, z8, z9⟩ := D1.out.writes
  go_wp2_with fail
  exact bodyPost_ret (res_due rfl rfl rfl (D1.out.r.ten _ _ _ _ _ _ _ _ _ _)) rfl ⟨rfl, below_ten D1.out.b (by omega) _ _ _ _ _ _ _ _ _ _⟩
set_option maxRecDepth 100000 in
set_option maxHeartbeats 1600000 in
theorem due_day (s : Sb) (m today most : Int) (w : World) (hw : Tab w) (hin : In m s.c.s) (h : s.Ok m) (hd : ¬ (1 ≤ today ∧ today ≤ 3652059)) :
    Calls Tryd.prog 9 #[s.val, .int .i64 today, .int .i64 most] w (DueNo w) := by
  have KC := Lib.hid (fun u hu => check_yes s m u hu hin h)
  have KD := Lib.hid (fun u => day_no today u hd)
  have HT := Lib.hid hw
  have D0 := Lib.hid (dx_new w s today most)
  clear hd
  go_enter Tryd.func9, Tryd.ntmps9
  unfold Sb.val Sb.cells
  go_wp2_with fail
  refine (KC.out _ (tab_later HT.out D0.out.b)).mono ?_
  rintro e w1 ⟨rfl, b1⟩
  have D1 := Lib.hid (D0.out.later b1)
  clear b1
  obtain ⟨hs, ht, hm⟩ := D1.out.reads
  obtain ⟨y0, y1, y2, y3, y4, y5, y6, y7, y8, y9, z0, z1, z2, z3, z4, z5, z6, z7, z8, z9⟩ := D1.out.writes
  go_wp2_with fail
  refine (KD.out _).mono ?_
  rintro e w2 ⟨rfl, rfl⟩
  go_wp2_with fail
  exact bodyPost_ret (res_due rfl rfl rfl (D1.out.r.ten _ _ _ _ _ _ _ _ _ _)) rfl ⟨rfl, below_ten D1.out.b (by omega) _ _ _ _ _ _ _ _ _ _⟩
set_option maxRecDepth 100000 in
set_option maxHeartbeats 1600000 in
theorem due_most (s : Sb) (m today most : Int) (w : World) (hw : Tab w) (hin : In m s.c.s) (h : s.Ok m) (hd : 1 ≤ today ∧ today ≤ 3652059) (hm : most < 1 ∨ (1 ≤ most ∧ 1000 < most)) :
    Calls Tryd.prog 9 #[s.val, .int .i64 today, .int .i64 most] w (DueNo w) := by
  have KC := Lib.hid (fun u hu => check_yes s m u hu hin h)
  have KD := Lib.hid (fun u => day_yes today u hd)
  have HT := Lib.hid hw
  have D0 := Lib.hid (dx_new w s today most)
  clear hd
  rcases hm with hm | ⟨hm1, hm2⟩
  all_goals
    go_enter Tryd.func9, Tryd.ntmps9
    unfold Sb.val Sb.cells
    go_wp2_with fail
    refine (KC.out _ (tab_later HT.out D0.out.b)).mono ?_
    rintro e w1 ⟨rfl, b1⟩
    have D1 := Lib.hid (D0.out.later b1)
    clear b1
    obtain ⟨hs, ht, hm⟩ := D1.out.reads
    obtain ⟨y0, y1, y2, y3, y4, y5, y6, y7, y8, y9, z0, z1, z2, z3, z4, z5, z6, z7, z8, z9⟩ := D1.out.writes
    go_wp2_with fail
    refine (KD.out _).mono ?_
    rintro e w2 ⟨rfl, rfl⟩
    go_wp2_with fail
    exact bodyPost_ret (res_due rfl rfl rfl (D1.out.r.ten _ _ _ _ _ _ _ _ _ _)) rfl ⟨rfl, below_ten D1.out.b (by omega) _ _ _ _ _ _ _ _ _ _⟩
end Go.Proofs.YtjchecjonkmhgaaDoor.Su
