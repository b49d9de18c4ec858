/- Package subs: Change and Cancel, what both sides share. -/
import Derived.Test.YtjchecjonkmhgaaDoorSuCon
namespace Go.Proofs.YtjchecjonkmhgaaDoor.Su
open Go.RowKit Pr Cw An Rf
theorem res_chg {W : World} {tmps : Array Value} {B : Nat} {x0 x1 x2 x3 x4 x5 x6 x7 x8 x9 y0 y1 y2 y3 : Value} {z : Int} (h6 : tmps[6]?.getD undef = .pointer (some ⟨B, 0, Option.none⟩)) (h7 : tmps[7]?.getD undef = .pointer (some ⟨B + 1, 0, Option.none⟩)) (h8 : tmps[8]?.getD undef = .int .i64 z)
    (h : Blk W B #[x0, x1, x2, x3, x4, x5, x6, x7, x8, x9] 26) (k : Blk W (B + 1) #[y0, y1, y2, y3] 45) :
    (results Tryd.f17 tmps).run Tryd.prog W = .ok (.tuple #[.agg #[x0, x1, x2, x3, x4, x5, x6, x7, x8, x9], .agg #[y0, y1, y2, y3], .int .i64 z]) W := by
  have q0 : W.cell? ⟨B, 0, Option.none⟩ = some x0 := h.cell 0
  have q1 : W.cell? ⟨B, 1, Option.none⟩ = some x1 := h.cell 1
  have q2 : W.cell? ⟨B, 2, Option.none⟩ = some x2 := h.cell 2
  have q3 : W.cell? ⟨B, 3, Option.none⟩ = some x3 := h.cell 3
  have q4 : W.cell? ⟨B, 4, Option.none⟩ = some x4 := h.cell 4
  have q5 : W.cell? ⟨B, 5, Option.none⟩ = some x5 := h.cell 5
  have q6 : W.cell? ⟨B, 6, Option.none⟩ = some x6 := h.cell 6
  have q7 : W.cell? ⟨B, 7, Option.none⟩ = some x7 := h.cell 7
  have q8 : W.cell? ⟨B, 8, Option.none⟩ = some x8 := h.cell 8
  have q9 : W.cell? ⟨B, 9, Option.none⟩ = some x9 := h.cell 9
  have r0 : W.cell? ⟨B + 1, 0, Option.none⟩ = some y0 := k.cell 0
  have r1 : W.cell? ⟨B + 1, 1, Option.none⟩ = some y1 := k.cell 1
  have r2 : W.cell? ⟨B + 1, 2, Option.none⟩ = some y2 := k.cell 2
  have r3 : W.cell? ⟨B + 1, 3, Option.none⟩ = some y3 := k.cell 3
  simp [results, Tryd.results17, go_sem, h6, h7, h8, q0, q1, q2, q3, q4, q5, q6, q7, q8, q9, r0, r1, r2, r3]
theorem res_rchg {W : World} {tmps : Array Value} {B : Nat} {x0 x1 x2 x3 x4 x5 x6 x7 x8 x9 y0 y1 y2 y3 : Value} {z : Int} (h6 : tmps[6]?.getD undef = .pointer (some ⟨B, 0, Option.none⟩)) (h7 : tmps[7]?.getD undef = .pointer (some ⟨B + 1, 0, Option.none⟩)) (h8 : tmps[8]?.getD undef = .int .i64 z)
    (h : Blk W B #[x0, x1, x2, x3, x4, x5, x6, x7, x8, x9] 26) (k : Blk W (B + 1) #[y0, y1, y2, y3] 45) :
    (results Tryd.f18 tmps).run Tryd.prog W = .ok (.tuple #[.agg #[x0, x1, x2, x3, x4, x5, x6, x7, x8, x9], .agg #[y0, y1, y2, y3], .int .i64 z]) W := by
  have q0 : W.cell? ⟨B, 0, Option.none⟩ = some x0 := h.cell 0
  have q1 : W.cell? ⟨B, 1, Option.none⟩ = some x1 := h.cell 1
  have q2 : W.cell? ⟨B, 2, Option.none⟩ = some x2 := h.cell 2
  have q3 : W.cell? ⟨B, 3, Option.none⟩ = some x3 := h.cell 3
  have q4 : W.cell? ⟨B, 4, Option.none⟩ = some x4 := h.cell 4
  have q5 : W.cell? ⟨B, 5, Option.none⟩ = some x5 := h.cell 5
  have q6 : W.cell? ⟨B, 6, Option.none⟩ = some x6 := h.cell 6
  have q7 : W.cell? ⟨B, 7, Option.none⟩ = some x7 := h.cell 7
  have q8 : W.cell? ⟨B, 8, Option.none⟩ = some x8 := h.cell 8
  have q9 : W.cell? ⟨B, 9, Option.none⟩ = some x9 := h.cell 9
  have r0 : W.cell? ⟨B + 1, 0, Option.none⟩ = some y0 := k.cell 0
  have r1 : W.cell? ⟨B + 1, 1, Option.none⟩ = some y1 := k.cell 1
  have r2 : W.cell? ⟨B + 1, 2, Option.none⟩ = some y2 := k.cell 2
  have r3 : W.cell? ⟨B + 1, 3, Option.none⟩ = some y3 := k.cell 3
  simp [results, Tryd.results18, go_sem, h6, h7, h8, q0, q1, q2, q3, q4, q5, q6, q7, q8, q9, r0, r1, r2, r3]
theorem res_can {W : World} {tmps : Array Value} {B : Nat} {x0 x1 x2 x3 x4 x5 x6 x7 x8 x9 y0 y1 y2 y3 : Value} {z : Int} (h6 : tmps[6]?.getD undef = .pointer (some ⟨B, 0, Option.none⟩)) (h7 : tmps[7]?.getD undef = .pointer (some ⟨B + 1, 0, Option.none⟩)) (h8 : tmps[8]?.getD undef = .int .i64 z)
    (h : Blk W B #[x0, x1, x2, x3, x4, x5, x6, x7, x8, x9] 26) (k : Blk W (B + 1) #[y0, y1, y2, y3] 45) :
    (results Tryd.f19 tmps).run Tryd.prog W = .ok (.tuple #[.agg #[x0, x1, x2, x3, x4, x5, x6, x7, x8, x9], .agg #[y0, y1, y2, y3], .int .i64 z]) W := by
  have q0 : W.cell? ⟨B, 0, Option.none⟩ = some x0 := h.cell 0
  have q1 : W.cell? ⟨B, 1, Option.none⟩ = some x1 := h.cell 1
  have q2 : W.cell? ⟨B, 2, Option.none⟩ = some x2 := h.cell 2
  have q3 : W.cell? ⟨B, 3, Option.none⟩ = some x3 := h.cell 3
  have q4 : W.cell? ⟨B, 4, Option.none⟩ = some x4 := h.cell 4
  have q5 : W.cell? ⟨B, 5, Option.none⟩ = some x5 := h.cell 5
  have q6 : W.cell? ⟨B, 6, Option.none⟩ = some x6 := h.cell 6
  have q7 : W.cell? ⟨B, 7, Option.none⟩ = some x7 := h.cell 7
  have q8 : W.cell? ⟨B, 8, Option.none⟩ = some x8 := h.cell 8
  have q9 : W.cell? ⟨B, 9, Option.none⟩ = some x9 := h.cell 9
  have r0 : W.cell? ⟨B + 1, 0, Option.none⟩ = some y0 := k.cell 0
  have r1 : W.cell? ⟨B + 1, 1, Option.none⟩ = some y1 := k.cell 1
  have r2 : W.cell? ⟨B + 1, 2, Option.none⟩ = some y2 := k.cell 2
  have r3 : W.cell? ⟨B + 1, 3, Option.none⟩ = some y3 := k.cell 3
  simp [results, Tryd.results19, go_sem, h6, h7, h8, q0, q1, q2, q3, q4, q5, q6, q7, q8, q9, r0, r1, r2, r3]
theorem res_rcan {W : World} {tmps : Array Value} {B : Nat} {x0 x1 x2 x3 x4 x5 x6 x7 x8 x9 y0 y1 y2 y3 : Value} {z : Int} (h6 : tmps[6]?.getD undef = .pointer (some ⟨B, 0, Option.none⟩)) (h7 : tmps[7]?.getD undef = .pointer (some ⟨B + 1, 0, Option.none⟩)) (h8 : tmps[8]?.getD undef = .int .i64 z)
    (h : Blk W B #[x0, x1, x2, x3, x4, x5, x6, x7, x8, x9] 26) (k : Blk W (B + 1) #[y0, y1, y2, y3] 45) :
    (results Tryd.f20 tmps).run Tryd.prog W = .ok (.tuple #[.agg #[x0, x1, x2, x3, x4, x5, x6, x7, x8, x9], .agg #[y0, y1, y2, y3], .int .i64 z]) W := by
  have q0 : W.cell? ⟨B, 0, Option.none⟩ = some x0 := h.cell 0
  have q1 : W.cell? ⟨B, 1, Option.none⟩ = some x1 := h.cell 1
  have q2 : W.cell? ⟨B, 2, Option.none⟩ = some x2 := h.cell 2
  have q3 : W.cell? ⟨B, 3, Option.none⟩ = some x3 := h.cell 3
  have q4 : W.cell? ⟨B, 4, Option.none⟩ = some x4 := h.cell 4
  have q5 : W.cell? ⟨B, 5, Option.none⟩ = some x5 := h.cell 5
  have q6 : W.cell? ⟨B, 6, Option.none⟩ = some x6 := h.cell 6
  have q7 : W.cell? ⟨B, 7, Option.none⟩ = some x7 := h.cell 7
  have q8 : W.cell? ⟨B, 8, Option.none⟩ = some x8 := h.cell 8
  have q9 : W.cell? ⟨B, 9, Option.none⟩ = some x9 := h.cell 9
  have r0 : W.cell? ⟨B + 1, 0, Option.none⟩ = some y0 := k.cell 0
  have r1 : W.cell? ⟨B + 1, 1, Option.none⟩ = some y1 := k.cell 1
  have r2 : W.cell? ⟨B + 1, 2, Option.none⟩ = some y2 := k.cell 2
  have r3 : W.cell? ⟨B + 1, 3, Option.none⟩ = some y3 := k.cell 3
  simp [results, Tryd.results20, go_sem, h6, h7, h8, q0, q1, q2, q3, q4, q5, q6, q7, q8, q9, r0, r1, r2, r3]
/-- A turn. -/
structure Tn where
  f : Int
  n : Int
  c : Int
  a : Int
abbrev Tn.val (x : Tn) : Value := .agg #[.int .i64 x.f, .int .i64 x.n, .int .i64 x.c, .int .i64 x.a]
def Tn.none : Tn := ⟨0, 0, 0, 0⟩
/-- The results' blocks. -/
structure Ox (B : Nat) (W : World) : Prop where
  r : Blk W B Sb.none.cells 26
  x : Blk W (B + 1) #[.int .i64 0, .int .i64 0, .int .i64 0, .int .i64 0] 45
theorem Ox.later {B : Nat} {W W' : World} (h : Ox B W) (k : Below W.heap.size W W') : Ox B W' := ⟨h.r.later k, h.x.later k⟩
theorem fin {W : World} {B : Nat} {t0 t1 t2 t3 : Value} (h : Blk W B Sb.none.cells 26) (k : Blk W (B + 1) #[t0, t1, t2, t3] 45) (x0 x1 x2 x3 x4 x5 x6 x7 x8 x9 y0 y1 y2 y3 : Value) :
    Blk ((((((((((((((W.setCell ⟨B, 0, Option.none⟩ x0).setCell ⟨B, 1, Option.none⟩ x1).setCell ⟨B, 2, Option.none⟩ x2).setCell ⟨B, 3, Option.none⟩ x3).setCell ⟨B, 4, Option.none⟩ x4).setCell ⟨B, 5, Option.none⟩ x5).setCell ⟨B, 6, Option.none⟩ x6).setCell ⟨B, 7, Option.none⟩ x7).setCell ⟨B, 8, Option.none⟩ x8).setCell ⟨B, 9, Option.none⟩ x9).setCell ⟨B + 1, 0, Option.none⟩ y0).setCell ⟨B + 1, 1, Option.none⟩ y1).setCell ⟨B + 1, 2, Option.none⟩ y2).setCell ⟨B + 1, 3, Option.none⟩ y3) B #[x0, x1, x2, x3, x4, x5, x6, x7, x8, x9] 26 ∧ Blk ((((((((((((((W.setCell ⟨B, 0, Option.none⟩ x0).setCell ⟨B, 1, Option.none⟩ x1).setCell ⟨B, 2, Option.none⟩ x2).setCell ⟨B, 3, Option.none⟩ x3).setCell ⟨B, 4, Option.none⟩ x4).setCell ⟨B, 5, Option.none⟩ x5).setCell ⟨B, 6, Option.none⟩ x6).setCell ⟨B, 7, Option.none⟩ x7).setCell ⟨B, 8, Option.none⟩ x8).setCell ⟨B, 9, Option.none⟩ x9).setCell ⟨B + 1, 0, Option.none⟩ y0).setCell ⟨B + 1, 1, Option.none⟩ y1).setCell ⟨B + 1, 2, Option.none⟩ y2).setCell ⟨B + 1, 3, Option.none⟩ y3) (B + 1) #[y0, y1, y2, y3] 45 := by
  have hne : B ≠ B + 1 := by omega
  have h10 := h.ten x0 x1 x2 x3 x4 x5 x6 x7 x8 x9
  have k10 : Blk ((((((((((W.setCell ⟨B, 0, Option.none⟩ x0).setCell ⟨B, 1, Option.none⟩ x1).setCell ⟨B, 2, Option.none⟩ x2).setCell ⟨B, 3, Option.none⟩ x3).setCell ⟨B, 4, Option.none⟩ x4).setCell ⟨B, 5, Option.none⟩ x5).setCell ⟨B, 6, Option.none⟩ x6).setCell ⟨B, 7, Option.none⟩ x7).setCell ⟨B, 8, Option.none⟩ x8).setCell ⟨B, 9, Option.none⟩ x9) (B + 1) #[t0, t1, t2, t3] 45 := (ten_heap (W := W) (B := B) (j := B + 1) (by omega) x0 x1 x2 x3 x4 x5 x6 x7 x8 x9).trans k
  exact ⟨(((h10.other 0 y0 hne).other 1 y1 hne).other 2 y2 hne).other 3 y3 hne, k10.four y0 y1 y2 y3⟩
theorem fin_below {w W : World} {B : Nat} (h : Below w.heap.size w W) (hB : w.heap.size ≤ B) (x0 x1 x2 x3 x4 x5 x6 x7 x8 x9 y0 y1 y2 y3 : Value) : Below w.heap.size w ((((((((((((((W.setCell ⟨B, 0, Option.none⟩ x0).setCell ⟨B, 1, Option.none⟩ x1).setCell ⟨B, 2, Option.none⟩ x2).setCell ⟨B, 3, Option.none⟩ x3).setCell ⟨B, 4, Option.none⟩ x4).setCell ⟨B, 5, Option.none⟩ x5).setCell ⟨B, 6, Option.none⟩ x6).setCell ⟨B, 7, Option.none⟩ x7).setCell ⟨B, 8, Option.none⟩ x8).setCell ⟨B, 9, Option.none⟩ x9).setCell ⟨B + 1, 0, Option.none⟩ y0).setCell ⟨B + 1, 1, Option.none⟩ y1).setCell ⟨B + 1, 2, Option.none⟩ y2).setCell ⟨B + 1, 3, Option.none⟩ y3) :=
  below_four (below_ten h hB x0 x1 x2 x3 x4 x5 x6 x7 x8 x9) (by omega) y0 y1 y2 y3
/-- The blocks of a call: the subscription's, the results'. -/
structure Gx (w : World) (s : Sb) (B : Nat) (W : World) : Prop where
  s : Blk W w.heap.size s.cells 26
  o : Ox B W
  b : Below w.heap.size w W
theorem Gx.later {w : World} {s : Sb} {B : Nat} {W W' : World} (h : Gx w s B W) (k : Below W.heap.size W W') : Gx w s B W' := ⟨h.s.later k, h.o.later k, h.b.trans (k.mono h.b.size)⟩
abbrev zero4 : Array Value := #[.int .i64 0, .int .i64 0, .int .i64 0, .int .i64 0]
theorem gx_can (w : World) (s : Sb) : Gx w s (w.heap.size + 1) (((w.alloc (.cells s.cells 26)).alloc (.cells Sb.none.cells 26)).alloc (.cells zero4 45)) := by
  refine ⟨((Blk.new w _ _).alloc _).alloc _, ⟨?_, ?_⟩, (((Below.refl _ w).alloc (Nat.le_refl _) _).alloc (by simp) _).alloc (by simp; omega) _⟩
  · have := (Blk.new (w.alloc (.cells s.cells 26)) Sb.none.cells 26).alloc (.cells zero4 45)
    rwa [World.size_alloc] at this
  · have := Blk.new ((w.alloc (.cells s.cells 26)).alloc (.cells Sb.none.cells 26)) zero4 45
    rwa [World.size_alloc, World.size_alloc] at this
theorem gx_chg (w : World) (s : Sb) (tp tq : Int) : Gx w s (w.heap.size + 1 + 1) ((((w.alloc (.cells s.cells 26)).alloc (.cells #[.int .u64 tp, .int .i64 tq] 43)).alloc (.cells Sb.none.cells 26)).alloc (.cells zero4 45)) ∧
    Blk ((((w.alloc (.cells s.cells 26)).alloc (.cells #[.int .u64 tp, .int .i64 tq] 43)).alloc (.cells Sb.none.cells 26)).alloc (.cells zero4 45)) (w.heap.size + 1) #[.int .u64 tp, .int .i64 tq] 43 := by
  refine ⟨⟨(((Blk.new w _ _).alloc _).alloc _).alloc _, ⟨?_, ?_⟩, ((((Below.refl _ w).alloc (Nat.le_refl _) _).alloc (by simp) _).alloc (by simp; omega) _).alloc (by simp; omega) _⟩, ?_⟩
  · have := (Blk.new ((w.alloc (.cells s.cells 26)).alloc (.cells #[.int .u64 tp, .int .i64 tq] 43)) Sb.none.cells 26).alloc (.cells zero4 45)
    rwa [World.size_alloc, World.size_alloc] at this
  · have := Blk.new (((w.alloc (.cells s.cells 26)).alloc (.cells #[.int .u64 tp, .int .i64 tq] 43)).alloc (.cells Sb.none.cells 26)) zero4 45
    rwa [World.size_alloc, World.size_alloc, World.size_alloc] at this
  · have := ((Blk.new (w.alloc (.cells s.cells 26)) #[.int .u64 tp, .int .i64 tq] 43).alloc (.cells Sb.none.cells 26)).alloc (.cells zero4 45)
    rwa [World.size_alloc] at this
def NoRes (z : Int) (w : World) (e : Ending) (w' : World) : Prop := e = .returned (.tuple #[Sb.none.val, Tn.none.val, .int .i64 z]) ∧ Below w.heap.size w w'
/-- A change may be. -/
def Chg (s : Sb) (m day : Int) (k : Nat) : Prop := Per s.c m day k ∧ s.b = (k : Int) + 1 ∧ day < en s.e (bnd s.c m (k + 1)) ∧ s.s ≤ day
def Sb.turned (s : Sb) (tp tq day : Int) : Sb := { s with pl := tp, p := tq, s := day }
def turnOf (s : Sb) (m day tq : Int) (k : Nat) : Tn := ⟨day, en s.e (bnd s.c m (k + 1)), amt s.c m k s.p day (en s.e (bnd s.c m (k + 1))), amt s.c m k tq day (en s.e (bnd s.c m (k + 1)))⟩
/-- What Change tells. -/
def ChgRes (s : Sb) (m day tp tq : Int) (w : World) (e : Ending) (w' : World) : Prop :=
  ((∃ k, Chg s m day k ∧ e = .returned (.tuple #[(s.turned tp tq day).val, (turnOf s m day tq k).val, .int .i64 0])) ∨ ((∀ k, ¬ Chg s m day k) ∧ e = .returned (.tuple #[Sb.none.val, Tn.none.val, .int .i64 9]))) ∧ Below w.heap.size w w'
end Go.Proofs.YtjchecjonkmhgaaDoor.Su
