/- Package invoices: the known answers. (gen_inlaw.py writes this.) -/
import Derived.Test.YtaidijbjpogpeaaDoorInRef2
import Derived.Test.YtaidijbjpogpeaaDoorInRAges
import Derived.Test.YtaidijbjpogpeaaDoorArr5
namespace Go.Proofs.YtaidijbjpogpeaaDoor.Inv
open Go.RowKit Cm
def hx : Iv := ⟨1, 1, 0, 10, 40, 10, 41, 100, 0, 0, 0⟩
theorem fits_x : hx.Fits := by constructor <;> (first | (constructor <;> decide))
theorem ok_x : hx.Ok := (okB_iff _).1 (by decide)
def hp : Iv := ⟨1, 1, 0, 10, 40, 10, 41, 100, 0, 60, 0⟩
theorem fits_p : hp.Fits := by constructor <;> (first | (constructor <;> decide))
theorem ok_p : hp.Ok := (okB_iff _).1 (by decide)
def hb : Iv := ⟨1, 1, 0, 10, 40, 10, 41, 100, 50, 50, 0⟩
theorem fits_b : hb.Fits := by constructor <;> (first | (constructor <;> decide))
def hl : Iv := ⟨1, 1, 0, 10, 40, 10, 41, 100, 0, 60, 40⟩
theorem fits_l : hl.Fits := by constructor <;> (first | (constructor <;> decide))
theorem k1 (w : World) : Calls Tryd.prog 9 #[(.agg #[.int .u64 1, .int .u64 1, .int .u64 0, .int .i64 10, .int .i64 40, .int .i64 10, .int .i64 41, .int .i64 100, .int .i64 0, .int .i64 0, .int .i64 0]), .int .i64 60] w fun e w' => e = .returned (.tuple #[(.agg #[.int .u64 1, .int .u64 1, .int .u64 0, .int .i64 10, .int .i64 40, .int .i64 10, .int .i64 41, .int .i64 100, .int .i64 0, .int .i64 60, .int .i64 0]), .int .i64 0]) ∧ Below w.heap.size w w' := by
  have h := Pay_c hx 60 w fits_x
  rw [show hx.payR 60 = (hp, 0) by rfl] at h
  exact h
theorem k2 (w : World) : Calls Tryd.prog 9 #[(.agg #[.int .u64 1, .int .u64 1, .int .u64 0, .int .i64 10, .int .i64 40, .int .i64 10, .int .i64 41, .int .i64 100, .int .i64 0, .int .i64 60, .int .i64 0]), .int .i64 41] w fun e w' => e = .returned (.tuple #[(.agg #[.int .u64 0, .int .u64 0, .int .u64 0, .int .i64 0, .int .i64 0, .int .i64 0, .int .i64 0, .int .i64 0, .int .i64 0, .int .i64 0, .int .i64 0]), .int .i64 9]) ∧ Below w.heap.size w w' := by
  have h := Pay_c hp 41 w fits_p
  rw [show hp.payR 41 = (Iv.zero, 9) by rfl] at h
  exact h
theorem k3 (w : World) : Calls Tryd.prog 7 #[(.agg #[.int .u64 1, .int .u64 1, .int .u64 0, .int .i64 10, .int .i64 40, .int .i64 10, .int .i64 41, .int .i64 100, .int .i64 0, .int .i64 60, .int .i64 0]), .int .i64 50] w fun e w' => e = .returned (.tuple #[(.agg #[.int .u64 1, .int .u64 1, .int .u64 0, .int .i64 10, .int .i64 40, .int .i64 10, .int .i64 41, .int .i64 100, .int .i64 50, .int .i64 50, .int .i64 0]), .int .i64 10, .int .i64 0]) ∧ Below w.heap.size w w' := by
  have h := Credit_c hp 50 w fits_p
  rw [show hp.creditR 50 = (hb, 10, 0) by rfl] at h
  exact h
theorem k4 (w : World) : Calls Tryd.prog 13 #[(.agg #[.int .u64 1, .int .u64 1, .int .u64 0, .int .i64 10, .int .i64 40, .int .i64 10, .int .i64 41, .int .i64 100, .int .i64 0, .int .i64 60, .int .i64 0])] w fun e w' => e = .returned (.tuple #[(.agg #[.int .u64 1, .int .u64 1, .int .u64 0, .int .i64 10, .int .i64 40, .int .i64 10, .int .i64 41, .int .i64 100, .int .i64 0, .int .i64 60, .int .i64 40]), .int .i64 40, .int .i64 0]) ∧ Below w.heap.size w w' := by
  have h := Lose_c hp w fits_p
  rw [show hp.loseR = (hl, 40, 0) by rfl] at h
  exact h
theorem k5 (w : World) : Calls Tryd.prog 16 #[(.agg #[.int .u64 1, .int .u64 1, .int .u64 0, .int .i64 10, .int .i64 40, .int .i64 10, .int .i64 41, .int .i64 100, .int .i64 0, .int .i64 60, .int .i64 0])] w fun e w' => e = .returned (.int .i64 40) ∧ Below w.heap.size w w' := by
  have h := open_c hp w fits_p
  rw [show hp.opn = 40 by rfl] at h
  exact h
theorem k6 (w : World) : Calls Tryd.prog 16 #[(.agg #[.int .u64 1, .int .u64 1, .int .u64 0, .int .i64 10, .int .i64 40, .int .i64 10, .int .i64 41, .int .i64 100, .int .i64 50, .int .i64 50, .int .i64 0])] w fun e w' => e = .returned (.int .i64 0) ∧ Below w.heap.size w w' := by
  have h := open_c hb w fits_b
  rw [show hb.opn = 0 by rfl] at h
  exact h
theorem k7 (w : World) (ht : Tab w) : Calls Tryd.prog 20 #[(.agg #[.int .u64 1, .int .u64 1, .int .u64 0, .int .i64 10, .int .i64 40, .int .i64 10, .int .i64 41, .int .i64 100, .int .i64 0, .int .i64 0, .int .i64 0]), .int .i64 71] w fun e w' => e = .returned (.tuple #[.int .i64 31, .int .i64 2, .int .i64 0]) ∧ Below w.heap.size w w' := by
  have h := late_c hx 71 w fits_x ht
  rw [show hx.lateR 71 = (31, 2, 0) by rfl] at h
  exact h
theorem two_ivs (w : World) : Ivs (w.alloc (.cells #[.int .u64 1, .int .u64 1, .int .u64 0, .int .i64 10, .int .i64 40, .int .i64 10, .int .i64 41, .int .i64 100, .int .i64 0, .int .i64 0, .int .i64 0, .int .u64 1, .int .u64 1, .int .u64 0, .int .i64 10, .int .i64 40, .int .i64 10, .int .i64 41, .int .i64 100, .int .i64 0, .int .i64 60, .int .i64 0] 24)) (some ⟨w.heap.size, 0, none⟩) [hx, hp] := by
  intro j hj
  refine ⟨w.heap.size, 0, rfl, by simp, ?_⟩
  have h : j = 0 ∨ j = 1 := by simp at hj; omega
  rcases h with rfl | rfl <;> refine ⟨?_, ?_, ?_, ?_, ?_, ?_, ?_, ?_, ?_, ?_, ?_⟩ <;> (rw [World.cell?_alloc_at _ _ _ _ rfl]; rfl)
theorem k8 (w : World) (ht : Tab w) : Calls Tryd.prog 22 #[.slice (some ⟨w.heap.size, 0, none⟩) 2 2, .int .i64 131] (w.alloc (.cells #[.int .u64 1, .int .u64 1, .int .u64 0, .int .i64 10, .int .i64 40, .int .i64 10, .int .i64 41, .int .i64 100, .int .i64 0, .int .i64 0, .int .i64 0, .int .u64 1, .int .u64 1, .int .u64 0, .int .i64 10, .int .i64 40, .int .i64 10, .int .i64 41, .int .i64 100, .int .i64 0, .int .i64 60, .int .i64 0] 24)) fun e w' => e = .returned (.tuple #[.agg #[.int .i64 0, .int .i64 0, .int .i64 0, .int .i64 0, .int .i64 140], .int .i64 0]) ∧ Below w.heap.size w w' := by
  have h := ages_m (some ⟨w.heap.size, 0, none⟩) 2 2 [hx, hp] 131 _ (two_ivs w) (by simp) (by intro x h; simp at h; rcases h with rfl | rfl; exact fits_x; exact fits_p) (by simp) (by
    intro j hj _
    have h : j = 0 ∨ j = 1 := by simp at hj; omega
    rcases h with rfl | rfl
    · exact ok_x
    · exact ok_p) (by intro h; simp at h) (by decide) (by decide) (ht.later ((Below.refl _ _).alloc (Nat.le_refl _) _))
  rw [show agesM [hx, hp] 131 2 = ([0, 0, 0, 0, 140], 0) by rfl] at h
  exact h.mono fun e w' ⟨a, b⟩ => ⟨a, then_below ((Below.refl _ w).alloc (Nat.le_refl _) _) b⟩
theorem eql5 (w : World) (a0 a1 a2 a3 a4 b0 b1 b2 b3 b4 : Int) : (binOp .eql 48 (.agg #[.int .i64 a0, .int .i64 a1, .int .i64 a2, .int .i64 a3, .int .i64 a4]) (.agg #[.int .i64 b0, .int .i64 b1, .int .i64 b2, .int .i64 b3, .int .i64 b4])).run Tryd.prog w =
      .ok (.bool ((a0 == b0) && ((a1 == b1) && ((a2 == b2) && ((a3 == b3) && (a4 == b4)))))) w :=
  run_eql5 w 48 2 Tryd.underlying48 Tryd.underlying2 (fun _ => by kernel_rfl) a0 a1 a2 a3 a4 b0 b1 b2 b3 b4
theorem boxl (n : Iv) (w : World) : IvAt w.heap.size n (w.alloc (.cells n.cells 24)) := IvAt.box n w
set_option maxRecDepth 100000 in
set_option maxHeartbeats 3200000 in
theorem head_c (w : World) (ht : Tab w) : Calls Tryd.prog 19 #[] w fun e w' => e = .returned (.bool true) ∧ Below w.heap.size w w' := by
  have K1 := Lib.hid k1
  have K2 := Lib.hid k2
  have K3 := Lib.hid k3
  have K4 := Lib.hid k4
  have K5 := Lib.hid k5
  have K6 := Lib.hid k6
  have K7 := Lib.hid k7
  have K8 := Lib.hid k8
  have HT := Lib.hid ht
  clear ht
  go_enter Tryd.func19, Tryd.ntmps19
  go_wp2_with fail
  have X0 := Lib.hid (boxl hx w)
  have B0 := Lib.hid ((Below.refl _ w).alloc (Nat.le_refl _) (.cells hx.cells 24))
  refine (K1.out _).mono ?_
  rintro e w1 ⟨rfl, b1⟩
  have X1 := Lib.hid (X0.out.later b1)
  have B1 := Lib.hid (then_below B0.out b1)
  clear b1
  go_wp2_with fail
  have Y1 := Lib.hid (X1.out.alloc (.cells hp.cells 24))
  have P1 := Lib.hid (boxl hp w1)
  have C1 := Lib.hid (below_alloc B1.out (.cells hp.cells 24))
  refine (K2.out _).mono ?_
  rintro e w2 ⟨rfl, b2⟩
  have X2 := Lib.hid (Y1.out.later b2)
  have P2 := Lib.hid (P1.out.later b2)
  have B2 := Lib.hid (then_below C1.out b2)
  clear b2
  obtain ⟨q0, q1, q2, q3, q4, q5, q6, q7, q8, q9, q10, qlt⟩ := P2.out
  simp only [hp] at q0 q1 q2 q3 q4 q5 q6 q7 q8 q9 q10
  go_wp2_with fail
  have X3 := Lib.hid (X2.out.alloc (.cells Iv.zero.cells 24))
  have P3 := Lib.hid (P2.out.alloc (.cells Iv.zero.cells 24))
  have B3 := Lib.hid (below_alloc B2.out (.cells Iv.zero.cells 24))
  clear q0 q1 q2 q3 q4 q5 q6 q7 q8 q9 q10 qlt
  refine (K3.out _).mono ?_
  rintro e w3 ⟨rfl, b3⟩
  have X4 := Lib.hid (X3.out.later b3)
  have P4 := Lib.hid (P3.out.later b3)
  have B4 := Lib.hid (then_below B3.out b3)
  clear b3
  obtain ⟨q0, q1, q2, q3, q4, q5, q6, q7, q8, q9, q10, qlt⟩ := P4.out
  simp only [hp] at q0 q1 q2 q3 q4 q5 q6 q7 q8 q9 q10
  go_wp2_with fail
  have Q5 := Lib.hid (boxl hb w3)
  have X5 := Lib.hid (X4.out.alloc (.cells hb.cells 24))
  have P5 := Lib.hid (P4.out.alloc (.cells hb.cells 24))
  have B5 := Lib.hid (below_alloc B4.out (.cells hb.cells 24))
  clear q0 q1 q2 q3 q4 q5 q6 q7 q8 q9 q10 qlt
  refine (K4.out _).mono ?_
  rintro e w4 ⟨rfl, b4⟩
  have Q6 := Lib.hid (Q5.out.later b4)
  have X6 := Lib.hid (X5.out.later b4)
  have P6 := Lib.hid (P5.out.later b4)
  have B6 := Lib.hid (then_below B5.out b4)
  clear b4
  obtain ⟨x0, x1, x2, x3, x4, x5, x6, x7, x8, x9, x10, xlt⟩ := X6.out
  simp only [hx] at x0 x1 x2 x3 x4 x5 x6 x7 x8 x9 x10
  go_wp2_with fail
  have L7 := Lib.hid (boxl hl w4)
  have Q7 := Lib.hid (Q6.out.alloc (.cells hl.cells 24))
  have X7 := Lib.hid (X6.out.alloc (.cells hl.cells 24))
  have P7 := Lib.hid (P6.out.alloc (.cells hl.cells 24))
  have B7 := Lib.hid (below_alloc B6.out (.cells hl.cells 24))
  have T7 := Lib.hid (HT.out.later B7.out)
  clear x0 x1 x2 x3 x4 x5 x6 x7 x8 x9 x10 xlt
  refine (K7.out _ T7.out).mono ?_
  rintro e w5 ⟨rfl, b5⟩
  have L8 := Lib.hid (L7.out.later b5)
  have Q8 := Lib.hid (Q7.out.later b5)
  have X8 := Lib.hid (X7.out.later b5)
  have P8 := Lib.hid (P7.out.later b5)
  have B8 := Lib.hid (then_below B7.out b5)
  have T8 := Lib.hid (HT.out.later B8.out)
  clear b5
  obtain ⟨x0, x1, x2, x3, x4, x5, x6, x7, x8, x9, x10, xlt⟩ := X8.out
  simp only [hx] at x0 x1 x2 x3 x4 x5 x6 x7 x8 x9 x10
  obtain ⟨q0, q1, q2, q3, q4, q5, q6, q7, q8, q9, q10, qlt⟩ := P8.out
  simp only [hp] at q0 q1 q2 q3 q4 q5 q6 q7 q8 q9 q10
  go_wp2_with fail
  refine (K8.out _ T8.out).mono ?_
  rintro e w6 ⟨rfl, b6⟩
  have L9 := Lib.hid ((L8.out.later b6).alloc (.cells #[.int .i64 0, .int .i64 0, .int .i64 0, .int .i64 0, .int .i64 140] 48))
  have Q9 := Lib.hid ((Q8.out.later b6).alloc (.cells #[.int .i64 0, .int .i64 0, .int .i64 0, .int .i64 0, .int .i64 140] 48))
  have P9 := Lib.hid ((P8.out.later b6).alloc (.cells #[.int .i64 0, .int .i64 0, .int .i64 0, .int .i64 0, .int .i64 140] 48))
  have B9 := Lib.hid (below_alloc (then_below B8.out b6) (.cells #[.int .i64 0, .int .i64 0, .int .i64 0, .int .i64 0, .int .i64 140] 48))
  have b6' := Lib.hid b6
  clear b6
  clear x0 x1 x2 x3 x4 x5 x6 x7 x8 x9 x10 xlt q0 q1 q2 q3 q4 q5 q6 q7 q8 q9 q10 qlt
  have P6' := Lib.hid (P8.out.later b6'.out)
  have G9 := Lib.hid (row_new w6 (vals [0, 0, 0, 0, 140]) 48)
  obtain ⟨q0, q1, q2, q3, q4, q5, q6, q7, q8, q9, q10, qlt⟩ := P6'.out
  simp only [hp] at q0 q1 q2 q3 q4 q5 q6 q7 q8 q9 q10
  go_wp2_with fail
  clear q0 q1 q2 q3 q4 q5 q6 q7 q8 q9 q10 qlt
  refine (K5.out _).mono ?_
  rintro e w7 ⟨rfl, b7⟩
  have La := Lib.hid (L9.out.later b7)
  have Qa := Lib.hid (Q9.out.later b7)
  have Ga := Lib.hid (G9.out.later b7)
  have Ba := Lib.hid (then_below B9.out b7)
  clear b7
  obtain ⟨r0, r1, r2, r3, r4, r5, r6, r7, r8, r9, r10, rlt⟩ := Qa.out
  simp only [hb] at r0 r1 r2 r3 r4 r5 r6 r7 r8 r9 r10
  go_wp2_with fail
  clear r0 r1 r2 r3 r4 r5 r6 r7 r8 r9 r10 rlt
  refine (K6.out _).mono ?_
  rintro e w8 ⟨rfl, b8⟩
  have Lb := Lib.hid (La.out.later b8)
  have Gb := Lib.hid (Ga.out.later b8)
  have Bb := Lib.hid (then_below Ba.out b8)
  clear b8
  have s10 := Lb.out.c10
  simp only [hl] at s10
  have g0 := Gb.out.cell 0 (by simp [vals])
  have g1 := Gb.out.cell 1 (by simp [vals])
  have g2 := Gb.out.cell 2 (by simp [vals])
  have g3 := Gb.out.cell 3 (by simp [vals])
  have g4 := Gb.out.cell 4 (by simp [vals])
  simp only [vals, List.map_cons, List.map_nil, List.getElem_cons_zero, List.getElem_cons_succ] at g0 g1 g2 g3 g4
  have hq := eql5
  go_wp2_with fail
  go_ret
  exact ⟨rfl, Bb.out⟩
end Go.Proofs.YtaidijbjpogpeaaDoor.Inv
