/- Package subs: the document's Check. -/
import Derived.Test.YtjchecjonkmhgaaDoorSuCheck
namespace Go.Proofs.YtjchecjonkmhgaaDoor.Su
open Go.RowKit Pr Cw An
set_option maxHeartbeats 1600000 in
theorem rcheck_num (s : Sb) (w : World) (hf : s.Fits) (h : ¬ s.Num) : Calls Tryd.prog 15 #[s.val] w fun e w' => e = .returned (.int .i64 2) ∧ Below w.heap.size w w' := by
  have D0 := Lib.hid ((Below.refl _ w).alloc (Nat.le_refl _) (.cells s.cells 26))
  rcases Num.not hf h with h1 | ⟨h1, h2⟩ | ⟨h1, h2, h3⟩ | ⟨h1, h2, h3, h4⟩ | ⟨h1, h2, h3, h4, h5⟩ | ⟨h1, h2, h3, h4, h5, h6⟩ | ⟨h1, h2, h3, h4, h5, h6, h7⟩
  all_goals
    clear h hf
    go_enter Tryd.func15, Tryd.ntmps15
    unfold Sb.val Sb.cells
    go_wp2_with fail
    go_ret
    first | exact ⟨rfl, D0.out⟩ | exact ⟨rfl, (Below.refl _ w).alloc (Nat.le_refl _) _⟩
set_option maxHeartbeats 1600000 in
theorem rcheck_cycle (s : Sb) (w : World) (hn : s.Num) (k : ¬ s.c.Ok) : Calls Tryd.prog 15 #[s.val] w fun e w' => e = .returned (.int .i64 2) ∧ Below w.heap.size w w' := by
  have HX := Lib.hid (Sx.box s w 26)
  have D0 := Lib.hid ((Below.refl _ w).alloc (Nat.le_refl _) (.cells s.cells 26))
  have hid : 1 ≤ s.id := hn.id
  have hcu : 1 ≤ s.cu := hn.cu
  have hpl : 1 ≤ s.pl := hn.pl
  have hp0 : 0 ≤ s.p := hn.p0
  have hp1 : s.p < 4611686018427387904 := hn.p1
  have hb0 : 0 ≤ s.b := hn.b0
  have hb1 : s.b ≤ 2000 := hn.b1
  have j1 : (s.id == 0) = false := by simp; omega
  have j2 : (s.cu == 0) = false := by simp; omega
  have j3 : (s.pl == 0) = false := by simp; omega
  have j4 : decide (s.p < 0) = false := by simp; omega
  have j5 : decide (4611686018427387904 ≤ s.p) = false := by simp; omega
  have j6 : decide (s.b < 0) = false := by simp; omega
  have j7 : decide (2000 < s.b) = false := by simp; omega
  have KB := Lib.hid (fun u => rbound_no s.c s.b u (Or.inl k))
  clear k
  clear hn
  go_enter Tryd.func15, Tryd.ntmps15
  unfold Sb.val Sb.cells
  go_wp2_with fail
  refine (KB.out _).mono ?_
  rintro e w1 ⟨rfl, b1⟩
  have HX1 := Lib.hid (HX.out.later b1)
  have D1 := Lib.hid (then_below D0.out b1)
  clear b1
  go_wp2_with fail
  go_ret
  exact ⟨rfl, D1.out⟩
set_option maxHeartbeats 1600000 in
theorem rcheck_none (s : Sb) (w : World) (hn : s.Num) (m : Int) (k : s.c.Ok) (hin : In m s.c.s) (hh : ¬ Has s.c m s.b.toNat) : Calls Tryd.prog 15 #[s.val] w fun e w' => e = .returned (.int .i64 2) ∧ Below w.heap.size w w' := by
  have HX := Lib.hid (Sx.box s w 26)
  have D0 := Lib.hid ((Below.refl _ w).alloc (Nat.le_refl _) (.cells s.cells 26))
  have hid : 1 ≤ s.id := hn.id
  have hcu : 1 ≤ s.cu := hn.cu
  have hpl : 1 ≤ s.pl := hn.pl
  have hp0 : 0 ≤ s.p := hn.p0
  have hp1 : s.p < 4611686018427387904 := hn.p1
  have hb0 : 0 ≤ s.b := hn.b0
  have hb1 : s.b ≤ 2000 := hn.b1
  have j1 : (s.id == 0) = false := by simp; omega
  have j2 : (s.cu == 0) = false := by simp; omega
  have j3 : (s.pl == 0) = false := by simp; omega
  have j4 : decide (s.p < 0) = false := by simp; omega
  have j5 : decide (4611686018427387904 ≤ s.p) = false := by simp; omega
  have j6 : decide (s.b < 0) = false := by simp; omega
  have j7 : decide (2000 < s.b) = false := by simp; omega
  have KB := Lib.hid (fun u => rbnd_no s.c m s.b s.b.toNat (by omega) u k hin hh)
  clear k hin hh
  clear hn
  go_enter Tryd.func15, Tryd.ntmps15
  unfold Sb.val Sb.cells
  go_wp2_with fail
  refine (KB.out _).mono ?_
  rintro e w1 ⟨rfl, b1⟩
  have HX1 := Lib.hid (HX.out.later b1)
  have D1 := Lib.hid (then_below D0.out b1)
  clear b1
  go_wp2_with fail
  go_ret
  exact ⟨rfl, D1.out⟩
theorem Wi.cases (st d : Int) (z : Bool) (hz : wiB st d = z) : (d = 0 ∧ z = true) ∨ (d ≠ 0 ∧ dayB d = false ∧ z = false) ∨ (d ≠ 0 ∧ dayB d = true ∧ d < st ∧ z = false) ∨ (d ≠ 0 ∧ dayB d = true ∧ st ≤ d ∧ z = true) := by
  subst hz
  by_cases h0 : d = 0
  · subst h0
    exact Or.inl ⟨rfl, rfl⟩
  · cases hd : dayB d with
    | false => exact Or.inr (Or.inl ⟨h0, rfl, by simp [wiB, hd, h0]⟩)
    | true =>
      by_cases hs : st ≤ d
      · exact Or.inr (Or.inr (Or.inr ⟨h0, rfl, hs, by simp [wiB, hd, hs]⟩))
      · exact Or.inr (Or.inr (Or.inl ⟨h0, rfl, by omega, by simp [wiB, hd, h0, hs]⟩))
set_option maxHeartbeats 1600000 in
theorem rcheck_00 (s : Sb) (w : World) (hn : s.Num) (m : Int) (k : s.c.Ok) (hin : In m s.c.s) (hh : Has s.c m s.b.toNat) (h1 : s.s = 0)  (h2 : s.e = 0)  : Calls Tryd.prog 15 #[s.val] w fun e w' => e = .returned (.int .i64 0) ∧ Below w.heap.size w w' := by
  obtain ⟨sid, scu, spl, sc, sp, sb, ss, se⟩ := s
  dsimp only at *
  subst h1
  subst h2
  have HX := Lib.hid (Sx.box ⟨sid, scu, spl, sc, sp, sb, 0, 0⟩ w 26)
  have D0 := Lib.hid ((Below.refl _ w).alloc (Nat.le_refl _) (.cells (Sb.cells ⟨sid, scu, spl, sc, sp, sb, 0, 0⟩) 26))
  have hid : 1 ≤ sid := hn.id
  have hcu : 1 ≤ scu := hn.cu
  have hpl : 1 ≤ spl := hn.pl
  have hp0 : 0 ≤ sp := hn.p0
  have hp1 : sp < 4611686018427387904 := hn.p1
  have hb0 : 0 ≤ sb := hn.b0
  have hb1 : sb ≤ 2000 := hn.b1
  have j1 : (sid == 0) = false := by simp; omega
  have j2 : (scu == 0) = false := by simp; omega
  have j3 : (spl == 0) = false := by simp; omega
  have j4 : decide (sp < 0) = false := by simp; omega
  have j5 : decide (4611686018427387904 ≤ sp) = false := by simp; omega
  have j6 : decide (sb < 0) = false := by simp; omega
  have j7 : decide (2000 < sb) = false := by simp; omega
  have KB := Lib.hid (fun u => rbnd_yes sc m sb sb.toNat (by omega) u k hin hh)
  clear k hin hh
  clear hn
  go_enter Tryd.func15, Tryd.ntmps15
  unfold Sb.val Sb.cells
  go_wp2_with fail
  refine (KB.out _).mono ?_
  rintro e w1 ⟨rfl, b1⟩
  have HX1 := Lib.hid (HX.out.later b1)
  have D1 := Lib.hid (then_below D0.out b1)
  clear b1
  obtain ⟨c0, c1, c2, c3, c4, c5, c6, c7, c8, c9, clt⟩ := HX1.out
  dsimp only at c0 c1 c2 c3 c4 c5 c6 c7 c8 c9
  go_wp2_with fail
  go_ret
  exact ⟨rfl, D1.out⟩
set_option maxHeartbeats 1600000 in
theorem rcheck_0d (s : Sb) (w : World) (hn : s.Num) (m : Int) (k : s.c.Ok) (hin : In m s.c.s) (hh : Has s.c m s.b.toNat) (h1 : s.s = 0)  (h2 : s.e ≠ 0) (q2 : dayB s.e = false) : Calls Tryd.prog 15 #[s.val] w fun e w' => e = .returned (.int .i64 2) ∧ Below w.heap.size w w' := by
  obtain ⟨sid, scu, spl, sc, sp, sb, ss, se⟩ := s
  dsimp only at *
  subst h1
  have HX := Lib.hid (Sx.box ⟨sid, scu, spl, sc, sp, sb, 0, se⟩ w 26)
  have D0 := Lib.hid ((Below.refl _ w).alloc (Nat.le_refl _) (.cells (Sb.cells ⟨sid, scu, spl, sc, sp, sb, 0, se⟩) 26))
  have hid : 1 ≤ sid := hn.id
  have hcu : 1 ≤ scu := hn.cu
  have hpl : 1 ≤ spl := hn.pl
  have hp0 : 0 ≤ sp := hn.p0
  have hp1 : sp < 4611686018427387904 := hn.p1
  have hb0 : 0 ≤ sb := hn.b0
  have hb1 : sb ≤ 2000 := hn.b1
  have j1 : (sid == 0) = false := by simp; omega
  have j2 : (scu == 0) = false := by simp; omega
  have j3 : (spl == 0) = false := by simp; omega
  have j4 : decide (sp < 0) = false := by simp; omega
  have j5 : decide (4611686018427387904 ≤ sp) = false := by simp; omega
  have j6 : decide (sb < 0) = false := by simp; omega
  have j7 : decide (2000 < sb) = false := by simp; omega
  have KB := Lib.hid (fun u => rbnd_yes sc m sb sb.toNat (by omega) u k hin hh)
  clear k hin hh
  have KE := Lib.hid (fun u => rday_s se u _ q2)
  clear q2
  have i2 : (se != 0) = true := by simpa using h2
  clear hn
  go_enter Tryd.func15, Tryd.ntmps15
  unfold Sb.val Sb.cells
  go_wp2_with fail
  refine (KB.out _).mono ?_
  rintro e w1 ⟨rfl, b1⟩
  have HX1 := Lib.hid (HX.out.later b1)
  have D1 := Lib.hid (then_below D0.out b1)
  clear b1
  obtain ⟨c0, c1, c2, c3, c4, c5, c6, c7, c8, c9, clt⟩ := HX1.out
  dsimp only at c0 c1 c2 c3 c4 c5 c6 c7 c8 c9
  go_wp2_with fail
  refine (KE.out _).mono ?_
  rintro e w2 ⟨rfl, rfl⟩
  go_wp2_with fail
  go_ret
  exact ⟨rfl, D1.out⟩
set_option maxHeartbeats 1600000 in
theorem rcheck_0l (s : Sb) (w : World) (hn : s.Num) (m : Int) (k : s.c.Ok) (hin : In m s.c.s) (hh : Has s.c m s.b.toNat) (h1 : s.s = 0)  (h2 : s.e ≠ 0) (q2 : dayB s.e = true) (k2 : s.e < s.c.s) : Calls Tryd.prog 15 #[s.val] w fun e w' => e = .returned (.int .i64 2) ∧ Below w.heap.size w w' := by
  obtain ⟨sid, scu, spl, sc, sp, sb, ss, se⟩ := s
  dsimp only at *
  subst h1
  have HX := Lib.hid (Sx.box ⟨sid, scu, spl, sc, sp, sb, 0, se⟩ w 26)
  have D0 := Lib.hid ((Below.refl _ w).alloc (Nat.le_refl _) (.cells (Sb.cells ⟨sid, scu, spl, sc, sp, sb, 0, se⟩) 26))
  have hid : 1 ≤ sid := hn.id
  have hcu : 1 ≤ scu := hn.cu
  have hpl : 1 ≤ spl := hn.pl
  have hp0 : 0 ≤ sp := hn.p0
  have hp1 : sp < 4611686018427387904 := hn.p1
  have hb0 : 0 ≤ sb := hn.b0
  have hb1 : sb ≤ 2000 := hn.b1
  have j1 : (sid == 0) = false := by simp; omega
  have j2 : (scu == 0) = false := by simp; omega
  have j3 : (spl == 0) = false := by simp; omega
  have j4 : decide (sp < 0) = false := by simp; omega
  have j5 : decide (4611686018427387904 ≤ sp) = false := by simp; omega
  have j6 : decide (sb < 0) = false := by simp; omega
  have j7 : decide (2000 < sb) = false := by simp; omega
  have KB := Lib.hid (fun u => rbnd_yes sc m sb sb.toNat (by omega) u k hin hh)
  clear k hin hh
  have KE := Lib.hid (fun u => rday_s se u _ q2)
  clear q2
  have i2 : (se != 0) = true := by simpa using h2
  clear hn
  go_enter Tryd.func15, Tryd.ntmps15
  unfold Sb.val Sb.cells
  go_wp2_with fail
  refine (KB.out _).mono ?_
  rintro e w1 ⟨rfl, b1⟩
  have HX1 := Lib.hid (HX.out.later b1)
  have D1 := Lib.hid (then_below D0.out b1)
  clear b1
  obtain ⟨c0, c1, c2, c3, c4, c5, c6, c7, c8, c9, clt⟩ := HX1.out
  dsimp only at c0 c1 c2 c3 c4 c5 c6 c7 c8 c9
  go_wp2_with fail
  refine (KE.out _).mono ?_
  rintro e w2 ⟨rfl, rfl⟩
  go_wp2_with fail
  go_ret
  exact ⟨rfl, D1.out⟩
set_option maxHeartbeats 1600000 in
theorem rcheck_0y (s : Sb) (w : World) (hn : s.Num) (m : Int) (k : s.c.Ok) (hin : In m s.c.s) (hh : Has s.c m s.b.toNat) (h1 : s.s = 0)  (h2 : s.e ≠ 0) (q2 : dayB s.e = true) (k2 : s.c.s ≤ s.e) : Calls Tryd.prog 15 #[s.val] w fun e w' => e = .returned (.int .i64 0) ∧ Below w.heap.size w w' := by
  obtain ⟨sid, scu, spl, sc, sp, sb, ss, se⟩ := s
  dsimp only at *
  subst h1
  have HX := Lib.hid (Sx.box ⟨sid, scu, spl, sc, sp, sb, 0, se⟩ w 26)
  have D0 := Lib.hid ((Below.refl _ w).alloc (Nat.le_refl _) (.cells (Sb.cells ⟨sid, scu, spl, sc, sp, sb, 0, se⟩) 26))
  have hid : 1 ≤ sid := hn.id
  have hcu : 1 ≤ scu := hn.cu
  have hpl : 1 ≤ spl := hn.pl
  have hp0 : 0 ≤ sp := hn.p0
  have hp1 : sp < 4611686018427387904 := hn.p1
  have hb0 : 0 ≤ sb := hn.b0
  have hb1 : sb ≤ 2000 := hn.b1
  have j1 : (sid == 0) = false := by simp; omega
  have j2 : (scu == 0) = false := by simp; omega
  have j3 : (spl == 0) = false := by simp; omega
  have j4 : decide (sp < 0) = false := by simp; omega
  have j5 : decide (4611686018427387904 ≤ sp) = false := by simp; omega
  have j6 : decide (sb < 0) = false := by simp; omega
  have j7 : decide (2000 < sb) = false := by simp; omega
  have KB := Lib.hid (fun u => rbnd_yes sc m sb sb.toNat (by omega) u k hin hh)
  clear k hin hh
  have KE := Lib.hid (fun u => rday_s se u _ q2)
  clear q2
  have i2 : (se != 0) = true := by simpa using h2
  clear hn
  go_enter Tryd.func15, Tryd.ntmps15
  unfold Sb.val Sb.cells
  go_wp2_with fail
  refine (KB.out _).mono ?_
  rintro e w1 ⟨rfl, b1⟩
  have HX1 := Lib.hid (HX.out.later b1)
  have D1 := Lib.hid (then_below D0.out b1)
  clear b1
  obtain ⟨c0, c1, c2, c3, c4, c5, c6, c7, c8, c9, clt⟩ := HX1.out
  dsimp only at c0 c1 c2 c3 c4 c5 c6 c7 c8 c9
  go_wp2_with fail
  refine (KE.out _).mono ?_
  rintro e w2 ⟨rfl, rfl⟩
  go_wp2_with fail
  go_ret
  exact ⟨rfl, D1.out⟩
set_option maxHeartbeats 1600000 in
theorem rcheck_dx (s : Sb) (w : World) (hn : s.Num) (m : Int) (k : s.c.Ok) (hin : In m s.c.s) (hh : Has s.c m s.b.toNat) (h1 : s.s ≠ 0) (q1 : dayB s.s = false) : Calls Tryd.prog 15 #[s.val] w fun e w' => e = .returned (.int .i64 2) ∧ Below w.heap.size w w' := by
  have HX := Lib.hid (Sx.box s w 26)
  have D0 := Lib.hid ((Below.refl _ w).alloc (Nat.le_refl _) (.cells s.cells 26))
  have hid : 1 ≤ s.id := hn.id
  have hcu : 1 ≤ s.cu := hn.cu
  have hpl : 1 ≤ s.pl := hn.pl
  have hp0 : 0 ≤ s.p := hn.p0
  have hp1 : s.p < 4611686018427387904 := hn.p1
  have hb0 : 0 ≤ s.b := hn.b0
  have hb1 : s.b ≤ 2000 := hn.b1
  have j1 : (s.id == 0) = false := by simp; omega
  have j2 : (s.cu == 0) = false := by simp; omega
  have j3 : (s.pl == 0) = false := by simp; omega
  have j4 : decide (s.p < 0) = false := by simp; omega
  have j5 : decide (4611686018427387904 ≤ s.p) = false := by simp; omega
  have j6 : decide (s.b < 0) = false := by simp; omega
  have j7 : decide (2000 < s.b) = false := by simp; omega
  have KB := Lib.hid (fun u => rbnd_yes s.c m s.b s.b.toNat (by omega) u k hin hh)
  clear k hin hh
  have KD := Lib.hid (fun u => rday_s s.s u _ q1)
  clear q1
  have i1 : (s.s != 0) = true := by simpa using h1
  clear hn
  go_enter Tryd.func15, Tryd.ntmps15
  unfold Sb.val Sb.cells
  go_wp2_with fail
  refine (KB.out _).mono ?_
  rintro e w1 ⟨rfl, b1⟩
  have HX1 := Lib.hid (HX.out.later b1)
  have D1 := Lib.hid (then_below D0.out b1)
  clear b1
  obtain ⟨c0, c1, c2, c3, c4, c5, c6, c7, c8, c9, clt⟩ := HX1.out
  go_wp2_with fail
  refine (KD.out _).mono ?_
  rintro e w2 ⟨rfl, rfl⟩
  go_wp2_with fail
  go_ret
  exact ⟨rfl, D1.out⟩
set_option maxHeartbeats 1600000 in
theorem rcheck_lx (s : Sb) (w : World) (hn : s.Num) (m : Int) (k : s.c.Ok) (hin : In m s.c.s) (hh : Has s.c m s.b.toNat) (h1 : s.s ≠ 0) (q1 : dayB s.s = true) (k1 : s.s < s.c.s) : Calls Tryd.prog 15 #[s.val] w fun e w' => e = .returned (.int .i64 2) ∧ Below w.heap.size w w' := by
  have HX := Lib.hid (Sx.box s w 26)
  have D0 := Lib.hid ((Below.refl _ w).alloc (Nat.le_refl _) (.cells s.cells 26))
  have hid : 1 ≤ s.id := hn.id
  have hcu : 1 ≤ s.cu := hn.cu
  have hpl : 1 ≤ s.pl := hn.pl
  have hp0 : 0 ≤ s.p := hn.p0
  have hp1 : s.p < 4611686018427387904 := hn.p1
  have hb0 : 0 ≤ s.b := hn.b0
  have hb1 : s.b ≤ 2000 := hn.b1
  have j1 : (s.id == 0) = false := by simp; omega
  have j2 : (s.cu == 0) = false := by simp; omega
  have j3 : (s.pl == 0) = false := by simp; omega
  have j4 : decide (s.p < 0) = false := by simp; omega
  have j5 : decide (4611686018427387904 ≤ s.p) = false := by simp; omega
  have j6 : decide (s.b < 0) = false := by simp; omega
  have j7 : decide (2000 < s.b) = false := by simp; omega
  have KB := Lib.hid (fun u => rbnd_yes s.c m s.b s.b.toNat (by omega) u k hin hh)
  clear k hin hh
  have KD := Lib.hid (fun u => rday_s s.s u _ q1)
  clear q1
  have i1 : (s.s != 0) = true := by simpa using h1
  clear hn
  go_enter Tryd.func15, Tryd.ntmps15
  unfold Sb.val Sb.cells
  go_wp2_with fail
  refine (KB.out _).mono ?_
  rintro e w1 ⟨rfl, b1⟩
  have HX1 := Lib.hid (HX.out.later b1)
  have D1 := Lib.hid (then_below D0.out b1)
  clear b1
  obtain ⟨c0, c1, c2, c3, c4, c5, c6, c7, c8, c9, clt⟩ := HX1.out
  go_wp2_with fail
  refine (KD.out _).mono ?_
  rintro e w2 ⟨rfl, rfl⟩
  go_wp2_with fail
  go_ret
  exact ⟨rfl, D1.out⟩
set_option maxHeartbeats 1600000 in
theorem rcheck_y0 (s : Sb) (w : World) (hn : s.Num) (m : Int) (k : s.c.Ok) (hin : In m s.c.s) (hh : Has s.c m s.b.toNat) (h1 : s.s ≠ 0) (q1 : dayB s.s = true) (k1 : s.c.s ≤ s.s) (h2 : s.e = 0)  : Calls Tryd.prog 15 #[s.val] w fun e w' => e = .returned (.int .i64 0) ∧ Below w.heap.size w w' := by
  obtain ⟨sid, scu, spl, sc, sp, sb, ss, se⟩ := s
  dsimp only at *
  subst h2
  have HX := Lib.hid (Sx.box ⟨sid, scu, spl, sc, sp, sb, ss, 0⟩ w 26)
  have D0 := Lib.hid ((Below.refl _ w).alloc (Nat.le_refl _) (.cells (Sb.cells ⟨sid, scu, spl, sc, sp, sb, ss, 0⟩) 26))
  have hid : 1 ≤ sid := hn.id
  have hcu : 1 ≤ scu := hn.cu
  have hpl : 1 ≤ spl := hn.pl
  have hp0 : 0 ≤ sp := hn.p0
  have hp1 : sp < 4611686018427387904 := hn.p1
  have hb0 : 0 ≤ sb := hn.b0
  have hb1 : sb ≤ 2000 := hn.b1
  have j1 : (sid == 0) = false := by simp; omega
  have j2 : (scu == 0) = false := by simp; omega
  have j3 : (spl == 0) = false := by simp; omega
  have j4 : decide (sp < 0) = false := by simp; omega
  have j5 : decide (4611686018427387904 ≤ sp) = false := by simp; omega
  have j6 : decide (sb < 0) = false := by simp; omega
  have j7 : decide (2000 < sb) = false := by simp; omega
  have KB := Lib.hid (fun u => rbnd_yes sc m sb sb.toNat (by omega) u k hin hh)
  clear k hin hh
  have KD := Lib.hid (fun u => rday_s ss u _ q1)
  clear q1
  have i1 : (ss != 0) = true := by simpa using h1
  clear hn
  go_enter Tryd.func15, Tryd.ntmps15
  unfold Sb.val Sb.cells
  go_wp2_with fail
  refine (KB.out _).mono ?_
  rintro e w1 ⟨rfl, b1⟩
  have HX1 := Lib.hid (HX.out.later b1)
  have D1 := Lib.hid (then_below D0.out b1)
  clear b1
  obtain ⟨c0, c1, c2, c3, c4, c5, c6, c7, c8, c9, clt⟩ := HX1.out
  dsimp only at c0 c1 c2 c3 c4 c5 c6 c7 c8 c9
  go_wp2_with fail
  refine (KD.out _).mono ?_
  rintro e w2 ⟨rfl, rfl⟩
  go_wp2_with fail
  go_ret
  exact ⟨rfl, D1.out⟩
set_option maxHeartbeats 1600000 in
theorem rcheck_yd (s : Sb) (w : World) (hn : s.Num) (m : Int) (k : s.c.Ok) (hin : In m s.c.s) (hh : Has s.c m s.b.toNat) (h1 : s.s ≠ 0) (q1 : dayB s.s = true) (k1 : s.c.s ≤ s.s) (h2 : s.e ≠ 0) (q2 : dayB s.e = false) : Calls Tryd.prog 15 #[s.val] w fun e w' => e = .returned (.int .i64 2) ∧ Below w.heap.size w w' := by
  have HX := Lib.hid (Sx.box s w 26)
  have D0 := Lib.hid ((Below.refl _ w).alloc (Nat.le_refl _) (.cells s.cells 26))
  have hid : 1 ≤ s.id := hn.id
  have hcu : 1 ≤ s.cu := hn.cu
  have hpl : 1 ≤ s.pl := hn.pl
  have hp0 : 0 ≤ s.p := hn.p0
  have hp1 : s.p < 4611686018427387904 := hn.p1
  have hb0 : 0 ≤ s.b := hn.b0
  have hb1 : s.b ≤ 2000 := hn.b1
  have j1 : (s.id == 0) = false := by simp; omega
  have j2 : (s.cu == 0) = false := by simp; omega
  have j3 : (s.pl == 0) = false := by simp; omega
  have j4 : decide (s.p < 0) = false := by simp; omega
  have j5 : decide (4611686018427387904 ≤ s.p) = false := by simp; omega
  have j6 : decide (s.b < 0) = false := by simp; omega
  have j7 : decide (2000 < s.b) = false := by simp; omega
  have KB := Lib.hid (fun u => rbnd_yes s.c m s.b s.b.toNat (by omega) u k hin hh)
  clear k hin hh
  have KD := Lib.hid (fun u => rday_s s.s u _ q1)
  clear q1
  have KE := Lib.hid (fun u => rday_s s.e u _ q2)
  clear q2
  have i1 : (s.s != 0) = true := by simpa using h1
  have i2 : (s.e != 0) = true := by simpa using h2
  clear hn
  go_enter Tryd.func15, Tryd.ntmps15
  unfold Sb.val Sb.cells
  go_wp2_with fail
  refine (KB.out _).mono ?_
  rintro e w1 ⟨rfl, b1⟩
  have HX1 := Lib.hid (HX.out.later b1)
  have D1 := Lib.hid (then_below D0.out b1)
  clear b1
  obtain ⟨c0, c1, c2, c3, c4, c5, c6, c7, c8, c9, clt⟩ := HX1.out
  go_wp2_with fail
  refine (KD.out _).mono ?_
  rintro e w2 ⟨rfl, rfl⟩
  go_wp2_with fail
  refine (KE.out _).mono ?_
  rintro e w2 ⟨rfl, rfl⟩
  go_wp2_with fail
  go_ret
  exact ⟨rfl, D1.out⟩
set_option maxHeartbeats 1600000 in
theorem rcheck_yl (s : Sb) (w : World) (hn : s.Num) (m : Int) (k : s.c.Ok) (hin : In m s.c.s) (hh : Has s.c m s.b.toNat) (h1 : s.s ≠ 0) (q1 : dayB s.s = true) (k1 : s.c.s ≤ s.s) (h2 : s.e ≠ 0) (q2 : dayB s.e = true) (k2 : s.e < s.c.s) : Calls Tryd.prog 15 #[s.val] w fun e w' => e = .returned (.int .i64 2) ∧ Below w.heap.size w w' := by
  have HX := Lib.hid (Sx.box s w 26)
  have D0 := Lib.hid ((Below.refl _ w).alloc (Nat.le_refl _) (.cells s.cells 26))
  have hid : 1 ≤ s.id := hn.id
  have hcu : 1 ≤ s.cu := hn.cu
  have hpl : 1 ≤ s.pl := hn.pl
  have hp0 : 0 ≤ s.p := hn.p0
  have hp1 : s.p < 4611686018427387904 := hn.p1
  have hb0 : 0 ≤ s.b := hn.b0
  have hb1 : s.b ≤ 2000 := hn.b1
  have j1 : (s.id == 0) = false := by simp; omega
  have j2 : (s.cu == 0) = false := by simp; omega
  have j3 : (s.pl == 0) = false := by simp; omega
  have j4 : decide (s.p < 0) = false := by simp; omega
  have j5 : decide (4611686018427387904 ≤ s.p) = false := by simp; omega
  have j6 : decide (s.b < 0) = false := by simp; omega
  have j7 : decide (2000 < s.b) = false := by simp; omega
  have KB := Lib.hid (fun u => rbnd_yes s.c m s.b s.b.toNat (by omega) u k hin hh)
  clear k hin hh
  have KD := Lib.hid (fun u => rday_s s.s u _ q1)
  clear q1
  have KE := Lib.hid (fun u => rday_s s.e u _ q2)
  clear q2
  have i1 : (s.s != 0) = true := by simpa using h1
  have i2 : (s.e != 0) = true := by simpa using h2
  clear hn
  go_enter Tryd.func15, Tryd.ntmps15
  unfold Sb.val Sb.cells
  go_wp2_with fail
  refine (KB.out _).mono ?_
  rintro e w1 ⟨rfl, b1⟩
  have HX1 := Lib.hid (HX.out.later b1)
  have D1 := Lib.hid (then_below D0.out b1)
  clear b1
  obtain ⟨c0, c1, c2, c3, c4, c5, c6, c7, c8, c9, clt⟩ := HX1.out
  go_wp2_with fail
  refine (KD.out _).mono ?_
  rintro e w2 ⟨rfl, rfl⟩
  go_wp2_with fail
  refine (KE.out _).mono ?_
  rintro e w2 ⟨rfl, rfl⟩
  go_wp2_with fail
  go_ret
  exact ⟨rfl, D1.out⟩
set_option maxHeartbeats 1600000 in
theorem rcheck_yy (s : Sb) (w : World) (hn : s.Num) (m : Int) (k : s.c.Ok) (hin : In m s.c.s) (hh : Has s.c m s.b.toNat) (h1 : s.s ≠ 0) (q1 : dayB s.s = true) (k1 : s.c.s ≤ s.s) (h2 : s.e ≠ 0) (q2 : dayB s.e = true) (k2 : s.c.s ≤ s.e) : Calls Tryd.prog 15 #[s.val] w fun e w' => e = .returned (.int .i64 0) ∧ Below w.heap.size w w' := by
  have HX := Lib.hid (Sx.box s w 26)
  have D0 := Lib.hid ((Below.refl _ w).alloc (Nat.le_refl _) (.cells s.cells 26))
  have hid : 1 ≤ s.id := hn.id
  have hcu : 1 ≤ s.cu := hn.cu
  have hpl : 1 ≤ s.pl := hn.pl
  have hp0 : 0 ≤ s.p := hn.p0
  have hp1 : s.p < 4611686018427387904 := hn.p1
  have hb0 : 0 ≤ s.b := hn.b0
  have hb1 : s.b ≤ 2000 := hn.b1
  have j1 : (s.id == 0) = false := by simp; omega
  have j2 : (s.cu == 0) = false := by simp; omega
  have j3 : (s.pl == 0) = false := by simp; omega
  have j4 : decide (s.p < 0) = false := by simp; omega
  have j5 : decide (4611686018427387904 ≤ s.p) = false := by simp; omega
  have j6 : decide (s.b < 0) = false := by simp; omega
  have j7 : decide (2000 < s.b) = false := by simp; omega
  have KB := Lib.hid (fun u => rbnd_yes s.c m s.b s.b.toNat (by omega) u k hin hh)
  clear k hin hh
  have KD := Lib.hid (fun u => rday_s s.s u _ q1)
  clear q1
  have KE := Lib.hid (fun u => rday_s s.e u _ q2)
  clear q2
  have i1 : (s.s != 0) = true := by simpa using h1
  have i2 : (s.e != 0) = true := by simpa using h2
  clear hn
  go_enter Tryd.func15, Tryd.ntmps15
  unfold Sb.val Sb.cells
  go_wp2_with fail
  refine (KB.out _).mono ?_
  rintro e w1 ⟨rfl, b1⟩
  have HX1 := Lib.hid (HX.out.later b1)
  have D1 := Lib.hid (then_below D0.out b1)
  clear b1
  obtain ⟨c0, c1, c2, c3, c4, c5, c6, c7, c8, c9, clt⟩ := HX1.out
  go_wp2_with fail
  refine (KD.out _).mono ?_
  rintro e w2 ⟨rfl, rfl⟩
  go_wp2_with fail
  refine (KE.out _).mono ?_
  rintro e w2 ⟨rfl, rfl⟩
  go_wp2_with fail
  go_ret
  exact ⟨rfl, D1.out⟩
theorem rcheck_days (s : Sb) (w : World) (hn : s.Num) (m : Int) (k : s.c.Ok) (hin : In m s.c.s) (hh : Has s.c m s.b.toNat) (z : Int) (hz : z = if wiB s.c.s s.s && wiB s.c.s s.e then 0 else 2) : Calls Tryd.prog 15 #[s.val] w fun e w' => e = .returned (.int .i64 z) ∧ Below w.heap.size w w' := by
  subst hz
  rcases Wi.cases _ _ _ (rfl : wiB s.c.s s.s = _) with ⟨e1, f1⟩ | ⟨e1, g1, f1⟩ | ⟨e1, g1, k1, f1⟩ | ⟨e1, g1, k1, f1⟩
  · rcases Wi.cases _ _ _ (rfl : wiB s.c.s s.e = _) with ⟨e2, f2⟩ | ⟨e2, g2, f2⟩ | ⟨e2, g2, k2, f2⟩ | ⟨e2, g2, k2, f2⟩
    · rw [f1, f2]; exact rcheck_00 s w hn m k hin hh e1 e2
    · rw [f1, f2]; exact rcheck_0d s w hn m k hin hh e1 e2 g2
    · rw [f1, f2]; exact rcheck_0l s w hn m k hin hh e1 e2 g2 k2
    · rw [f1, f2]; exact rcheck_0y s w hn m k hin hh e1 e2 g2 k2
  · rw [f1]; exact rcheck_dx s w hn m k hin hh e1 g1
  · rw [f1]; exact rcheck_lx s w hn m k hin hh e1 g1 k1
  · rcases Wi.cases _ _ _ (rfl : wiB s.c.s s.e = _) with ⟨e2, f2⟩ | ⟨e2, g2, f2⟩ | ⟨e2, g2, k2, f2⟩ | ⟨e2, g2, k2, f2⟩
    · rw [f1, f2]; exact rcheck_y0 s w hn m k hin hh e1 g1 k1 e2
    · rw [f1, f2]; exact rcheck_yd s w hn m k hin hh e1 g1 k1 e2 g2
    · rw [f1, f2]; exact rcheck_yl s w hn m k hin hh e1 g1 k1 e2 g2 k2
    · rw [f1, f2]; exact rcheck_yy s w hn m k hin hh e1 g1 k1 e2 g2 k2
theorem rcheck_yes (s : Sb) (m : Int) (w : World) (hin : In m s.c.s) (h : s.Ok m) : Calls Tryd.prog 15 #[s.val] w fun e w' => e = .returned (.int .i64 0) ∧ Below w.heap.size w w' :=
  rcheck_days s w h.num m h.c hin h.has 0 (by rw [wiB_yes h.ws, wiB_yes h.we]; rfl)
theorem rcheck_no (s : Sb) (m : Int) (w : World) (hf : s.Fits) (hin : s.c.Ok → In m s.c.s) (h : ¬ s.Ok m) : Calls Tryd.prog 15 #[s.val] w fun e w' => e = .returned (.int .i64 2) ∧ Below w.heap.size w w' := by
  by_cases hn : s.Num
  · by_cases h3 : s.c.Ok
    · by_cases h4 : Has s.c m s.b.toNat
      · refine rcheck_days s w hn m h3 (hin h3) h4 2 ?_
        by_cases hb : (wiB s.c.s s.s && wiB s.c.s s.e) = true
        · rw [Bool.and_eq_true, wiB_iff, wiB_iff] at hb
          exact absurd ⟨hn, h3, h4, hb.1, hb.2⟩ h
        · rw [if_neg hb]
      · exact rcheck_none s w hn m h3 (hin h3) h4
    · exact rcheck_cycle s w hn h3
  · exact rcheck_num s w hf hn
end Go.Proofs.YtjchecjonkmhgaaDoor.Su
