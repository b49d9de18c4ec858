/- Package subs: Check and State, both sides. -/
import Derived.Test.YtjchecjonkmhgaaDoorSuHead
import Derived.Test.YtjchecjonkmhgaaDoorAoRFind
namespace Go.Proofs.YtjchecjonkmhgaaDoor.Su
open Go.RowKit Pr Cw An
theorem bnd_yes (c : Cy) (m k : Int) (j : Nat) (hk : k = (j : Int)) (w : World) (hw : Tab w) (h : c.Ok) (hin : In m c.s) (hh : Has c m j) :
    Calls Tryd.prog 33 #[.agg #[.int .i64 c.s, .int .i64 c.a, .int .i64 c.e], .int .i64 k] w fun e w' => e = .returned (.tuple #[.int .i64 (bnd c m j), .int .i64 0]) ∧ Below w.heap.size w w' := by
  subst hk
  exact (bound_in c m j w hw h hin).mono fun e w1 hr => ⟨hr.1 hh, hr.2.2⟩
theorem bnd_no (c : Cy) (m k : Int) (j : Nat) (hk : k = (j : Int)) (w : World) (hw : Tab w) (h : c.Ok) (hin : In m c.s) (hh : ¬ Has c m j) :
    Calls Tryd.prog 33 #[.agg #[.int .i64 c.s, .int .i64 c.a, .int .i64 c.e], .int .i64 k] w fun e w' => e = .returned (.tuple #[.int .i64 0, .int .i64 7]) ∧ Below w.heap.size w w' := by
  subst hk
  exact (bound_in c m j w hw h hin).mono fun e w1 hr => ⟨hr.2.1 hh, hr.2.2⟩
theorem rbnd_yes (c : Cy) (m k : Int) (j : Nat) (hk : k = (j : Int)) (w : World) (h : c.Ok) (hin : In m c.s) (hh : Has c m j) :
    Calls Tryd.prog 21 #[.agg #[.int .i64 c.s, .int .i64 c.a, .int .i64 c.e], .int .i64 k] w fun e w' => e = .returned (.tuple #[.int .i64 (bnd c m j), .int .i64 0]) ∧ Below w.heap.size w w' := by
  subst hk
  exact (rbound_in c m j w h hin).mono fun e w1 hr => ⟨hr.1 hh, hr.2.2⟩
theorem rbnd_no (c : Cy) (m k : Int) (j : Nat) (hk : k = (j : Int)) (w : World) (h : c.Ok) (hin : In m c.s) (hh : ¬ Has c m j) :
    Calls Tryd.prog 21 #[.agg #[.int .i64 c.s, .int .i64 c.a, .int .i64 c.e], .int .i64 k] w fun e w' => e = .returned (.tuple #[.int .i64 0, .int .i64 7]) ∧ Below w.heap.size w w' := by
  subst hk
  exact (rbound_in c m j w h hin).mono fun e w1 hr => ⟨hr.2.1 hh, hr.2.2⟩
/-- The numbers of a subscription are right. -/
structure Sb.Num (s : Sb) : Prop where
  id : 1 ≤ s.id
  cu : 1 ≤ s.cu
  pl : 1 ≤ s.pl
  p0 : 0 ≤ s.p
  p1 : s.p < 4611686018427387904
  b0 : 0 ≤ s.b
  b1 : s.b ≤ 2000
structure Sb.Ok (s : Sb) (m : Int) : Prop where
  num : s.Num
  c : s.c.Ok
  has : Has s.c m s.b.toNat
  ws : Wi s.c.s s.s
  we : Wi s.c.s s.e
theorem Num.not {s : Sb} (hf : s.Fits) (h : ¬ s.Num) : s.id = 0 ∨ (1 ≤ s.id ∧ s.cu = 0) ∨ (1 ≤ s.id ∧ 1 ≤ s.cu ∧ s.pl = 0) ∨ (1 ≤ s.id ∧ 1 ≤ s.cu ∧ 1 ≤ s.pl ∧ s.p < 0) ∨ (1 ≤ s.id ∧ 1 ≤ s.cu ∧ 1 ≤ s.pl ∧ 0 ≤ s.p ∧ 4611686018427387904 ≤ s.p) ∨
    (1 ≤ s.id ∧ 1 ≤ s.cu ∧ 1 ≤ s.pl ∧ 0 ≤ s.p ∧ s.p < 4611686018427387904 ∧ s.b < 0) ∨ (1 ≤ s.id ∧ 1 ≤ s.cu ∧ 1 ≤ s.pl ∧ 0 ≤ s.p ∧ s.p < 4611686018427387904 ∧ 0 ≤ s.b ∧ 2000 < s.b) := by
  have := hf.id.1; have := hf.cu.1; have := hf.pl.1
  by_cases h6 : 1 ≤ s.id ∧ 1 ≤ s.cu ∧ 1 ≤ s.pl ∧ 0 ≤ s.p ∧ s.p < 4611686018427387904 ∧ 0 ≤ s.b ∧ s.b ≤ 2000
  · obtain ⟨a, b, d, e, f, g, k⟩ := h6
    exact absurd ⟨a, b, d, e, f, g, k⟩ h
  · omega
theorem price_yes (p : Int) (w : World) (h1 : 0 ≤ p) (h2 : p < 4611686018427387904) : Calls Tryd.prog 31 #[.int .i64 p] w fun e w' => e = .returned (.bool true) ∧ w = w' := by
  have := price_s p w
  rwa [show prB p = true by simp [prB, h1, h2]] at this
theorem price_no (p : Int) (w : World) (h : p < 0 ∨ 4611686018427387904 ≤ p) : Calls Tryd.prog 31 #[.int .i64 p] w fun e w' => e = .returned (.bool false) ∧ w = w' := by
  have := price_s p w
  rwa [show prB p = false by simp [prB]; omega] at this
theorem day_yes (d : Int) (w : World) (h : 1 ≤ d ∧ d ≤ 3652059) : Calls Tryd.prog 24 #[.int .i64 d] w fun e w' => e = .returned (.bool true) ∧ w = w' := by
  have := isDay_s d w
  rwa [dayB_yes h.1 h.2] at this
theorem day_no (d : Int) (w : World) (h : ¬ (1 ≤ d ∧ d ≤ 3652059)) : Calls Tryd.prog 24 #[.int .i64 d] w fun e w' => e = .returned (.bool false) ∧ w = w' := by
  have := isDay_s d w
  rwa [dayB_no (by omega)] at this
theorem rday_s (d : Int) (w : World) (z : Bool) (hz : dayB d = z) : Calls Tryd.prog 28 #[.int .i64 d] w fun e w' => e = .returned (.bool z) ∧ w = w' := by
  subst hz
  have HE := Lib.hid (show (1 ≤ d ∧ d ≤ 3652059) → dayB d = true from fun h => dayB_yes h.1 h.2)
  have HF := Lib.hid (show (d < 1 ∨ 3652059 < d) → dayB d = false from fun h => dayB_no h)
  rcases (show (1 ≤ d ∧ d ≤ 3652059) ∨ d < 1 ∨ (1 ≤ d ∧ 3652059 < d) by omega) with ⟨h1, h2⟩ | h1 | ⟨h1, h2⟩
  all_goals
    go_enter Tryd.func28, Tryd.ntmps28
    go_wp2_with fail
    go_ret
    exact ⟨ret_bool (by first | (rw [HE.out (by omega)]; done) | (rw [HF.out (by omega)]; done) | (rw [HE.out (by omega)]; simp <;> omega) | (rw [HF.out (by omega)]; simp <;> omega)), rfl⟩
theorem within_yes (s : Sb) (d : Int) (w : World) (h : Wi s.c.s d) : Calls Tryd.prog 32 #[s.val, .int .i64 d] w fun e w' => e = .returned (.bool true) ∧ Below w.heap.size w w' := by
  have := within_s s d w
  rwa [wiB_yes h] at this
theorem within_no (s : Sb) (d : Int) (w : World) (h : ¬ Wi s.c.s d) : Calls Tryd.prog 32 #[s.val, .int .i64 d] w fun e w' => e = .returned (.bool false) ∧ Below w.heap.size w w' := by
  have := within_s s d w
  rwa [wiB_no h] at this
set_option maxHeartbeats 1600000 in
theorem check_num (s : Sb) (w : World) (hf : s.Fits) (h : ¬ s.Num) : Calls Tryd.prog 14 #[s.val] w fun e w' => e = .returned (.int .i64 2) ∧ Below w.heap.size w w' := by
  have D0 := Lib.hid ((Below.refl _ w).alloc (Nat.le_refl _) (.cells s.cells 26))
  have HP := Lib.hid (fun u => price_yes s.p u)
  have HQ := Lib.hid (fun u => price_no s.p u)
  rcases Num.not hf h with h1 | ⟨h1, h2⟩ | ⟨h1, h2, h3⟩ | ⟨h1, h2, h3, h4⟩ | ⟨h1, h2, h3, h4, h5⟩ | ⟨h1, h2, h3, h4, h5, h6⟩ | ⟨h1, h2, h3, h4, h5, h6, h7⟩
  all_goals
    clear h hf
    go_enter Tryd.func14, Tryd.ntmps14
    unfold Sb.val Sb.cells
    go_wp2_with (first | (refine (HP.out _ (by omega) (by omega)).mono ?_; rintro e w1 ⟨rfl, rfl⟩) | (refine (HQ.out _ (by omega)).mono ?_; rintro e w1 ⟨rfl, rfl⟩))
    go_ret
    first | exact ⟨rfl, D0.out⟩ | exact ⟨rfl, (Below.refl _ w).alloc (Nat.le_refl _) _⟩
set_option maxHeartbeats 1600000 in
theorem check_since (s : Sb) (w : World) (hn : s.Num) (h : ¬ Wi s.c.s s.s) : Calls Tryd.prog 14 #[s.val] w fun e w' => e = .returned (.int .i64 2) ∧ Below w.heap.size w w' := by
  have HX := Lib.hid (Sx.box s w 26)
  have D0 := Lib.hid ((Below.refl _ w).alloc (Nat.le_refl _) (.cells s.cells 26))
  have hid : 1 ≤ s.id := hn.id
  have hcu : 1 ≤ s.cu := hn.cu
  have hpl : 1 ≤ s.pl := hn.pl
  have hp0 : 0 ≤ s.p := hn.p0
  have hp1 : s.p < 4611686018427387904 := hn.p1
  have hb0 : 0 ≤ s.b := hn.b0
  have hb1 : s.b ≤ 2000 := hn.b1
  have KP := Lib.hid (fun u => price_yes s.p u hp0 hp1)
  have KW := Lib.hid (fun u => within_no s s.s u h)
  clear h
  clear hn
  go_enter Tryd.func14, Tryd.ntmps14
  unfold Sb.val Sb.cells
  go_wp2_with fail
  refine (KP.out _).mono ?_
  rintro e w0 ⟨rfl, rfl⟩
  go_wp2_with fail
  refine (KW.out _).mono ?_
  rintro e w1 ⟨rfl, b1⟩
  have HX1 := Lib.hid (HX.out.later b1)
  have D1 := Lib.hid (then_below D0.out b1)
  clear b1
  go_wp2_with fail
  go_ret
  exact ⟨rfl, D1.out⟩
set_option maxHeartbeats 1600000 in
theorem check_ends (s : Sb) (w : World) (hn : s.Num) (g : Wi s.c.s s.s) (h : ¬ Wi s.c.s s.e) : Calls Tryd.prog 14 #[s.val] w fun e w' => e = .returned (.int .i64 2) ∧ Below w.heap.size w w' := by
  have HX := Lib.hid (Sx.box s w 26)
  have D0 := Lib.hid ((Below.refl _ w).alloc (Nat.le_refl _) (.cells s.cells 26))
  have hid : 1 ≤ s.id := hn.id
  have hcu : 1 ≤ s.cu := hn.cu
  have hpl : 1 ≤ s.pl := hn.pl
  have hp0 : 0 ≤ s.p := hn.p0
  have hp1 : s.p < 4611686018427387904 := hn.p1
  have hb0 : 0 ≤ s.b := hn.b0
  have hb1 : s.b ≤ 2000 := hn.b1
  have KP := Lib.hid (fun u => price_yes s.p u hp0 hp1)
  have KW := Lib.hid (fun u => within_yes s s.s u g)
  have KV := Lib.hid (fun u => within_no s s.e u h)
  clear h g
  clear hn
  go_enter Tryd.func14, Tryd.ntmps14
  unfold Sb.val Sb.cells
  go_wp2_with fail
  refine (KP.out _).mono ?_
  rintro e w0 ⟨rfl, rfl⟩
  go_wp2_with fail
  refine (KW.out _).mono ?_
  rintro e w1 ⟨rfl, b1⟩
  have HX1 := Lib.hid (HX.out.later b1)
  have D1 := Lib.hid (then_below D0.out b1)
  clear b1
  obtain ⟨c0, c1, c2, c3, c4, c5, c6, c7, c8, c9, clt⟩ := HX1.out
  go_wp2_with fail
  refine (KV.out _).mono ?_
  rintro e w2 ⟨rfl, b2⟩
  have HX2 := Lib.hid (HX1.out.later b2)
  have D2 := Lib.hid (then_below D1.out b2)
  clear b2
  clear c0 c1 c2 c3 c4 c5 c6 c7 c8 c9 clt
  go_wp2_with fail
  go_ret
  exact ⟨rfl, D2.out⟩
set_option maxHeartbeats 1600000 in
theorem check_cycle (s : Sb) (w : World) (hn : s.Num) (g : Wi s.c.s s.s) (h : Wi s.c.s s.e) (k : ¬ s.c.Ok) : Calls Tryd.prog 14 #[s.val] w fun e w' => e = .returned (.int .i64 2) ∧ Below w.heap.size w w' := by
  have HX := Lib.hid (Sx.box s w 26)
  have D0 := Lib.hid ((Below.refl _ w).alloc (Nat.le_refl _) (.cells s.cells 26))
  have hid : 1 ≤ s.id := hn.id
  have hcu : 1 ≤ s.cu := hn.cu
  have hpl : 1 ≤ s.pl := hn.pl
  have hp0 : 0 ≤ s.p := hn.p0
  have hp1 : s.p < 4611686018427387904 := hn.p1
  have hb0 : 0 ≤ s.b := hn.b0
  have hb1 : s.b ≤ 2000 := hn.b1
  have KP := Lib.hid (fun u => price_yes s.p u hp0 hp1)
  have KW := Lib.hid (fun u => within_yes s s.s u g)
  have KV := Lib.hid (fun u => within_yes s s.e u h)
  have KB := Lib.hid (fun u => bound_no s.c s.b u (Or.inl k))
  clear k
  clear h g
  clear hn
  go_enter Tryd.func14, Tryd.ntmps14
  unfold Sb.val Sb.cells
  go_wp2_with fail
  refine (KP.out _).mono ?_
  rintro e w0 ⟨rfl, rfl⟩
  go_wp2_with fail
  refine (KW.out _).mono ?_
  rintro e w1 ⟨rfl, b1⟩
  have HX1 := Lib.hid (HX.out.later b1)
  have D1 := Lib.hid (then_below D0.out b1)
  clear b1
  obtain ⟨c0, c1, c2, c3, c4, c5, c6, c7, c8, c9, clt⟩ := HX1.out
  go_wp2_with fail
  refine (KV.out _).mono ?_
  rintro e w2 ⟨rfl, b2⟩
  have HX2 := Lib.hid (HX1.out.later b2)
  have D2 := Lib.hid (then_below D1.out b2)
  clear b2
  clear c0 c1 c2 c3 c4 c5 c6 c7 c8 c9 clt
  obtain ⟨c0, c1, c2, c3, c4, c5, c6, c7, c8, c9, clt⟩ := HX2.out
  go_wp2_with fail
  refine (KB.out _).mono ?_
  rintro e w3 ⟨rfl, b3⟩
  have HX3 := Lib.hid (HX2.out.later b3)
  have D3 := Lib.hid (then_below D2.out b3)
  clear b3
  clear c0 c1 c2 c3 c4 c5 c6 c7 c8 c9 clt
  go_wp2_with fail
  go_ret
  exact ⟨rfl, D3.out⟩
set_option maxHeartbeats 1600000 in
theorem check_none (s : Sb) (w : World) (hn : s.Num) (g : Wi s.c.s s.s) (h : Wi s.c.s s.e) (m : Int) (hw : Tab w) (k : s.c.Ok) (hin : In m s.c.s) (hh : ¬ Has s.c m s.b.toNat) : Calls Tryd.prog 14 #[s.val] w fun e w' => e = .returned (.int .i64 2) ∧ Below w.heap.size w w' := by
  have HX := Lib.hid (Sx.box s w 26)
  have D0 := Lib.hid ((Below.refl _ w).alloc (Nat.le_refl _) (.cells s.cells 26))
  have hid : 1 ≤ s.id := hn.id
  have hcu : 1 ≤ s.cu := hn.cu
  have hpl : 1 ≤ s.pl := hn.pl
  have hp0 : 0 ≤ s.p := hn.p0
  have hp1 : s.p < 4611686018427387904 := hn.p1
  have hb0 : 0 ≤ s.b := hn.b0
  have hb1 : s.b ≤ 2000 := hn.b1
  have KP := Lib.hid (fun u => price_yes s.p u hp0 hp1)
  have KW := Lib.hid (fun u => within_yes s s.s u g)
  have KV := Lib.hid (fun u => within_yes s s.e u h)
  have HT := Lib.hid hw
  have KB := Lib.hid (fun u hu => bnd_no s.c m s.b s.b.toNat (by omega) u hu k hin hh)
  clear k hh hin hw
  clear h g
  clear hn
  go_enter Tryd.func14, Tryd.ntmps14
  unfold Sb.val Sb.cells
  go_wp2_with fail
  refine (KP.out _).mono ?_
  rintro e w0 ⟨rfl, rfl⟩
  go_wp2_with fail
  refine (KW.out _).mono ?_
  rintro e w1 ⟨rfl, b1⟩
  have HX1 := Lib.hid (HX.out.later b1)
  have D1 := Lib.hid (then_below D0.out b1)
  clear b1
  obtain ⟨c0, c1, c2, c3, c4, c5, c6, c7, c8, c9, clt⟩ := HX1.out
  go_wp2_with fail
  refine (KV.out _).mono ?_
  rintro e w2 ⟨rfl, b2⟩
  have HX2 := Lib.hid (HX1.out.later b2)
  have D2 := Lib.hid (then_below D1.out b2)
  clear b2
  clear c0 c1 c2 c3 c4 c5 c6 c7 c8 c9 clt
  obtain ⟨c0, c1, c2, c3, c4, c5, c6, c7, c8, c9, clt⟩ := HX2.out
  go_wp2_with fail
  refine (KB.out _ (tab_later HT.out D2.out)).mono ?_
  rintro e w3 ⟨rfl, b3⟩
  have HX3 := Lib.hid (HX2.out.later b3)
  have D3 := Lib.hid (then_below D2.out b3)
  clear b3
  clear c0 c1 c2 c3 c4 c5 c6 c7 c8 c9 clt
  go_wp2_with fail
  go_ret
  exact ⟨rfl, D3.out⟩
set_option maxHeartbeats 1600000 in
theorem check_all (s : Sb) (w : World) (hn : s.Num) (g : Wi s.c.s s.s) (h : Wi s.c.s s.e) (m : Int) (hw : Tab w) (k : s.c.Ok) (hin : In m s.c.s) (hh : Has s.c m s.b.toNat) : Calls Tryd.prog 14 #[s.val] w fun e w' => e = .returned (.int .i64 0) ∧ Below w.heap.size w w' := by
  have HX := Lib.hid (Sx.box s w 26)
  have D0 := Lib.hid ((Below.refl _ w).alloc (Nat.le_refl _) (.cells s.cells 26))
  have hid : 1 ≤ s.id := hn.id
  have hcu : 1 ≤ s.cu := hn.cu
  have hpl : 1 ≤ s.pl := hn.pl
  have hp0 : 0 ≤ s.p := hn.p0
  have hp1 : s.p < 4611686018427387904 := hn.p1
  have hb0 : 0 ≤ s.b := hn.b0
  have hb1 : s.b ≤ 2000 := hn.b1
  have KP := Lib.hid (fun u => price_yes s.p u hp0 hp1)
  have KW := Lib.hid (fun u => within_yes s s.s u g)
  have KV := Lib.hid (fun u => within_yes s s.e u h)
  have HT := Lib.hid hw
  have KB := Lib.hid (fun u hu => bnd_yes s.c m s.b s.b.toNat (by omega) u hu k hin hh)
  clear k hh hin hw
  clear h g
  clear hn
  go_enter Tryd.func14, Tryd.ntmps14
  unfold Sb.val Sb.cells
  go_wp2_with fail
  refine (KP.out _).mono ?_
  rintro e w0 ⟨rfl, rfl⟩
  go_wp2_with fail
  refine (KW.out _).mono ?_
  rintro e w1 ⟨rfl, b1⟩
  have HX1 := Lib.hid (HX.out.later b1)
  have D1 := Lib.hid (then_below D0.out b1)
  clear b1
  obtain ⟨c0, c1, c2, c3, c4, c5, c6, c7, c8, c9, clt⟩ := HX1.out
  go_wp2_with fail
  refine (KV.out _).mono ?_
  rintro e w2 ⟨rfl, b2⟩
  have HX2 := Lib.hid (HX1.out.later b2)
  have D2 := Lib.hid (then_below D1.out b2)
  clear b2
  clear c0 c1 c2 c3 c4 c5 c6 c7 c8 c9 clt
  obtain ⟨c0, c1, c2, c3, c4, c5, c6, c7, c8, c9, clt⟩ := HX2.out
  go_wp2_with fail
  refine (KB.out _ (tab_later HT.out D2.out)).mono ?_
  rintro e w3 ⟨rfl, b3⟩
  have HX3 := Lib.hid (HX2.out.later b3)
  have D3 := Lib.hid (then_below D2.out b3)
  clear b3
  clear c0 c1 c2 c3 c4 c5 c6 c7 c8 c9 clt
  go_wp2_with fail
  go_ret
  exact ⟨rfl, D3.out⟩
theorem check_yes (s : Sb) (m : Int) (w : World) (hw : Tab w) (hin : In m s.c.s) (h : s.Ok m) : Calls Tryd.prog 14 #[s.val] w fun e w' => e = .returned (.int .i64 0) ∧ Below w.heap.size w w' :=
  check_all s w h.num h.ws h.we m hw h.c hin h.has
theorem check_no (s : Sb) (m : Int) (w : World) (hw : Tab w) (hf : s.Fits) (hin : s.c.Ok → In m s.c.s) (h : ¬ s.Ok m) : Calls Tryd.prog 14 #[s.val] w fun e w' => e = .returned (.int .i64 2) ∧ Below w.heap.size w w' := by
  by_cases hn : s.Num
  · by_cases h1 : Wi s.c.s s.s
    · by_cases h2 : Wi s.c.s s.e
      · by_cases h3 : s.c.Ok
        · by_cases h4 : Has s.c m s.b.toNat
          · exact absurd ⟨hn, h3, h4, h1, h2⟩ h
          · exact check_none s w hn h1 h2 m hw h3 (hin h3) h4
        · exact check_cycle s w hn h1 h2 h3
      · exact check_ends s w hn h1 h2
    · exact check_since s w hn h1
  · exact check_num s w hf hn
end Go.Proofs.YtjchecjonkmhgaaDoor.Su
