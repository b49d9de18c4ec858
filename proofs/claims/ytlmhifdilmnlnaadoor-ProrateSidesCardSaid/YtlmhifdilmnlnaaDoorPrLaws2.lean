/- Package prorate: ProrateSides, ProrateWhole. (gen_prlaws2.py writes this.) -/
import Derived.Test.YtlmhifdilmnlnaaDoorPrLaws
import Derived.IntWalk
namespace Go.Proofs.YtlmhifdilmnlnaaDoor.Pr
open Go.RowKit Rf Bw
theorem change_is (was now d m P Q : Int) (w : World) (h : Ov was d m m) (k : Ov now d m m) (hP : du was m m - du was d m = P) (hQ : du now m m - du now d m = Q) :
    Calls Tryd.prog 19 #[.int .i64 was, .int .i64 now, .int .i64 d, .int .i64 m] w fun e w' => e = .returned (.tuple #[.int .i64 P, .int .i64 Q, .int .i64 0]) ∧ Below w.heap.size w w' := by
  subst hP hQ; exact change_ok was now d m w h k
theorem on_is (amt a b m P : Int) (w : World) (h : Ov amt a b m) (hP : du amt b m - du amt a m = P) :
    Calls Tryd.prog 16 #[.int .i64 amt, .int .i64 a, .int .i64 b, .int .i64 m] w fun e w' => e = .returned (.tuple #[.int .i64 P, .int .i64 0]) ∧ Below w.heap.size w w' := by
  subst hP; exact on_ok amt a b m w h
theorem Dv.of {amt d m e : Int} (h : Dv amt d m) (h0 : 0 ≤ e) (h1 : e ≤ m) : Dv amt e m := ⟨h.a0, h.a1, h.m0, h.m1, h0, h1⟩
theorem share (amt a m : Int) (h : Dv amt a m) : du amt (a + 1) m - du amt a m = amt * 1 / m ∨ du amt (a + 1) m - du amt a m = amt * 1 / m + 1 := by
  have := quo_parts a 1 (a + 1) amt m rfl h.m0
  unfold du
  rw [Int.mul_comm amt a, Int.mul_comm amt (a + 1), Int.mul_comm amt 1]
  omega
set_option maxRecDepth 100000 in
set_option maxHeartbeats 1600000 in
theorem sides_c (x0 x1 x2 x3 now : Int) (w : World) (hn : I64 now) (hw : Cw.Tab w) :
    Calls Tryd.prog 7 #[.agg #[.int .i64 x0, .int .i64 x1, .int .i64 x2, .int .i64 x3], .int .i64 now] w fun e w' => e = .returned (.bool true) ∧ Below w.heap.size w w' := by
  have HT := Lib.hid hw
  obtain ⟨n1, n2⟩ := hn
  clear hw
  by_cases hv : Dv x0 x1 x3
  case neg =>
    have hno : ¬ Ov x0 x1 x3 x3 := fun h => hv h.f
    have K1 := Lib.hid (fun w => change_no x0 x0 x1 x3 w (Or.inl hno))
    clear hv hno
    have J0 := Lib.hid (Ab.box x0 x1 x2 x3 w)
    have D0 := Lib.hid ((Below.refl _ w).alloc (Nat.le_refl _) (.cells #[.int .i64 x0, .int .i64 x1, .int .i64 x2, .int .i64 x3] 23))
    obtain ⟨a0, a1, a2, a3, alt⟩ := J0.out
    go_enter Tryd.func7, Tryd.ntmps7
    go_wp2_with fail
    refine (K1.out _).mono ?_
    rintro e w1 ⟨rfl, b1⟩
    have J1 := Lib.hid (J0.out.later b1)
    have D1 := Lib.hid (then_below D0.out b1)
    clear a0 a1 a2 a3 alt b1 J0
    obtain ⟨a0, a1, a2, a3, alt⟩ := J1.out
    go_wp2_with fail
    refine (head_c _ (tab_later HT.out D1.out)).mono ?_
    rintro e w2 ⟨rfl, b2⟩
    have D2 := Lib.hid (then_below D1.out b2)
    clear b2
    go_wp2_with fail
    go_ret
    exact ⟨rfl, D2.out⟩
  have hv3 := hv.of (show 0 ≤ x3 by have := hv.m0; omega) (Int.le_refl _)
  have hv0 := hv.of (Int.le_refl 0) (show 0 ≤ x3 by have := hv.m0; omega)
  have ov : Ov x0 x1 x3 x3 := ⟨hv.d1, hv3, hv⟩
  have ov0 : Ov x0 0 x3 x3 := ⟨hv0.d1, hv3, hv0⟩
  have ov3 : Ov x0 x3 x3 x3 := ⟨Int.le_refl _, hv3, hv3⟩
  have hall := du_all (amt := x0) hv.m0
  have h0 := du_0 x0 x3
  have p0 := du_lo hv
  have p1 := du_hi hv
  have a1 := hv.a1
  have m0 := hv.m0
  have m1 := hv.m1
  have d1 := hv.d1
  have d0 := hv.d0
  obtain ⟨p, hp⟩ : ∃ p, du x0 x1 x3 = p := ⟨_, rfl⟩
  rw [hp] at p0 p1
  have K1 := Lib.hid (fun w => change_is x0 x0 x1 x3 (x0 - p) (x0 - p) w ov ov (by rw [hall, hp]) (by rw [hall, hp]))
  by_cases hnow : 0 ≤ now ∧ now < 4611686018427387904
  case neg =>
    have hno : ¬ Ov now 0 x3 x3 := fun h => hnow ⟨h.n.a0, h.n.a1⟩
    have K2 := Lib.hid (fun w => change_no x0 now 0 x3 w (Or.inr ⟨ov0, hno⟩))
    clear hnow hno hv hv3 hv0 ov ov0 ov3 hall h0 hp
    have J0 := Lib.hid (Ab.box x0 x1 x2 x3 w)
    have D0 := Lib.hid ((Below.refl _ w).alloc (Nat.le_refl _) (.cells #[.int .i64 x0, .int .i64 x1, .int .i64 x2, .int .i64 x3] 23))
    obtain ⟨a0, a1, a2, a3, alt⟩ := J0.out
    go_enter Tryd.func7, Tryd.ntmps7
    go_wp2_with fail
    refine (K1.out _).mono ?_
    rintro e w1 ⟨rfl, b1⟩
    have J1 := Lib.hid (J0.out.later b1)
    have D1 := Lib.hid (then_below D0.out b1)
    clear a0 a1 a2 a3 alt b1 J0
    obtain ⟨a0, a1, a2, a3, alt⟩ := J1.out
    go_wp2_with fail
    refine (K2.out _).mono ?_
    rintro e w2 ⟨rfl, b2⟩
    have J2 := Lib.hid (J1.out.later b2)
    have D2 := Lib.hid (then_below D1.out b2)
    clear a0 a1 a2 a3 alt b2 J1
    obtain ⟨a0, a1, a2, a3, alt⟩ := J2.out
    go_wp2_with fail
    refine (head_c _ (tab_later HT.out D2.out)).mono ?_
    rintro e w3 ⟨rfl, b3⟩
    have D3 := Lib.hid (then_below D2.out b3)
    clear b3
    go_wp2_with fail
    go_ret
    exact ⟨rfl, D3.out⟩
  obtain ⟨w0, w1⟩ := hnow
  have nv : ∀ e, 0 ≤ e → e ≤ x3 → Dv now e x3 := fun e a b => ⟨w0, w1, m0, m1, a, b⟩
  have nall := du_all (amt := now) m0
  have n0 := du_0 now x3
  have K2 := Lib.hid (fun w => change_is x0 now 0 x3 x0 now w ov0 ⟨by omega, nv _ (by omega) (by omega), nv _ (by omega) (by omega)⟩ (by rw [hall, h0]; omega) (by rw [nall, n0]; omega))
  have K3 := Lib.hid (fun w => change_is x0 now x3 x3 0 0 w ov3 ⟨by omega, nv _ (by omega) (by omega), nv _ (by omega) (by omega)⟩ (by omega) (by omega))
  by_cases hx : x1 = x3
  · subst hx
    obtain rfl : p = x0 := hp.symm.trans hall
    have hz := Int.sub_self p
    rw [hz] at K1
    clear hz hv hv3 hv0 ov ov0 ov3 hall h0 hp nv nall n0
    have J0 := Lib.hid (Ab.box p x1 x2 x1 w)
    have D0 := Lib.hid ((Below.refl _ w).alloc (Nat.le_refl _) (.cells #[.int .i64 p, .int .i64 x1, .int .i64 x2, .int .i64 x1] 23))
    obtain ⟨a0, a1, a2, a3, alt⟩ := J0.out
    go_enter Tryd.func7, Tryd.ntmps7
    go_wp2_with fail
    refine (K1.out _).mono ?_
    rintro e w1 ⟨rfl, b1⟩
    have J1 := Lib.hid (J0.out.later b1)
    have D1 := Lib.hid (then_below D0.out b1)
    clear a0 a1 a2 a3 alt b1 J0
    obtain ⟨a0, a1, a2, a3, alt⟩ := J1.out
    go_wp2_with fail
    refine (K2.out _).mono ?_
    rintro e w2 ⟨rfl, b2⟩
    have J2 := Lib.hid (J1.out.later b2)
    have D2 := Lib.hid (then_below D1.out b2)
    clear a0 a1 a2 a3 alt b2 J1
    obtain ⟨a0, a1, a2, a3, alt⟩ := J2.out
    go_wp2_with fail
    refine (K3.out _).mono ?_
    rintro e w3 ⟨rfl, b3⟩
    have J3 := Lib.hid (J2.out.later b3)
    have D3 := Lib.hid (then_below D2.out b3)
    clear a0 a1 a2 a3 alt b3 J2
    obtain ⟨a0, a1, a2, a3, alt⟩ := J3.out
    go_wp2_with fail
    refine (head_c _ (tab_later HT.out D3.out)).mono ?_
    rintro e w4 ⟨rfl, b4⟩
    have D4 := Lib.hid (then_below D3.out b4)
    clear b4
    go_wp2_with fail
    go_ret
    exact ⟨rfl, D4.out⟩
  · have hv1 := hv.of (e := x1 + 1) (by omega) (by omega)
    have hmono := du_mono hv (show x1 ≤ x1 + 1 by omega)
    rw [hp] at hmono
    have q1 := du_hi hv1
    obtain ⟨q, hq⟩ : ∃ q, du x0 (x1 + 1) x3 = q := ⟨_, rfl⟩
    obtain ⟨r, hr⟩ : ∃ r, du now x3 x3 - du now (x1 + 1) x3 = r := ⟨_, rfl⟩
    rw [hq] at hmono q1
    have K4 := Lib.hid (fun w => change_is x0 now (x1 + 1) x3 (x0 - q) r w ⟨by omega, hv3, hv1⟩ ⟨by omega, nv _ (by omega) (by omega), nv _ (by omega) (by omega)⟩ (by rw [hall, hq]) hr)
    have hne : (x1 == x3) = false := by simpa using hx
    clear hv hv3 hv0 hv1 ov ov0 ov3 hall h0 hp nv nall n0 hq hr
    have J0 := Lib.hid (Ab.box x0 x1 x2 x3 w)
    have D0 := Lib.hid ((Below.refl _ w).alloc (Nat.le_refl _) (.cells #[.int .i64 x0, .int .i64 x1, .int .i64 x2, .int .i64 x3] 23))
    obtain ⟨a0, a1, a2, a3, alt⟩ := J0.out
    go_enter Tryd.func7, Tryd.ntmps7
    go_wp2_with fail
    refine (K1.out _).mono ?_
    rintro e w1 ⟨rfl, b1⟩
    have J1 := Lib.hid (J0.out.later b1)
    have D1 := Lib.hid (then_below D0.out b1)
    clear a0 a1 a2 a3 alt b1 J0
    obtain ⟨a0, a1, a2, a3, alt⟩ := J1.out
    go_wp2_with fail
    refine (K2.out _).mono ?_
    rintro e w2 ⟨rfl, b2⟩
    have J2 := Lib.hid (J1.out.later b2)
    have D2 := Lib.hid (then_below D1.out b2)
    clear a0 a1 a2 a3 alt b2 J1
    obtain ⟨a0, a1, a2, a3, alt⟩ := J2.out
    go_wp2_with fail
    refine (K3.out _).mono ?_
    rintro e w3 ⟨rfl, b3⟩
    have J3 := Lib.hid (J2.out.later b3)
    have D3 := Lib.hid (then_below D2.out b3)
    clear a0 a1 a2 a3 alt b3 J2
    obtain ⟨a0, a1, a2, a3, alt⟩ := J3.out
    go_wp2_with fail
    refine (K4.out _).mono ?_
    rintro e w4 ⟨rfl, b4⟩
    have J4 := Lib.hid (J3.out.later b4)
    have D4 := Lib.hid (then_below D3.out b4)
    clear a0 a1 a2 a3 alt b4 J3
    obtain ⟨a0, a1, a2, a3, alt⟩ := J4.out
    go_wp2_with fail
    refine (head_c _ (tab_later HT.out D4.out)).mono ?_
    rintro e w5 ⟨rfl, b5⟩
    have D5 := Lib.hid (then_below D4.out b5)
    clear b5
    go_wp2_with fail
    go_ret
    exact ⟨rfl, D5.out⟩
set_option maxRecDepth 100000 in
set_option maxHeartbeats 1600000 in
theorem whole_c (x0 x1 x2 x3 cut : Int) (w : World) (hcut : I64 cut) (hw : Cw.Tab w) :
    Calls Tryd.prog 6 #[.agg #[.int .i64 x0, .int .i64 x1, .int .i64 x2, .int .i64 x3], .int .i64 cut] w fun e w' => e = .returned (.bool true) ∧ Below w.heap.size w w' := by
  have HT := Lib.hid hw
  obtain ⟨u1, u2⟩ := hcut
  clear hw
  by_cases hv : Ov x0 x1 x2 x3
  case neg =>
    have K1 := Lib.hid (fun w => on_no x0 x1 x2 x3 w hv)
    clear hv
    have J0 := Lib.hid (Ab.box x0 x1 x2 x3 w)
    have D0 := Lib.hid ((Below.refl _ w).alloc (Nat.le_refl _) (.cells #[.int .i64 x0, .int .i64 x1, .int .i64 x2, .int .i64 x3] 23))
    obtain ⟨a0, a1, a2, a3, alt⟩ := J0.out
    go_enter Tryd.func6, Tryd.ntmps6
    go_wp2_with fail
    refine (K1.out _).mono ?_
    rintro e w1 ⟨rfl, b1⟩
    have J1 := Lib.hid (J0.out.later b1)
    have D1 := Lib.hid (then_below D0.out b1)
    clear a0 a1 a2 a3 alt b1 J0
    obtain ⟨a0, a1, a2, a3, alt⟩ := J1.out
    go_wp2_with fail
    refine (head_c _ (tab_later HT.out D1.out)).mono ?_
    rintro e w2 ⟨rfl, b2⟩
    have D2 := Lib.hid (then_below D1.out b2)
    clear b2
    go_wp2_with fail
    go_ret
    exact ⟨rfl, D2.out⟩
  obtain ⟨le, hn, hf⟩ := id hv
  have hv3 := hf.of (show 0 ≤ x3 by have := hf.m0; omega) (Int.le_refl _)
  have hv0 := hf.of (Int.le_refl 0) (show 0 ≤ x3 by have := hf.m0; omega)
  have hall := du_all (amt := x0) hf.m0
  have h0 := du_0 x0 x3
  have m0 := hf.m0; have m1 := hf.m1; have d0 := hf.d0; have d1 := hf.d1; have e1 := hn.d1; have y1 := hf.a1; have y0 := hf.a0
  obtain ⟨r, hr⟩ : ∃ r, cut.tmod (x2 - x1 + 1) = r := ⟨_, rfl⟩
  have r1 : r < x2 - x1 + 1 := by rw [← hr]; exact Int.tmod_lt_of_pos _ (by omega)
  have r2 : -(x2 - x1 + 1) < r := by
    rw [← hr]
    have := Int.tmod_lt_of_pos (-cut) (show 0 < x2 - x1 + 1 by omega)
    rw [Int.neg_tmod] at this
    omega
  obtain ⟨k, hk, k1, k2⟩ : ∃ k, (if r < 0 then x1 + r + x2 - x1 + 1 else x1 + r) = k ∧ x1 ≤ k ∧ k ≤ x2 := by
    refine ⟨_, rfl, ?_, ?_⟩ <;> split <;> omega
  have hvk := hf.of (e := k) (by omega) (by omega)
  have A0 := du_lo hf
  have AK := du_mono hf k1
  have KC := du_mono hvk k2
  have C1 := du_hi hn
  have KW := Lib.hid (fun w => on_no x0 x1 x2 x3 w)
  obtain ⟨A, hA⟩ : ∃ A, du x0 x1 x3 = A := ⟨_, rfl⟩
  obtain ⟨K, hK⟩ : ∃ K, du x0 k x3 = K := ⟨_, rfl⟩
  obtain ⟨C, hC⟩ : ∃ C, du x0 x2 x3 = C := ⟨_, rfl⟩
  rw [hA] at A0 AK
  rw [hK] at AK KC
  rw [hC] at KC C1
  have K1 := Lib.hid (fun w => on_is x0 x1 x2 x3 (C - A) w hv (by rw [hA, hC]))
  have K2 := Lib.hid (fun w => on_is x0 x1 k x3 (K - A) w ⟨k1, hvk, hf⟩ (by rw [hA, hK]))
  have K3 := Lib.hid (fun w => on_is x0 k x2 x3 (C - K) w ⟨k2, hn, hvk⟩ (by rw [hK, hC]))
  have K4 := Lib.hid (fun w => on_is x0 0 x3 x3 x0 w ⟨hv0.d1, hv3, hv0⟩ (by rw [hall, h0]; omega))
  have t1 : IntKind.i64.wrap (x2 - x1) = x2 - x1 := IntWalk.i64_in _ (by omega)
  have t2 : IntKind.i64.wrap (x2 - x1 + 1) = x2 - x1 + 1 := IntWalk.i64_in _ (by omega)
  have t3 : IntKind.i64.wrap r = r := IntWalk.i64_in _ (by omega)
  have t4 : IntKind.i64.wrap (x1 + r) = x1 + r := IntWalk.i64_in _ (by omega)
  have t5 : x2 - x1 + 1 ≠ 0 := by omega
  have hone : x1 ≠ x3 → ∃ one S, (one = S ∨ one = S + 1) ∧ (0 ≤ S ∧ S ≤ x0) ∧ (∀ w, Calls Tryd.prog 16 #[.int .i64 x0, .int .i64 x1, .int .i64 (x1 + 1), .int .i64 x3] w fun e w' => e = .returned (.tuple #[.int .i64 one, .int .i64 0]) ∧ Below w.heap.size w w') ∧ (∀ w, Calls Tryd.prog 24 #[.int .i64 x0, .int .i64 1, .int .i64 x3] w fun e w' => e = .returned (.tuple #[.int .i64 S, .int .i64 (x0 * 1 % x3), .bool true]) ∧ Below w.heap.size w w') := by
    intro hne
    have hv1 := hf.of (e := x1 + 1) (by omega) (by omega)
    have hS := hf.of (e := 1) (by omega) (by omega)
    have s0 := du_lo hS
    have s1 := du_hi hS
    unfold du at s0 s1
    exact ⟨_, _, share x0 x1 x3 hf, ⟨s0, s1⟩, fun w => on_ok x0 x1 (x1 + 1) x3 w ⟨by omega, hv1, hf⟩, fun w => rmuldiv_in x0 1 x3 _ w ⟨by omega, by omega⟩ ⟨by omega, by omega⟩ m0 (by omega) rfl (by omega) (by omega)⟩
  clear hv hn hf hv3 hv0 hall h0 hvk hA hK hC KW
  by_cases hrn : r < 0
  · obtain rfl : x1 + r + x2 - x1 + 1 = k := by rw [← hk, if_pos hrn]
    clear hk
    by_cases hx : x1 = x3
    · have HX := Lib.hid hx
      have hne : (x1 == x3) = true := by simpa using hx
      clear hone hx
      have J0 := Lib.hid (Ab.box x0 x1 x2 x3 w)
      have D0 := Lib.hid ((Below.refl _ w).alloc (Nat.le_refl _) (.cells #[.int .i64 x0, .int .i64 x1, .int .i64 x2, .int .i64 x3] 23))
      obtain ⟨a0, a1, a2, a3, alt⟩ := J0.out
      go_enter Tryd.func6, Tryd.ntmps6
      go_wp2_with fail
      refine (K1.out _).mono ?_
      rintro e w1 ⟨rfl, b1⟩
      have J1 := Lib.hid (J0.out.later b1)
      have D1 := Lib.hid (then_below D0.out b1)
      clear a0 a1 a2 a3 alt b1 J0
      obtain ⟨a0, a1, a2, a3, alt⟩ := J1.out
      go_wp2_with fail
      go_quiet (fail)
      clear hr t1 t2 t3 t4 t5
      go_wp2_with fail
      refine (K2.out _).mono ?_
      rintro e w2 ⟨rfl, b2⟩
      have J2 := Lib.hid ((Ab.drewN _ J1.out).later b2)
      have D2 := Lib.hid (then_below (below_drewN D1.out _) b2)
      clear a0 a1 a2 a3 alt b2 J1
      obtain ⟨a0, a1, a2, a3, alt⟩ := J2.out
      go_wp2_with fail
      refine (K3.out _).mono ?_
      rintro e w3 ⟨rfl, b3⟩
      have J3 := Lib.hid (J2.out.later b3)
      have D3 := Lib.hid (then_below D2.out b3)
      clear a0 a1 a2 a3 alt b3 J2
      obtain ⟨a0, a1, a2, a3, alt⟩ := J3.out
      go_wp2_with fail
      refine (K4.out _).mono ?_
      rintro e w4 ⟨rfl, b4⟩
      have J4 := Lib.hid (J3.out.later b4)
      have D4 := Lib.hid (then_below D3.out b4)
      clear a0 a1 a2 a3 alt b4 J3
      obtain ⟨a0, a1, a2, a3, alt⟩ := J4.out
      go_wp2_with fail
      refine (head_c _ (tab_later HT.out D4.out)).mono ?_
      rintro e w5 ⟨rfl, b5⟩
      have D5 := Lib.hid (then_below D4.out b5)
      clear b5
      go_wp2_with fail
      go_ret
      exact ⟨rfl, D5.out⟩
    · obtain ⟨one, S, hos, ⟨s0, s1⟩, k5, k6⟩ := hone hx
      have K5 := Lib.hid k5
      have K6 := Lib.hid k6
      have hne : (x1 == x3) = false := by simpa using hx
      clear hone hx k5 k6
      have J0 := Lib.hid (Ab.box x0 x1 x2 x3 w)
      have D0 := Lib.hid ((Below.refl _ w).alloc (Nat.le_refl _) (.cells #[.int .i64 x0, .int .i64 x1, .int .i64 x2, .int .i64 x3] 23))
      obtain ⟨a0, a1, a2, a3, alt⟩ := J0.out
      go_enter Tryd.func6, Tryd.ntmps6
      go_wp2_with fail
      refine (K1.out _).mono ?_
      rintro e w1 ⟨rfl, b1⟩
      have J1 := Lib.hid (J0.out.later b1)
      have D1 := Lib.hid (then_below D0.out b1)
      clear a0 a1 a2 a3 alt b1 J0
      obtain ⟨a0, a1, a2, a3, alt⟩ := J1.out
      go_wp2_with fail
      go_quiet (fail)
      clear hr t1 t2 t3 t4 t5
      go_wp2_with fail
      refine (K2.out _).mono ?_
      rintro e w2 ⟨rfl, b2⟩
      have J2 := Lib.hid ((Ab.drewN _ J1.out).later b2)
      have D2 := Lib.hid (then_below (below_drewN D1.out _) b2)
      clear a0 a1 a2 a3 alt b2 J1
      obtain ⟨a0, a1, a2, a3, alt⟩ := J2.out
      go_wp2_with fail
      refine (K3.out _).mono ?_
      rintro e w3 ⟨rfl, b3⟩
      have J3 := Lib.hid (J2.out.later b3)
      have D3 := Lib.hid (then_below D2.out b3)
      clear a0 a1 a2 a3 alt b3 J2
      obtain ⟨a0, a1, a2, a3, alt⟩ := J3.out
      go_wp2_with fail
      refine (K4.out _).mono ?_
      rintro e w4 ⟨rfl, b4⟩
      have J4 := Lib.hid (J3.out.later b4)
      have D4 := Lib.hid (then_below D3.out b4)
      clear a0 a1 a2 a3 alt b4 J3
      obtain ⟨a0, a1, a2, a3, alt⟩ := J4.out
      go_wp2_with fail
      refine (K5.out _).mono ?_
      rintro e w5 ⟨rfl, b5⟩
      have J5 := Lib.hid (J4.out.later b5)
      have D5 := Lib.hid (then_below D4.out b5)
      clear a0 a1 a2 a3 alt b5 J4
      obtain ⟨a0, a1, a2, a3, alt⟩ := J5.out
      rcases hos with rfl | rfl
      · go_wp2_with fail
        refine (K6.out _).mono ?_
        rintro e w6 ⟨rfl, b6⟩
        have J6 := Lib.hid (J5.out.later b6)
        have D6 := Lib.hid (then_below D5.out b6)
        clear a0 a1 a2 a3 alt b6 J5
        obtain ⟨a0, a1, a2, a3, alt⟩ := J6.out
        go_wp2_with fail
        refine (head_c _ (tab_later HT.out D6.out)).mono ?_
        rintro e w7 ⟨rfl, b7⟩
        have D7 := Lib.hid (then_below D6.out b7)
        clear b7
        go_wp2_with fail
        go_ret
        exact ⟨rfl, D7.out⟩
      · go_wp2_with fail
        refine (K6.out _).mono ?_
        rintro e w6 ⟨rfl, b6⟩
        have J6 := Lib.hid (J5.out.later b6)
        have D6 := Lib.hid (then_below D5.out b6)
        clear a0 a1 a2 a3 alt b6 J5
        obtain ⟨a0, a1, a2, a3, alt⟩ := J6.out
        go_wp2_with fail
        refine (head_c _ (tab_later HT.out D6.out)).mono ?_
        rintro e w7 ⟨rfl, b7⟩
        have D7 := Lib.hid (then_below D6.out b7)
        clear b7
        go_wp2_with fail
        go_ret
        exact ⟨rfl, D7.out⟩
  · obtain rfl : x1 + r = k := by rw [← hk, if_neg hrn]
    clear hk
    by_cases hx : x1 = x3
    · have HX := Lib.hid hx
      have hne : (x1 == x3) = true := by simpa using hx
      clear hone hx
      have J0 := Lib.hid (Ab.box x0 x1 x2 x3 w)
      have D0 := Lib.hid ((Below.refl _ w).alloc (Nat.le_refl _) (.cells #[.int .i64 x0, .int .i64 x1, .int .i64 x2, .int .i64 x3] 23))
      obtain ⟨a0, a1, a2, a3, alt⟩ := J0.out
      go_enter Tryd.func6, Tryd.ntmps6
      go_wp2_with fail
      refine (K1.out _).mono ?_
      rintro e w1 ⟨rfl, b1⟩
      have J1 := Lib.hid (J0.out.later b1)
      have D1 := Lib.hid (then_below D0.out b1)
      clear a0 a1 a2 a3 alt b1 J0
      obtain ⟨a0, a1, a2, a3, alt⟩ := J1.out
      go_wp2_with fail
      go_quiet (fail)
      clear hr t1 t2 t3 t4 t5
      go_wp2_with fail
      refine (K2.out _).mono ?_
      rintro e w2 ⟨rfl, b2⟩
      have J2 := Lib.hid ((Ab.drewN _ J1.out).later b2)
      have D2 := Lib.hid (then_below (below_drewN D1.out _) b2)
      clear a0 a1 a2 a3 alt b2 J1
      obtain ⟨a0, a1, a2, a3, alt⟩ := J2.out
      go_wp2_with fail
      refine (K3.out _).mono ?_
      rintro e w3 ⟨rfl, b3⟩
      have J3 := Lib.hid (J2.out.later b3)
      have D3 := Lib.hid (then_below D2.out b3)
      clear a0 a1 a2 a3 alt b3 J2
      obtain ⟨a0, a1, a2, a3, alt⟩ := J3.out
      go_wp2_with fail
      refine (K4.out _).mono ?_
      rintro e w4 ⟨rfl, b4⟩
      have J4 := Lib.hid (J3.out.later b4)
      have D4 := Lib.hid (then_below D3.out b4)
      clear a0 a1 a2 a3 alt b4 J3
      obtain ⟨a0, a1, a2, a3, alt⟩ := J4.out
      go_wp2_with fail
      refine (head_c _ (tab_later HT.out D4.out)).mono ?_
      rintro e w5 ⟨rfl, b5⟩
      have D5 := Lib.hid (then_below D4.out b5)
      clear b5
      go_wp2_with fail
      go_ret
      exact ⟨rfl, D5.out⟩
    · obtain ⟨one, S, hos, ⟨s0, s1⟩, k5, k6⟩ := hone hx
      have K5 := Lib.hid k5
      have K6 := Lib.hid k6
      have hne : (x1 == x3) = false := by simpa using hx
      clear hone hx k5 k6
      have J0 := Lib.hid (Ab.box x0 x1 x2 x3 w)
      have D0 := Lib.hid ((Below.refl _ w).alloc (Nat.le_refl _) (.cells #[.int .i64 x0, .int .i64 x1, .int .i64 x2, .int .i64 x3] 23))
      obtain ⟨a0, a1, a2, a3, alt⟩ := J0.out
      go_enter Tryd.func6, Tryd.ntmps6
      go_wp2_with fail
      refine (K1.out _).mono ?_
      rintro e w1 ⟨rfl, b1⟩
      have J1 := Lib.hid (J0.out.later b1)
      have D1 := Lib.hid (then_below D0.out b1)
      clear a0 a1 a2 a3 alt b1 J0
      obtain ⟨a0, a1, a2, a3, alt⟩ := J1.out
      go_wp2_with fail
      go_quiet (fail)
      clear hr t1 t2 t3 t4 t5
      go_wp2_with fail
      refine (K2.out _).mono ?_
      rintro e w2 ⟨rfl, b2⟩
      have J2 := Lib.hid ((Ab.drewN _ J1.out).later b2)
      have D2 := Lib.hid (then_below (below_drewN D1.out _) b2)
      clear a0 a1 a2 a3 alt b2 J1
      obtain ⟨a0, a1, a2, a3, alt⟩ := J2.out
      go_wp2_with fail
      refine (K3.out _).mono ?_
      rintro e w3 ⟨rfl, b3⟩
      have J3 := Lib.hid (J2.out.later b3)
      have D3 := Lib.hid (then_below D2.out b3)
      clear a0 a1 a2 a3 alt b3 J2
      obtain ⟨a0, a1, a2, a3, alt⟩ := J3.out
      go_wp2_with fail
      refine (K4.out _).mono ?_
      rintro e w4 ⟨rfl, b4⟩
      have J4 := Lib.hid (J3.out.later b4)
      have D4 := Lib.hid (then_below D3.out b4)
      clear a0 a1 a2 a3 alt b4 J3
      obtain ⟨a0, a1, a2, a3, alt⟩ := J4.out
      go_wp2_with fail
      refine (K5.out _).mono ?_
      rintro e w5 ⟨rfl, b5⟩
      have J5 := Lib.hid (J4.out.later b5)
      have D5 := Lib.hid (then_below D4.out b5)
      clear a0 a1 a2 a3 alt b5 J4
      obtain ⟨a0, a1, a2, a3, alt⟩ := J5.out
      rcases hos with rfl | rfl
      · go_wp2_with fail
        refine (K6.out _).mono ?_
        rintro e w6 ⟨rfl, b6⟩
        have J6 := Lib.hid (J5.out.later b6)
        have D6 := Lib.hid (then_below D5.out b6)
        clear a0 a1 a2 a3 alt b6 J5
        obtain ⟨a0, a1, a2, a3, alt⟩ := J6.out
        go_wp2_with fail
        refine (head_c _ (tab_later HT.out D6.out)).mono ?_
        rintro e w7 ⟨rfl, b7⟩
        have D7 := Lib.hid (then_below D6.out b7)
        clear b7
        go_wp2_with fail
        go_ret
        exact ⟨rfl, D7.out⟩
      · go_wp2_with fail
        refine (K6.out _).mono ?_
        rintro e w6 ⟨rfl, b6⟩
        have J6 := Lib.hid (J5.out.later b6)
        have D6 := Lib.hid (then_below D5.out b6)
        clear a0 a1 a2 a3 alt b6 J5
        obtain ⟨a0, a1, a2, a3, alt⟩ := J6.out
        go_wp2_with fail
        refine (head_c _ (tab_later HT.out D6.out)).mono ?_
        rintro e w7 ⟨rfl, b7⟩
        have D7 := Lib.hid (then_below D6.out b7)
        clear b7
        go_wp2_with fail
        go_ret
        exact ⟨rfl, D7.out⟩
end Go.Proofs.YtlmhifdilmnlnaaDoor.Pr
