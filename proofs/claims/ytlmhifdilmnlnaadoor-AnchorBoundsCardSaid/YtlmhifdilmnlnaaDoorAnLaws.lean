/- Package anchor: AnchorAts, AnchorBounds, AnchorFinds, AnchorLong. (gen_anlaws.py writes this.) -/
import Derived.Test.YtlmhifdilmnlnaaDoorAnLaw0
namespace Go.Proofs.YtlmhifdilmnlnaaDoor.An
open Go.RowKit Pr Cw Rf
theorem both_at (m a : Int) : ∃ v z : Int, ((1 ≤ m ∧ m ≤ 119988 ∧ 1 ≤ a ∧ a ≤ 31) → v = atv m a ∧ z = 0) ∧ (¬ (1 ≤ m ∧ m ≤ 119988 ∧ 1 ≤ a ∧ a ≤ 31) → z = 2) ∧ (∀ w, Tab w → Calls Tryd.prog 27 #[.int .i64 m, .int .i64 a] w fun e w' => e = .returned (.tuple #[.int .i64 v, .int .i64 z]) ∧ Below w.heap.size w w') ∧
    ∀ w, Calls Tryd.prog 28 #[.int .i64 m, .int .i64 a] w fun e w' => e = .returned (.tuple #[.int .i64 v, .int .i64 z]) ∧ w = w' := by
  by_cases h : 1 ≤ m ∧ m ≤ 119988 ∧ 1 ≤ a ∧ a ≤ 31
  · exact ⟨_, _, fun _ => ⟨rfl, rfl⟩, fun k => absurd h k, fun w hw => at_ok m a w hw h.1 h.2.1 h.2.2.1 h.2.2.2, fun w => rat_ok m a w h.1 h.2.1 h.2.2.1 h.2.2.2⟩
  · exact ⟨_, _, fun k => absurd k h, fun _ => rfl, fun w hw => at_no m a w hw (by omega), fun w => rat_no m a w (by omega)⟩
theorem both_check (c : Cy) : ∃ z : Int, (∀ w, Calls Tryd.prog 29 #[c.val] w fun e w' => e = .returned (.int .i64 z) ∧ Below w.heap.size w w') ∧ ∀ w, Calls Tryd.prog 30 #[c.val] w fun e w' => e = .returned (.int .i64 z) ∧ Below w.heap.size w w' := by
  by_cases h : c.Ok
  · exact ⟨_, fun w => check_yes c w h, fun w => rcheck_yes c w h⟩
  · exact ⟨_, fun w => check_no c w h, fun w => rcheck_no c w h⟩
theorem BoundRes.yes {c : Cy} {m : Int} {j : Nat} {w : World} {e : Ending} {w' : World} (hh : Has c m j) (hr : BoundRes c m j w e w') : e = .returned (.tuple #[.int .i64 (bnd c m j), .int .i64 0]) ∧ Below w.heap.size w w' := ⟨hr.1 hh, hr.2.2⟩
theorem BoundRes.no {c : Cy} {m : Int} {j : Nat} {w : World} {e : Ending} {w' : World} (hh : ¬ Has c m j) (hr : BoundRes c m j w e w') : e = .returned (.tuple #[.int .i64 0, .int .i64 7]) ∧ Below w.heap.size w w' := ⟨hr.2.1 hh, hr.2.2⟩
theorem both_bound (c : Cy) (k : Int) : ∃ v z : Int, (∀ w, Tab w → Calls Tryd.prog 32 #[c.val, .int .i64 k] w fun e w' => e = .returned (.tuple #[.int .i64 v, .int .i64 z]) ∧ Below w.heap.size w w') ∧
    ∀ w, Calls Tryd.prog 33 #[c.val, .int .i64 k] w fun e w' => e = .returned (.tuple #[.int .i64 v, .int .i64 z]) ∧ Below w.heap.size w w' := by
  by_cases h : c.Ok
  · by_cases hk : k < 0
    · exact ⟨_, _, fun w _ => bound_no c k w (Or.inr ⟨h, hk⟩), fun w => rbound_no c k w (Or.inr ⟨h, hk⟩)⟩
    · obtain ⟨j, rfl⟩ : ∃ j : Nat, k = (j : Int) := ⟨k.toNat, by omega⟩
      obtain ⟨m, hin⟩ := In.ex c.s h.s0 h.s1
      by_cases hh : Has c m j
      · exact ⟨_, _, fun w hw => (bound_in c m j w hw h hin).mono fun _ _ hr => hr.yes hh, fun w => (rbound_in c m j w h hin).mono fun _ _ hr => hr.yes hh⟩
      · exact ⟨_, _, fun w hw => (bound_in c m j w hw h hin).mono fun _ _ hr => hr.no hh, fun w => (rbound_in c m j w h hin).mono fun _ _ hr => hr.no hh⟩
  · exact ⟨_, _, fun w _ => bound_no c k w (Or.inl h), fun w => rbound_no c k w (Or.inl h)⟩
theorem both_find (c : Cy) (day : Int) : ∃ a b d z : Int, (∀ w, Tab w → Calls Tryd.prog 34 #[c.val, .int .i64 day] w fun e w' => e = .returned (.tuple #[.int .i64 a, .int .i64 b, .int .i64 d, .int .i64 z]) ∧ Below w.heap.size w w') ∧
    ∀ w, Calls Tryd.prog 35 #[c.val, .int .i64 day] w fun e w' => e = .returned (.tuple #[.int .i64 a, .int .i64 b, .int .i64 d, .int .i64 z]) ∧ Below w.heap.size w w' := by
  by_cases h : c.Ok
  · by_cases hd : 1 ≤ day ∧ day ≤ 3652059
    · obtain ⟨m, hin⟩ := In.ex c.s h.s0 h.s1
      by_cases hx : ∃ i, Per c m day i
      · obtain ⟨i, hp⟩ := hx
        exact ⟨_, _, _, _, fun w hw => (find_all c m day w hw h hin hd.1 hd.2).mono fun _ _ hr => hr.is h hin hp, fun w => (rfind_in c m day w h hin hd.1 hd.2).mono fun _ _ hr => hr.is h hin hp⟩
      · have hn : ∀ i, ¬ Per c m day i := fun i hi => hx ⟨i, hi⟩
        exact ⟨_, _, _, _, fun w hw => (find_all c m day w hw h hin hd.1 hd.2).mono fun _ _ hr => hr.none hn, fun w => (rfind_in c m day w h hin hd.1 hd.2).mono fun _ _ hr => hr.none hn⟩
    · have hb : dayB day = false := by
        cases hb : dayB day with
        | false => rfl
        | true => unfold dayB at hb; simp at hb; exact absurd hb hd
      exact ⟨_, _, _, _, fun w _ => find_no c day w (Or.inr ⟨h, hb⟩), fun w => rfind_no c day w (Or.inr ⟨h, by omega⟩)⟩
  · exact ⟨_, _, _, _, fun w _ => find_no c day w (Or.inl h), fun w => rfind_no c day w (Or.inl h)⟩
set_option maxRecDepth 100000 in
set_option maxHeartbeats 2000000 in
theorem bounds_law (c : Cy) (k : Int) (w : World) (hw : Tab w) : Calls Tryd.prog 10 #[.agg #[.int .i64 c.s, .int .i64 c.a, .int .i64 c.e], .int .i64 k] w fun e w' => e = .returned (.bool true) ∧ Below w.heap.size w w' := by
  have HT := Lib.hid hw
  obtain ⟨v, z, k1, k2⟩ := both_bound c k
  have K1 := Lib.hid k1
  have K2 := Lib.hid k2
  clear k1 k2 hw
  have C0 := Lib.hid (Cb.box c w)
  have D0 := Lib.hid ((Below.refl _ w).alloc (Nat.le_refl _) (.cells #[.int .i64 c.s, .int .i64 c.a, .int .i64 c.e] 56))
  obtain ⟨a0, a1, a2, alt⟩ := C0.out
  go_enter Tryd.func10, Tryd.ntmps10
  go_wp2_with fail
  refine (K1.out _ (tab_later HT.out D0.out)).mono ?_
  rintro e w1 ⟨rfl, b1⟩
  have C1 := Lib.hid (C0.out.later b1)
  have D1 := Lib.hid (then_below D0.out b1)
  clear b1 a0 a1 a2 alt
  obtain ⟨a0, a1, a2, alt⟩ := C1.out
  go_wp2_with fail
  refine (K2.out _).mono ?_
  rintro e w2 ⟨rfl, b2⟩
  have C2 := Lib.hid (C1.out.later b2)
  have D2 := Lib.hid (then_below D1.out b2)
  clear b2 a0 a1 a2 alt
  obtain ⟨a0, a1, a2, alt⟩ := C2.out
  go_wp2_with fail
  refine (head_c _ (tab_later HT.out D2.out)).mono ?_
  rintro e w3 ⟨rfl, b3⟩
  have D3 := Lib.hid (then_below D2.out b3)
  clear b3
  go_wp2_with fail
  go_ret
  exact ⟨rfl, D3.out⟩
set_option maxRecDepth 100000 in
set_option maxHeartbeats 2000000 in
theorem finds_law (c : Cy) (day : Int) (w : World) (hw : Tab w) : Calls Tryd.prog 11 #[.agg #[.int .i64 c.s, .int .i64 c.a, .int .i64 c.e], .int .i64 day] w fun e w' => e = .returned (.bool true) ∧ Below w.heap.size w w' := by
  have HT := Lib.hid hw
  obtain ⟨x, y, v, z, k1, k2⟩ := both_find c day
  have K1 := Lib.hid k1
  have K2 := Lib.hid k2
  clear k1 k2 hw
  have C0 := Lib.hid (Cb.box c w)
  have D0 := Lib.hid ((Below.refl _ w).alloc (Nat.le_refl _) (.cells #[.int .i64 c.s, .int .i64 c.a, .int .i64 c.e] 56))
  obtain ⟨a0, a1, a2, alt⟩ := C0.out
  go_enter Tryd.func11, Tryd.ntmps11
  go_wp2_with fail
  refine (K1.out _ (tab_later HT.out D0.out)).mono ?_
  rintro e w1 ⟨rfl, b1⟩
  have C1 := Lib.hid (C0.out.later b1)
  have D1 := Lib.hid (then_below D0.out b1)
  clear b1 a0 a1 a2 alt
  obtain ⟨a0, a1, a2, alt⟩ := C1.out
  go_wp2_with fail
  refine (K2.out _).mono ?_
  rintro e w2 ⟨rfl, b2⟩
  have C2 := Lib.hid (C1.out.later b2)
  have D2 := Lib.hid (then_below D1.out b2)
  clear b2 a0 a1 a2 alt
  obtain ⟨a0, a1, a2, alt⟩ := C2.out
  go_wp2_with fail
  refine (head_c _ (tab_later HT.out D2.out)).mono ?_
  rintro e w3 ⟨rfl, b3⟩
  have D3 := Lib.hid (then_below D2.out b3)
  clear b3
  go_wp2_with fail
  go_ret
  exact ⟨rfl, D3.out⟩
set_option maxRecDepth 100000 in
set_option maxHeartbeats 2000000 in
theorem ats_law (m a : Int) (c : Cy) (w : World) (hw : Tab w) : Calls Tryd.prog 9 #[.int .i64 m, .int .i64 a, .agg #[.int .i64 c.s, .int .i64 c.a, .int .i64 c.e]] w fun e w' => e = .returned (.bool true) ∧ Below w.heap.size w w' := by
  have HT := Lib.hid hw
  obtain ⟨v, z, -, -, k1, k2⟩ := both_at m a
  obtain ⟨y, k3, k4⟩ := both_check c
  have K1 := Lib.hid k1
  have K2 := Lib.hid k2
  have K3 := Lib.hid k3
  have K4 := Lib.hid k4
  have KH := Lib.hid head_c
  clear k1 k2 k3 k4 hw
  have C0 := Lib.hid (Cb.box c w)
  have D0 := Lib.hid ((Below.refl _ w).alloc (Nat.le_refl _) (.cells #[.int .i64 c.s, .int .i64 c.a, .int .i64 c.e] 56))
  obtain ⟨a0, a1, a2, alt⟩ := C0.out
  go_enter Tryd.func9, Tryd.ntmps9
  go_wp2_with fail
  refine (K1.out _ (tab_later HT.out D0.out)).mono ?_
  rintro e w1 ⟨rfl, b1⟩
  have C1 := Lib.hid (C0.out.later b1)
  have D1 := Lib.hid (then_below D0.out b1)
  clear b1 a0 a1 a2 alt
  obtain ⟨a0, a1, a2, alt⟩ := C1.out
  go_wp2_with fail
  refine (K2.out _).mono ?_
  rintro e w' ⟨rfl, rfl⟩
  go_wp2_with fail
  go_region_held3 (fun u => u.cell? ⟨w.heap.size, 0, none⟩ = some (.int .i64 c.s) ∧ u.cell? ⟨w.heap.size, 1, none⟩ = some (.int .i64 c.a) ∧ u.cell? ⟨w.heap.size, 2, none⟩ = some (.int .i64 c.e) ∧ Cb w.heap.size c u ∧ Below w.heap.size w u)
    (first | exact Cb.pack C1.out D1.out | exact Cb.pack C1.out.drew D1.out.drew | exact Cb.pack J1 G1)
    (first | (go_at_call 29; (try go_split_ands); refine (K3.out _).mono ?_; rintro e u1 ⟨rfl, b1⟩; have J1 := Cb.later (by assumption) b1; have G1 := then_below (by assumption) b1) | (go_at_call 30; (try go_split_ands); refine (K4.out _).mono ?_; rintro e u1 ⟨rfl, b1⟩; have J1 := Cb.later (by assumption) b1; have G1 := then_below (by assumption) b1) | (go_at_call 31; (try go_split_ands); refine (KH.out _ (tab_later HT.out (by assumption))).mono ?_; rintro e u1 ⟨rfl, b1⟩; have J1 := Cb.later (by assumption) b1; have G1 := then_below (by assumption) b1))
  go_split_ands
  go_wp2_with fail
  go_ret
  exact ⟨rfl, by assumption⟩
set_option maxRecDepth 100000 in
set_option maxHeartbeats 2000000 in
theorem long_law (m p q : Int) (w : World) (hw : Tab w) : Calls Tryd.prog 13 #[.int .i64 m, .int .i64 p, .int .i64 q] w fun e w' => e = .returned (.bool true) ∧ Below w.heap.size w w' := by
  have HT := Lib.hid hw
  have D0 := Lib.hid (Below.refl w.heap.size w)
  clear hw
  rcases Int.lt_trichotomy p q with hpq | rfl | hpq
  · obtain ⟨v, z, y1, n1, k1, -⟩ := both_at m p
    obtain ⟨u, y, y2, n2, k2, -⟩ := both_at m q
    have K1 := Lib.hid k1
    have K2 := Lib.hid k2
    clear k1 k2
    have f1 : p ≤ q := by omega
    have f2 : ¬ q ≤ p := by omega
    have f3 : ¬ q < p := by omega
    by_cases hm : 1 ≤ m ∧ m ≤ 119988
    case neg =>
      have KD := Lib.hid (show ∀ w, Calls Tryd.prog 25 #[.int .i64 m] w fun e w' => e = .returned (.tuple #[.int .i64 0, .int .i64 0, .int .i64 2]) ∧ w = w' from fun w => Cw.rdays_no m w (by omega))
      obtain rfl := n1 (by omega)
      obtain rfl := n2 (by omega)
      clear y1 y2 n1 n2 hm
      go_enter Tryd.func13, Tryd.ntmps13
      go_wp2_with fail
      refine (KD.out _).mono ?_
      rintro e w' ⟨rfl, rfl⟩
      go_wp2_with fail
      refine (K1.out _ (tab_later HT.out D0.out)).mono ?_
      rintro e w1 ⟨rfl, b1⟩
      have D1 := Lib.hid (then_below D0.out b1)
      clear b1
      go_wp2_with fail
      refine (K2.out _ (tab_later HT.out D1.out)).mono ?_
      rintro e w2 ⟨rfl, b2⟩
      have D2 := Lib.hid (then_below D1.out b2)
      clear b2
      go_wp2_with fail
      refine (head_c _ (tab_later HT.out D2.out)).mono ?_
      rintro e w3 ⟨rfl, b3⟩
      have D3 := Lib.hid (then_below D2.out b3)
      clear b3
      go_wp2_with fail
      go_ret
      exact ⟨rfl, D3.out⟩

    obtain ⟨m1, m2⟩ := hm
    have KD := Lib.hid (fun w => rdays_in m w m1 m2)
    by_cases hr : 1 ≤ p ∧ q ≤ 31
    case neg =>
      by_cases h1 : 1 ≤ p
      · have h2 : 31 < q := by omega
        obtain rfl := n2 (by omega)
        have hz : z = 0 ∨ z = 2 := by
          by_cases h9 : p ≤ 31
          · exact Or.inl (y1 ⟨m1, m2, h1, h9⟩).2
          · exact Or.inr (n1 (by omega))
        clear y1 y2 n1 n2 hr
        have hB := B_lo m m1
        have hE := E_hi m m2
        rcases hz with rfl | rfl
        all_goals
          go_enter Tryd.func13, Tryd.ntmps13
          go_wp2_with fail
          refine (KD.out _).mono ?_
          rintro e w' ⟨rfl, rfl⟩
          go_wp2_with fail
          refine (K1.out _ (tab_later HT.out D0.out)).mono ?_
          rintro e w1 ⟨rfl, b1⟩
          have D1 := Lib.hid (then_below D0.out b1)
          clear b1
          go_wp2_with fail
          refine (K2.out _ (tab_later HT.out D1.out)).mono ?_
          rintro e w2 ⟨rfl, b2⟩
          have D2 := Lib.hid (then_below D1.out b2)
          clear b2
          go_wp2_with fail
          refine (head_c _ (tab_later HT.out D2.out)).mono ?_
          rintro e w3 ⟨rfl, b3⟩
          have D3 := Lib.hid (then_below D2.out b3)
          clear b3
          go_wp2_with fail
          go_ret
          exact ⟨rfl, D3.out⟩
      · obtain rfl := n1 (by omega)
        clear y1 y2 n1 n2 hr
        have hB := B_lo m m1
        have hE := E_hi m m2
        go_enter Tryd.func13, Tryd.ntmps13
        go_wp2_with fail
        refine (KD.out _).mono ?_
        rintro e w' ⟨rfl, rfl⟩
        go_wp2_with fail
        refine (K1.out _ (tab_later HT.out D0.out)).mono ?_
        rintro e w1 ⟨rfl, b1⟩
        have D1 := Lib.hid (then_below D0.out b1)
        clear b1
        go_wp2_with fail
        refine (K2.out _ (tab_later HT.out D1.out)).mono ?_
        rintro e w2 ⟨rfl, b2⟩
        have D2 := Lib.hid (then_below D1.out b2)
        clear b2
        go_wp2_with fail
        refine (head_c _ (tab_later HT.out D2.out)).mono ?_
        rintro e w3 ⟨rfl, b3⟩
        have D3 := Lib.hid (then_below D2.out b3)
        clear b3
        go_wp2_with fail
        go_ret
        exact ⟨rfl, D3.out⟩

    obtain ⟨r1, r2⟩ := hr
    obtain ⟨hv, rfl⟩ := y1 ⟨m1, m2, r1, by omega⟩
    obtain ⟨hu, rfl⟩ := y2 ⟨m1, m2, by omega, r2⟩
    have hB := B_lo m m1
    have hE := E_hi m m2
    have hBE := BE m
    have g1 : v ≤ u := by rw [hv, hu]; unfold atv; split <;> (try split) <;> omega
    have g2 : B m + 1 ≤ v := by rw [hv]; have := (atv_bd m p r1).1; omega
    have g3 : u ≤ E m := by rw [hu]; exact (atv_bd m q (by omega)).2
    have g4 : v = B m + 1 + p - 1 ∨ (v = E m ∧ E m < B m + 1 + p - 1) := by rw [hv]; unfold atv; split <;> omega
    clear y1 y2 n1 n2 hv hu
    generalize B m = b0 at *
    generalize E m = e0 at *
    rcases g4 with g4 | ⟨g4, g5⟩
    · have g6 : (v == b0 + 1 + p - 1) = true := by simpa using g4
      clear g4
      go_enter Tryd.func13, Tryd.ntmps13
      go_wp2_with fail
      refine (KD.out _).mono ?_
      rintro e w' ⟨rfl, rfl⟩
      go_wp2_with fail
      refine (K1.out _ (tab_later HT.out D0.out)).mono ?_
      rintro e w1 ⟨rfl, b1⟩
      have D1 := Lib.hid (then_below D0.out b1)
      clear b1
      go_wp2_with fail
      refine (K2.out _ (tab_later HT.out D1.out)).mono ?_
      rintro e w2 ⟨rfl, b2⟩
      have D2 := Lib.hid (then_below D1.out b2)
      clear b2
      go_wp2_with fail
      refine (head_c _ (tab_later HT.out D2.out)).mono ?_
      rintro e w3 ⟨rfl, b3⟩
      have D3 := Lib.hid (then_below D2.out b3)
      clear b3
      go_wp2_with fail
      go_ret
      exact ⟨rfl, D3.out⟩
    · by_cases g7 : v = b0 + 1 + p - 1
      · omega
      · have g6 : (v == b0 + 1 + p - 1) = false := by simpa using g7
        have g8 : (v == e0) = true := by simpa using g4
        clear g4 g7
        go_enter Tryd.func13, Tryd.ntmps13
        go_wp2_with fail
        refine (KD.out _).mono ?_
        rintro e w' ⟨rfl, rfl⟩
        go_wp2_with fail
        refine (K1.out _ (tab_later HT.out D0.out)).mono ?_
        rintro e w1 ⟨rfl, b1⟩
        have D1 := Lib.hid (then_below D0.out b1)
        clear b1
        go_wp2_with fail
        refine (K2.out _ (tab_later HT.out D1.out)).mono ?_
        rintro e w2 ⟨rfl, b2⟩
        have D2 := Lib.hid (then_below D1.out b2)
        clear b2
        go_wp2_with fail
        refine (head_c _ (tab_later HT.out D2.out)).mono ?_
        rintro e w3 ⟨rfl, b3⟩
        have D3 := Lib.hid (then_below D2.out b3)
        clear b3
        go_wp2_with fail
        go_ret
        exact ⟨rfl, D3.out⟩
  · obtain ⟨v, z, y1, n1, k1, -⟩ := both_at m p
    obtain ⟨u, y, y2, n2, k2, -⟩ := both_at m p
    have K1 := Lib.hid k1
    have K2 := Lib.hid k2
    clear k1 k2
    by_cases hm : 1 ≤ m ∧ m ≤ 119988
    case neg =>
      have KD := Lib.hid (show ∀ w, Calls Tryd.prog 25 #[.int .i64 m] w fun e w' => e = .returned (.tuple #[.int .i64 0, .int .i64 0, .int .i64 2]) ∧ w = w' from fun w => Cw.rdays_no m w (by omega))
      obtain rfl := n1 (by omega)
      obtain rfl := n2 (by omega)
      clear y1 y2 n1 n2 hm
      go_enter Tryd.func13, Tryd.ntmps13
      go_wp2_with fail
      refine (KD.out _).mono ?_
      rintro e w' ⟨rfl, rfl⟩
      go_wp2_with fail
      refine (K1.out _ (tab_later HT.out D0.out)).mono ?_
      rintro e w1 ⟨rfl, b1⟩
      have D1 := Lib.hid (then_below D0.out b1)
      clear b1
      go_wp2_with fail
      refine (K2.out _ (tab_later HT.out D1.out)).mono ?_
      rintro e w2 ⟨rfl, b2⟩
      have D2 := Lib.hid (then_below D1.out b2)
      clear b2
      go_wp2_with fail
      refine (head_c _ (tab_later HT.out D2.out)).mono ?_
      rintro e w3 ⟨rfl, b3⟩
      have D3 := Lib.hid (then_below D2.out b3)
      clear b3
      go_wp2_with fail
      go_ret
      exact ⟨rfl, D3.out⟩

    obtain ⟨m1, m2⟩ := hm
    have KD := Lib.hid (fun w => rdays_in m w m1 m2)
    by_cases hr : 1 ≤ p ∧ p ≤ 31
    case neg =>
      by_cases h1 : 1 ≤ p
      · have h2 : 31 < p := by omega
        obtain rfl := n2 (by omega)
        have hz : z = 0 ∨ z = 2 := by
          by_cases h9 : p ≤ 31
          · exact Or.inl (y1 ⟨m1, m2, h1, h9⟩).2
          · exact Or.inr (n1 (by omega))
        clear y1 y2 n1 n2 hr
        have hB := B_lo m m1
        have hE := E_hi m m2
        rcases hz with rfl | rfl
        all_goals
          go_enter Tryd.func13, Tryd.ntmps13
          go_wp2_with fail
          refine (KD.out _).mono ?_
          rintro e w' ⟨rfl, rfl⟩
          go_wp2_with fail
          refine (K1.out _ (tab_later HT.out D0.out)).mono ?_
          rintro e w1 ⟨rfl, b1⟩
          have D1 := Lib.hid (then_below D0.out b1)
          clear b1
          go_wp2_with fail
          refine (K2.out _ (tab_later HT.out D1.out)).mono ?_
          rintro e w2 ⟨rfl, b2⟩
          have D2 := Lib.hid (then_below D1.out b2)
          clear b2
          go_wp2_with fail
          refine (head_c _ (tab_later HT.out D2.out)).mono ?_
          rintro e w3 ⟨rfl, b3⟩
          have D3 := Lib.hid (then_below D2.out b3)
          clear b3
          go_wp2_with fail
          go_ret
          exact ⟨rfl, D3.out⟩
      · obtain rfl := n1 (by omega)
        clear y1 y2 n1 n2 hr
        have hB := B_lo m m1
        have hE := E_hi m m2
        go_enter Tryd.func13, Tryd.ntmps13
        go_wp2_with fail
        refine (KD.out _).mono ?_
        rintro e w' ⟨rfl, rfl⟩
        go_wp2_with fail
        refine (K1.out _ (tab_later HT.out D0.out)).mono ?_
        rintro e w1 ⟨rfl, b1⟩
        have D1 := Lib.hid (then_below D0.out b1)
        clear b1
        go_wp2_with fail
        refine (K2.out _ (tab_later HT.out D1.out)).mono ?_
        rintro e w2 ⟨rfl, b2⟩
        have D2 := Lib.hid (then_below D1.out b2)
        clear b2
        go_wp2_with fail
        refine (head_c _ (tab_later HT.out D2.out)).mono ?_
        rintro e w3 ⟨rfl, b3⟩
        have D3 := Lib.hid (then_below D2.out b3)
        clear b3
        go_wp2_with fail
        go_ret
        exact ⟨rfl, D3.out⟩

    obtain ⟨r1, r2⟩ := hr
    obtain ⟨hv, rfl⟩ := y1 ⟨m1, m2, r1, by omega⟩
    obtain ⟨hu, rfl⟩ := y2 ⟨m1, m2, by omega, r2⟩
    have hB := B_lo m m1
    have hE := E_hi m m2
    have hBE := BE m
    have g1 : v ≤ u := by rw [hv, hu]; unfold atv; split <;> (try split) <;> omega
    have g2 : B m + 1 ≤ v := by rw [hv]; have := (atv_bd m p r1).1; omega
    have g3 : u ≤ E m := by rw [hu]; exact (atv_bd m p (by omega)).2
    have g4 : v = B m + 1 + p - 1 ∨ (v = E m ∧ E m < B m + 1 + p - 1) := by rw [hv]; unfold atv; split <;> omega
    clear y1 y2 n1 n2 hv hu
    generalize B m = b0 at *
    generalize E m = e0 at *
    rcases g4 with g4 | ⟨g4, g5⟩
    · have g6 : (v == b0 + 1 + p - 1) = true := by simpa using g4
      clear g4
      go_enter Tryd.func13, Tryd.ntmps13
      go_wp2_with fail
      refine (KD.out _).mono ?_
      rintro e w' ⟨rfl, rfl⟩
      go_wp2_with fail
      refine (K1.out _ (tab_later HT.out D0.out)).mono ?_
      rintro e w1 ⟨rfl, b1⟩
      have D1 := Lib.hid (then_below D0.out b1)
      clear b1
      go_wp2_with fail
      refine (K2.out _ (tab_later HT.out D1.out)).mono ?_
      rintro e w2 ⟨rfl, b2⟩
      have D2 := Lib.hid (then_below D1.out b2)
      clear b2
      go_wp2_with fail
      refine (head_c _ (tab_later HT.out D2.out)).mono ?_
      rintro e w3 ⟨rfl, b3⟩
      have D3 := Lib.hid (then_below D2.out b3)
      clear b3
      go_wp2_with fail
      go_ret
      exact ⟨rfl, D3.out⟩
    · by_cases g7 : v = b0 + 1 + p - 1
      · omega
      · have g6 : (v == b0 + 1 + p - 1) = false := by simpa using g7
        have g8 : (v == e0) = true := by simpa using g4
        clear g4 g7
        go_enter Tryd.func13, Tryd.ntmps13
        go_wp2_with fail
        refine (KD.out _).mono ?_
        rintro e w' ⟨rfl, rfl⟩
        go_wp2_with fail
        refine (K1.out _ (tab_later HT.out D0.out)).mono ?_
        rintro e w1 ⟨rfl, b1⟩
        have D1 := Lib.hid (then_below D0.out b1)
        clear b1
        go_wp2_with fail
        refine (K2.out _ (tab_later HT.out D1.out)).mono ?_
        rintro e w2 ⟨rfl, b2⟩
        have D2 := Lib.hid (then_below D1.out b2)
        clear b2
        go_wp2_with fail
        refine (head_c _ (tab_later HT.out D2.out)).mono ?_
        rintro e w3 ⟨rfl, b3⟩
        have D3 := Lib.hid (then_below D2.out b3)
        clear b3
        go_wp2_with fail
        go_ret
        exact ⟨rfl, D3.out⟩
  · obtain ⟨v, z, y1, n1, k1, -⟩ := both_at m q
    obtain ⟨u, y, y2, n2, k2, -⟩ := both_at m p
    have K1 := Lib.hid k1
    have K2 := Lib.hid k2
    clear k1 k2
    have f1 : q ≤ p := by omega
    have f2 : ¬ p ≤ q := by omega
    have f3 : ¬ p < q := by omega
    by_cases hm : 1 ≤ m ∧ m ≤ 119988
    case neg =>
      have KD := Lib.hid (show ∀ w, Calls Tryd.prog 25 #[.int .i64 m] w fun e w' => e = .returned (.tuple #[.int .i64 0, .int .i64 0, .int .i64 2]) ∧ w = w' from fun w => Cw.rdays_no m w (by omega))
      obtain rfl := n1 (by omega)
      obtain rfl := n2 (by omega)
      clear y1 y2 n1 n2 hm
      go_enter Tryd.func13, Tryd.ntmps13
      go_wp2_with fail
      refine (KD.out _).mono ?_
      rintro e w' ⟨rfl, rfl⟩
      go_wp2_with fail
      refine (K1.out _ (tab_later HT.out D0.out)).mono ?_
      rintro e w1 ⟨rfl, b1⟩
      have D1 := Lib.hid (then_below D0.out b1)
      clear b1
      go_wp2_with fail
      refine (K2.out _ (tab_later HT.out D1.out)).mono ?_
      rintro e w2 ⟨rfl, b2⟩
      have D2 := Lib.hid (then_below D1.out b2)
      clear b2
      go_wp2_with fail
      refine (head_c _ (tab_later HT.out D2.out)).mono ?_
      rintro e w3 ⟨rfl, b3⟩
      have D3 := Lib.hid (then_below D2.out b3)
      clear b3
      go_wp2_with fail
      go_ret
      exact ⟨rfl, D3.out⟩

    obtain ⟨m1, m2⟩ := hm
    have KD := Lib.hid (fun w => rdays_in m w m1 m2)
    by_cases hr : 1 ≤ q ∧ p ≤ 31
    case neg =>
      by_cases h1 : 1 ≤ q
      · have h2 : 31 < p := by omega
        obtain rfl := n2 (by omega)
        have hz : z = 0 ∨ z = 2 := by
          by_cases h9 : q ≤ 31
          · exact Or.inl (y1 ⟨m1, m2, h1, h9⟩).2
          · exact Or.inr (n1 (by omega))
        clear y1 y2 n1 n2 hr
        have hB := B_lo m m1
        have hE := E_hi m m2
        rcases hz with rfl | rfl
        all_goals
          go_enter Tryd.func13, Tryd.ntmps13
          go_wp2_with fail
          refine (KD.out _).mono ?_
          rintro e w' ⟨rfl, rfl⟩
          go_wp2_with fail
          refine (K1.out _ (tab_later HT.out D0.out)).mono ?_
          rintro e w1 ⟨rfl, b1⟩
          have D1 := Lib.hid (then_below D0.out b1)
          clear b1
          go_wp2_with fail
          refine (K2.out _ (tab_later HT.out D1.out)).mono ?_
          rintro e w2 ⟨rfl, b2⟩
          have D2 := Lib.hid (then_below D1.out b2)
          clear b2
          go_wp2_with fail
          refine (head_c _ (tab_later HT.out D2.out)).mono ?_
          rintro e w3 ⟨rfl, b3⟩
          have D3 := Lib.hid (then_below D2.out b3)
          clear b3
          go_wp2_with fail
          go_ret
          exact ⟨rfl, D3.out⟩
      · obtain rfl := n1 (by omega)
        clear y1 y2 n1 n2 hr
        have hB := B_lo m m1
        have hE := E_hi m m2
        go_enter Tryd.func13, Tryd.ntmps13
        go_wp2_with fail
        refine (KD.out _).mono ?_
        rintro e w' ⟨rfl, rfl⟩
        go_wp2_with fail
        refine (K1.out _ (tab_later HT.out D0.out)).mono ?_
        rintro e w1 ⟨rfl, b1⟩
        have D1 := Lib.hid (then_below D0.out b1)
        clear b1
        go_wp2_with fail
        refine (K2.out _ (tab_later HT.out D1.out)).mono ?_
        rintro e w2 ⟨rfl, b2⟩
        have D2 := Lib.hid (then_below D1.out b2)
        clear b2
        go_wp2_with fail
        refine (head_c _ (tab_later HT.out D2.out)).mono ?_
        rintro e w3 ⟨rfl, b3⟩
        have D3 := Lib.hid (then_below D2.out b3)
        clear b3
        go_wp2_with fail
        go_ret
        exact ⟨rfl, D3.out⟩

    obtain ⟨r1, r2⟩ := hr
    obtain ⟨hv, rfl⟩ := y1 ⟨m1, m2, r1, by omega⟩
    obtain ⟨hu, rfl⟩ := y2 ⟨m1, m2, by omega, r2⟩
    have hB := B_lo m m1
    have hE := E_hi m m2
    have hBE := BE m
    have g1 : v ≤ u := by rw [hv, hu]; unfold atv; split <;> (try split) <;> omega
    have g2 : B m + 1 ≤ v := by rw [hv]; have := (atv_bd m q r1).1; omega
    have g3 : u ≤ E m := by rw [hu]; exact (atv_bd m p (by omega)).2
    have g4 : v = B m + 1 + q - 1 ∨ (v = E m ∧ E m < B m + 1 + q - 1) := by rw [hv]; unfold atv; split <;> omega
    clear y1 y2 n1 n2 hv hu
    generalize B m = b0 at *
    generalize E m = e0 at *
    rcases g4 with g4 | ⟨g4, g5⟩
    · have g6 : (v == b0 + 1 + q - 1) = true := by simpa using g4
      clear g4
      go_enter Tryd.func13, Tryd.ntmps13
      go_wp2_with fail
      refine (KD.out _).mono ?_
      rintro e w' ⟨rfl, rfl⟩
      go_wp2_with fail
      refine (K1.out _ (tab_later HT.out D0.out)).mono ?_
      rintro e w1 ⟨rfl, b1⟩
      have D1 := Lib.hid (then_below D0.out b1)
      clear b1
      go_wp2_with fail
      refine (K2.out _ (tab_later HT.out D1.out)).mono ?_
      rintro e w2 ⟨rfl, b2⟩
      have D2 := Lib.hid (then_below D1.out b2)
      clear b2
      go_wp2_with fail
      refine (head_c _ (tab_later HT.out D2.out)).mono ?_
      rintro e w3 ⟨rfl, b3⟩
      have D3 := Lib.hid (then_below D2.out b3)
      clear b3
      go_wp2_with fail
      go_ret
      exact ⟨rfl, D3.out⟩
    · by_cases g7 : v = b0 + 1 + q - 1
      · omega
      · have g6 : (v == b0 + 1 + q - 1) = false := by simpa using g7
        have g8 : (v == e0) = true := by simpa using g4
        clear g4 g7
        go_enter Tryd.func13, Tryd.ntmps13
        go_wp2_with fail
        refine (KD.out _).mono ?_
        rintro e w' ⟨rfl, rfl⟩
        go_wp2_with fail
        refine (K1.out _ (tab_later HT.out D0.out)).mono ?_
        rintro e w1 ⟨rfl, b1⟩
        have D1 := Lib.hid (then_below D0.out b1)
        clear b1
        go_wp2_with fail
        refine (K2.out _ (tab_later HT.out D1.out)).mono ?_
        rintro e w2 ⟨rfl, b2⟩
        have D2 := Lib.hid (then_below D1.out b2)
        clear b2
        go_wp2_with fail
        refine (head_c _ (tab_later HT.out D2.out)).mono ?_
        rintro e w3 ⟨rfl, b3⟩
        have D3 := Lib.hid (then_below D2.out b3)
        clear b3
        go_wp2_with fail
        go_ret
        exact ⟨rfl, D3.out⟩
end Go.Proofs.YtlmhifdilmnlnaaDoor.An
