/- Package anchor: what 'bounds' yields. (gen_anbounds.py writes this.) -/
import Derived.Test.YtjchecjonkmhgaaDoorAoCheck
namespace Go.Proofs.YtjchecjonkmhgaaDoor.An
open Go.RowKit Go.Shelf Pr Cw Rf
attribute [local go_sem] Oper.semAt_some
theorem bounds_c (c : Cy) (k : Int) (w : World) :
    Calls Tryd.prog 55 #[c.val, .int .i64 k] w fun e w' => e = .returned (.func (.func 69) #[] #[.pointer (some ⟨w.heap.size + 1, 0, none⟩), .pointer (some ⟨w.heap.size, 0, none⟩)]) ∧ w' = (w.alloc (.cells #[.int .i64 c.s, .int .i64 c.a, .int .i64 c.e] 24)).alloc (.cells #[.int .i64 k] 3) := by
  have hmf := mk_fn
  go_enter Tryd.func55, Tryd.ntmps55
  unfold Cy.val
  go_wp2_with fail
  go_ret
  exact ⟨rfl, rfl⟩
/-- The boxes of an iteration: the cycle's at b, the number's behind it. -/
structure Kb (b : Nat) (c : Cy) (k : Int) (w : World) : Prop where
  c0 : w.cell? ⟨b, 0, none⟩ = some (.int .i64 c.s)
  c1 : w.cell? ⟨b, 1, none⟩ = some (.int .i64 c.a)
  c2 : w.cell? ⟨b, 2, none⟩ = some (.int .i64 c.e)
  k0 : w.cell? ⟨b + 1, 0, none⟩ = some (.int .i64 k)
  kf : w.frozen? ⟨b + 1, 0, none⟩ = false
  lt : b + 1 < w.heap.size
  t : Tab w
theorem Kb.later {b : Nat} {c : Cy} {k : Int} {w w' : World} (h : Kb b c k w) (hb : Below w.heap.size w w') : Kb b c k w' := by
  have := h.lt
  exact ⟨(hb.cell (by simp; omega)).trans h.c0, (hb.cell (by simp; omega)).trans h.c1, (hb.cell (by simp; omega)).trans h.c2, (hb.cell (by simpa using h.lt)).trans h.k0, (hb.frozen (by simpa using h.lt)).trans h.kf, Nat.lt_of_lt_of_le h.lt hb.size, tab_later h.t hb⟩
theorem Kb.kept {n b : Nat} {c : Cy} {k : Int} {w w' : World} (h : Kb b c k w) (hk : Kp n b w w') (hn : 0 < n) : Kb b c k w' :=
  ⟨(hk.cell b 0 (by omega)).trans h.c0, (hk.cell b 1 (by omega)).trans h.c1, (hk.cell b 2 (by omega)).trans h.c2, (hk.cell (b + 1) 0 (by omega)).trans h.k0, (hk.frozen (b + 1) 0 (by omega)).trans h.kf, World.block_lt_of_cell? w' ⟨b + 1, 0, none⟩ ((hk.cell (b + 1) 0 (by omega)).trans h.k0), tab_kept h.t hk hn⟩
theorem Kb.set {b : Nat} {c : Cy} {k : Int} {w : World} (h : Kb b c k w) (j : Int) : Kb b c j (w.setCell ⟨b + 1, 0, none⟩ (.int .i64 j)) :=
  ⟨(World.cell?_setCell_other _ _ _ _ (by simp)).trans h.c0, (World.cell?_setCell_other _ _ _ _ (by simp)).trans h.c1, (World.cell?_setCell_other _ _ _ _ (by simp)).trans h.c2, World.cell?_setCell_same' _ _ _ (by rw [h.k0]; rfl), by rw [World.frozen?_setCell]; exact h.kf, by simpa [World.setCell] using h.lt, tab_set h.t _ (by omega)⟩
abbrev BY (c : Cy) (m : Int) (k0 : Nat) (n b : Nat) (W0 : World) : Prop :=
  Rf.Yields Tryd.prog 69 #[.pointer (some ⟨b + 1, 0, none⟩), .pointer (some ⟨b, 0, none⟩)] (fun y : Int × Int => #[.int .i64 y.1, .int .i64 y.2]) (fun k => k = b + 1) (Kp n b) (fun xs => ¬ Has c m (k0 + xs.length)) (fun _ => True)
    (fun pre y => y = (((k0 + pre.length : Nat) : Int), bnd c m (k0 + pre.length)) ∧ Has c m (k0 + pre.length)) W0
theorem has_hi {c : Cy} {m : Int} {j : Nat} (h : c.Ok) (hm : 1 ≤ m) (hj : 119988 < j) : ¬ Has c m j := by
  obtain ⟨i, rfl⟩ : ∃ i, j = i + 1 := ⟨j - 1, by omega⟩
  rw [has_s]
  have h1 := (fst_bd (m := m) h).1
  have h2 : (i : Int) * 1 ≤ (i : Int) * c.e := Int.mul_le_mul_of_nonneg_left h.e0 (by omega)
  omega
set_option maxRecDepth 100000 in
set_option maxHeartbeats 4000000 in
theorem yields_hi (c : Cy) (m : Int) (k0 : Nat) (hk : 119988 < k0) (n b : Nat) (W0 : World) (_hn : 0 < n) (h : c.Ok) (hin : In m c.s) (h0 : Kb b c (k0 : Int) W0) : BY c m k0 n b W0 := fun l J Jx W hW _sJ _sJx _hY hJ0 => by
  obtain ⟨c0, c1, c2, q0, kf, lt, ht⟩ := h0.later hW
  have hS := Lib.hid (has_hi h hin.lo (j := k0 + ([] : List (Int × Int)).length) (by simp; omega))
  have hz : ((k0 : Int) == 0) = false := by simp; omega
  have hz2 : decide ((119988 : Int) < (k0 : Int)) = true := decide_eq_true (by omega)
  clear ht h0 hk
  refine callsIn_of_wp Tryd.func69 rfl trivial ?_ rfl
  simp only [Tryd.ntmps69, List.size_toArray, List.length_cons, List.length_nil, Nat.reduceAdd, Nat.reduceSub, Array.replicate_succ, Array.replicate_zero, List.push_toArray, List.append_toArray, List.nil_append, List.cons_append]
  gi_wp2_with fail
  refine bodyPost_ret (results_none rfl _ _ _) rfl ?_
  exact ⟨⟨_, rfl⟩, .inl ⟨[], hS.out, hJ0⟩⟩
set_option maxRecDepth 100000 in
set_option maxHeartbeats 4000000 in
theorem yields_pos (c : Cy) (m : Int) (j0 : Nat) (hk : j0 + 1 ≤ 119988) (n b : Nat) (W0 : World) (hn : 0 < n) (h : c.Ok) (hin : In m c.s) (h0 : Kb b c ((j0 : Int) + 1) W0) : BY c m (j0 + 1) n b W0 := fun l J Jx W hW sJ _sJx hY hJ0 => by
  obtain ⟨q, hq⟩ : ∃ q : Int, (j0 : Int) = q := ⟨_, rfl⟩
  have q1 : 0 ≤ q := by omega
  have q2 : q ≤ 119987 := by omega
  rw [hq] at h0
  have HQ := Lib.hid hq
  have HK0 := Lib.hid (h0.later hW)
  have hz : (q + 1 == 0) = false := by simp; omega
  have e0 := h.e0
  have e1 := h.e1
  have m0 := hin.lo
  have m9 := hin.hi
  have KO := Lib.hid (of_in hin)
  have KM := Lib.hid (fun w hw => at_ok m c.a w hw hin.lo hin.hi h.a0 h.a1)
  have hp1 : q * c.e ≤ q * 120 := Int.mul_le_mul_of_nonneg_left e1 q1
  have hp0 : q * 1 ≤ q * c.e := Int.mul_le_mul_of_nonneg_left e0 q1
  obtain ⟨p, hp⟩ : ∃ p, q * c.e = p := ⟨_, rfl⟩
  rw [hp] at hp1 hp0
  have hp2 : p ≤ 14398560 := by omega
  have hp3 : q ≤ p := by omega
  have HPP := Lib.hid hp
  have hJs := hJ0
  clear h0 hp1 hp0 hk hq
  obtain ⟨c0, c1, c2, q0, kf, lt, ht⟩ := HK0.out
  clear ht
  refine callsIn_of_wp Tryd.func69 rfl trivial ?_ rfl
  simp only [Tryd.ntmps69, List.size_toArray, List.length_cons, List.length_nil, Nat.reduceAdd, Nat.reduceSub, Array.replicate_succ, Array.replicate_zero, List.push_toArray, List.append_toArray, List.nil_append, List.cons_append]
  gi_wp2_with fail
  refine ⟨trivial, (callsIn_wide.2 (KO.out _ HK0.out.t)).mono ?_⟩
  rintro e w' ⟨rfl, rfl⟩
  gi_wp2_with fail
  refine ⟨trivial, (callsIn_wide.2 (KM.out _ HK0.out.t)).mono ?_⟩
  rintro e w3 ⟨rfl, b3⟩
  have HK3 := Lib.hid (HK0.out.later b3)
  have hJ3 := sJ.below _ _ _ hJs b3
  clear c0 c1 c2 q0 kf lt b3 hJs
  obtain ⟨c0, c1, c2, q0, kf, lt, ht⟩ := HK3.out
  clear ht
  by_cases hat : atv m c.a ≤ c.s
  · have hf := Lib.hid (show fst c m = m + c.e from if_pos hat)
    gi_wp2_with fail
    gi_loopw [4, 8, 9] (fun mm _ _ wr => ∃ (pre : List (Int × Int)) (j : Nat) (mo kk : Int), mm = .int .i64 mo ∧ Hid (kk = (j : Int) + 1) ∧ Hid (mo = fst c m + (j : Int) * c.e) ∧ pre.length + (j0 + 1) = j + 1 ∧ 1 ≤ mo ∧ mo ≤ 20000000 ∧ kk ≤ mo ∧ 1 ≤ kk ∧ Kb b c kk wr ∧ J pre wr) (fun mm _ _ _ => (30000000 - intOf mm).toNat)
    case atStart => exact ⟨[], j0, m + c.e + p, q + 1, rfl, by rw [HQ.out]; rfl, by rw [hf.out, HQ.out, HPP.out]; rfl, by simp, by omega, by omega, by omega, by omega, HK3.out, hJ3⟩
    case round =>
      obtain ⟨pre, j, mo, kk, rfl, hkk, hmo, hpl, m1, m2, m3, m4, hK, hJs⟩ := hrel
      have HK := Lib.hid hK
      have HP := Lib.hid hpl
      clear hK hpl
      obtain ⟨c0, c1, c2, q0, kf, lt, ht⟩ := HK.out
      clear ht
      by_cases hlt : mo ≤ 119988
      · have hH := Lib.hid ((has_s c m j).2 (by rw [← hmo.out]; exact hlt))
        have hB := Lib.hid (bnd_s c m j)
        have KA := Lib.hid (fun w hw => at_ok mo c.a w hw m1 hlt h.a0 h.a1)
        gi_wp2_with fail
        refine ⟨trivial, (callsIn_wide.2 (KA.out _ HK.out.t)).mono ?_⟩
        rintro e w1 ⟨rfl, b1⟩
        have HK1 := Lib.hid (HK.out.later b1)
        have hJ1 := sJ.below _ _ _ hJs b1
        clear c0 c1 c2 q0 kf lt b1 hJs
        obtain ⟨c0, c1, c2, q0, kf, lt, ht⟩ := HK1.out
        clear ht
        obtain ⟨fn, tmps, assign, body, hy, hRd⟩ := hY pre (kk, atv mo c.a) w1 hJ1 ⟨by rw [show (j0 + 1) + pre.length = j + 1 by have := HP.out; omega, hB.out, ← hmo.out, hkk.out]; rfl, by rw [show (j0 + 1) + pre.length = j + 1 by have := HP.out; omega]; exact hH.out⟩
        dsimp only at hy
        gi_wp2_with fail
        refine hRd.mono ?_
        rintro e w2 (⟨rfl, hJ2, hk2⟩ | ⟨rfl, hx2⟩)
        · have HK2 := Lib.hid (HK1.out.kept hk2 hn)
          clear c0 c1 c2 q0 kf lt
          obtain ⟨c0, c1, c2, q0, kf, lt, ht⟩ := HK2.out
          clear ht hy
          gi_wp2
          go_roundw
          case rel => exact ⟨pre ++ [(kk, atv mo c.a)], j + 1, mo + c.e, kk + 1, rfl, by rw [hkk.out]; rfl, by rw [hmo.out, show ((j + 1 : Nat) : Int) = (j : Int) + 1 by omega, Int.add_mul, Int.one_mul]; exact Int.add_assoc _ _ _, by have := HP.out; simp; omega, by omega, by omega, by omega, by omega, HK2.out.set _, sJ.put _ _ _ _ rfl hJ2⟩
          case measure => simp [intOf]; omega
        · gi_wp2
          refine bodyPost_ret (results_none rfl _ _ _) rfl ?_
          exact ⟨⟨_, rfl⟩, .inr ⟨_, trivial, hx2⟩⟩
      · have hS := Lib.hid (show ¬ Has c m ((j0 + 1) + pre.length) by rw [show (j0 + 1) + pre.length = j + 1 by have := HP.out; omega, has_s, ← hmo.out]; exact hlt)
        gi_wp2_with fail
        go_end0
        exact ⟨⟨_, rfl⟩, .inl ⟨pre, by first | exact hS.out | simpa using hS.out, hJs⟩⟩
  · have hf := Lib.hid (show fst c m = m from if_neg hat)
    have hat2 : c.s < atv m c.a := by omega
    gi_wp2_with fail
    gi_loopw [4, 8, 9] (fun mm _ _ wr => ∃ (pre : List (Int × Int)) (j : Nat) (mo kk : Int), mm = .int .i64 mo ∧ Hid (kk = (j : Int) + 1) ∧ Hid (mo = fst c m + (j : Int) * c.e) ∧ pre.length + (j0 + 1) = j + 1 ∧ 1 ≤ mo ∧ mo ≤ 20000000 ∧ kk ≤ mo ∧ 1 ≤ kk ∧ Kb b c kk wr ∧ J pre wr) (fun mm _ _ _ => (30000000 - intOf mm).toNat)
    case atStart => exact ⟨[], j0, m + p, q + 1, rfl, by rw [HQ.out]; rfl, by rw [hf.out, HQ.out, HPP.out]; rfl, by simp, by omega, by omega, by omega, by omega, HK3.out, hJ3⟩
    case round =>
      obtain ⟨pre, j, mo, kk, rfl, hkk, hmo, hpl, m1, m2, m3, m4, hK, hJs⟩ := hrel
      have HK := Lib.hid hK
      have HP := Lib.hid hpl
      clear hK hpl
      obtain ⟨c0, c1, c2, q0, kf, lt, ht⟩ := HK.out
      clear ht
      by_cases hlt : mo ≤ 119988
      · have hH := Lib.hid ((has_s c m j).2 (by rw [← hmo.out]; exact hlt))
        have hB := Lib.hid (bnd_s c m j)
        have KA := Lib.hid (fun w hw => at_ok mo c.a w hw m1 hlt h.a0 h.a1)
        gi_wp2_with fail
        refine ⟨trivial, (callsIn_wide.2 (KA.out _ HK.out.t)).mono ?_⟩
        rintro e w1 ⟨rfl, b1⟩
        have HK1 := Lib.hid (HK.out.later b1)
        have hJ1 := sJ.below _ _ _ hJs b1
        clear c0 c1 c2 q0 kf lt b1 hJs
        obtain ⟨c0, c1, c2, q0, kf, lt, ht⟩ := HK1.out
        clear ht
        obtain ⟨fn, tmps, assign, body, hy, hRd⟩ := hY pre (kk, atv mo c.a) w1 hJ1 ⟨by rw [show (j0 + 1) + pre.length = j + 1 by have := HP.out; omega, hB.out, ← hmo.out, hkk.out]; rfl, by rw [show (j0 + 1) + pre.length = j + 1 by have := HP.out; omega]; exact hH.out⟩
        dsimp only at hy
        gi_wp2_with fail
        refine hRd.mono ?_
        rintro e w2 (⟨rfl, hJ2, hk2⟩ | ⟨rfl, hx2⟩)
        · have HK2 := Lib.hid (HK1.out.kept hk2 hn)
          clear c0 c1 c2 q0 kf lt
          obtain ⟨c0, c1, c2, q0, kf, lt, ht⟩ := HK2.out
          clear ht hy
          gi_wp2
          go_roundw
          case rel => exact ⟨pre ++ [(kk, atv mo c.a)], j + 1, mo + c.e, kk + 1, rfl, by rw [hkk.out]; rfl, by rw [hmo.out, show ((j + 1 : Nat) : Int) = (j : Int) + 1 by omega, Int.add_mul, Int.one_mul]; exact Int.add_assoc _ _ _, by have := HP.out; simp; omega, by omega, by omega, by omega, by omega, HK2.out.set _, sJ.put _ _ _ _ rfl hJ2⟩
          case measure => simp [intOf]; omega
        · gi_wp2
          refine bodyPost_ret (results_none rfl _ _ _) rfl ?_
          exact ⟨⟨_, rfl⟩, .inr ⟨_, trivial, hx2⟩⟩
      · have hS := Lib.hid (show ¬ Has c m ((j0 + 1) + pre.length) by rw [show (j0 + 1) + pre.length = j + 1 by have := HP.out; omega, has_s, ← hmo.out]; exact hlt)
        gi_wp2_with fail
        go_end0
        exact ⟨⟨_, rfl⟩, .inl ⟨pre, by first | exact hS.out | simpa using hS.out, hJs⟩⟩
set_option maxRecDepth 100000 in
set_option maxHeartbeats 4000000 in
theorem yields_0 (c : Cy) (m : Int)  (n b : Nat) (W0 : World) (hn : 0 < n) (h : c.Ok) (hin : In m c.s) (h0 : Kb b c 0 W0) : BY c m 0 n b W0 := fun l J Jx W hW sJ _sJx hY hJ0 => by
  have HK0 := Lib.hid (h0.later hW)
  have e0 := h.e0
  have e1 := h.e1
  have m0 := hin.lo
  have m9 := hin.hi
  have KO := Lib.hid (of_in hin)
  have KM := Lib.hid (fun w hw => at_ok m c.a w hw hin.lo hin.hi h.a0 h.a1)
  clear h0
  obtain ⟨c0, c1, c2, q0, kf, lt, ht⟩ := HK0.out
  clear ht
  obtain ⟨fn, tmps, assign, body, hy, hRd⟩ := hY [] (0, c.s) W hJ0 ⟨rfl, Or.inl rfl⟩
  dsimp only at hy
  refine callsIn_of_wp Tryd.func69 rfl trivial ?_ rfl
  simp only [Tryd.ntmps69, List.size_toArray, List.length_cons, List.length_nil, Nat.reduceAdd, Nat.reduceSub, Array.replicate_succ, Array.replicate_zero, List.push_toArray, List.append_toArray, List.nil_append, List.cons_append]
  gi_wp2_with fail
  refine hRd.mono ?_
  rintro e w2 (⟨rfl, hJ2, hk2⟩ | ⟨rfl, hx2⟩)
  · have HK1 := Lib.hid ((HK0.out.kept hk2 hn).set 1)
    have hJs := sJ.put _ _ (b + 1) (.int .i64 1) rfl hJ2
    obtain ⟨d0, d1, d2, r0, rf, rt, -⟩ := HK0.out.kept hk2 hn
    clear c0 c1 c2 q0 kf lt hy
    obtain ⟨c0, c1, c2, q0, kf, lt, ht⟩ := HK1.out
    clear ht
    gi_wp2_with fail
    refine ⟨trivial, (callsIn_wide.2 (KO.out _ HK1.out.t)).mono ?_⟩
    rintro e w' ⟨rfl, rfl⟩
    gi_wp2_with fail
    refine ⟨trivial, (callsIn_wide.2 (KM.out _ HK1.out.t)).mono ?_⟩
    rintro e w3 ⟨rfl, b3⟩
    have HK3 := Lib.hid (HK1.out.later b3)
    have hJ3 := sJ.below _ _ _ hJs b3
    clear c0 c1 c2 q0 kf lt b3 hJs
    obtain ⟨c0, c1, c2, q0, kf, lt, ht⟩ := HK3.out
    clear ht
    by_cases hat : atv m c.a ≤ c.s
    · have hf := Lib.hid (show fst c m = m + c.e from if_pos hat)
      gi_wp2_with fail
      gi_loopw [4, 8, 9] (fun mm _ _ wr => ∃ (pre : List (Int × Int)) (j : Nat) (mo kk : Int), mm = .int .i64 mo ∧ Hid (kk = (j : Int) + 1) ∧ Hid (mo = fst c m + (j : Int) * c.e) ∧ pre.length + 0 = j + 1 ∧ 1 ≤ mo ∧ mo ≤ 20000000 ∧ kk ≤ mo ∧ 1 ≤ kk ∧ Kb b c kk wr ∧ J pre wr) (fun mm _ _ _ => (30000000 - intOf mm).toNat)
      case atStart => exact ⟨[(0, c.s)], 0, m + c.e, 1, rfl, rfl, by rw [hf.out]; show _ = _; simp, rfl, by omega, by omega, by omega, by omega, HK3.out, hJ3⟩
      case round =>
        obtain ⟨pre, j, mo, kk, rfl, hkk, hmo, hpl, m1, m2, m3, m4, hK, hJs⟩ := hrel
        have HK := Lib.hid hK
        have HP := Lib.hid hpl
        clear hK hpl
        obtain ⟨c0, c1, c2, q0, kf, lt, ht⟩ := HK.out
        clear ht
        by_cases hlt : mo ≤ 119988
        · have hH := Lib.hid ((has_s c m j).2 (by rw [← hmo.out]; exact hlt))
          have hB := Lib.hid (bnd_s c m j)
          have KA := Lib.hid (fun w hw => at_ok mo c.a w hw m1 hlt h.a0 h.a1)
          gi_wp2_with fail
          refine ⟨trivial, (callsIn_wide.2 (KA.out _ HK.out.t)).mono ?_⟩
          rintro e w1 ⟨rfl, b1⟩
          have HK1 := Lib.hid (HK.out.later b1)
          have hJ1 := sJ.below _ _ _ hJs b1
          clear c0 c1 c2 q0 kf lt b1 hJs
          obtain ⟨c0, c1, c2, q0, kf, lt, ht⟩ := HK1.out
          clear ht
          obtain ⟨fn, tmps, assign, body, hy, hRd⟩ := hY pre (kk, atv mo c.a) w1 hJ1 ⟨by rw [show 0 + pre.length = j + 1 by have := HP.out; omega, hB.out, ← hmo.out, hkk.out]; rfl, by rw [show 0 + pre.length = j + 1 by have := HP.out; omega]; exact hH.out⟩
          dsimp only at hy
          gi_wp2_with fail
          refine hRd.mono ?_
          rintro e w2 (⟨rfl, hJ2, hk2⟩ | ⟨rfl, hx2⟩)
          · have HK2 := Lib.hid (HK1.out.kept hk2 hn)
            clear c0 c1 c2 q0 kf lt
            obtain ⟨c0, c1, c2, q0, kf, lt, ht⟩ := HK2.out
            clear ht hy
            gi_wp2
            go_roundw
            case rel => exact ⟨pre ++ [(kk, atv mo c.a)], j + 1, mo + c.e, kk + 1, rfl, by rw [hkk.out]; rfl, by rw [hmo.out, show ((j + 1 : Nat) : Int) = (j : Int) + 1 by omega, Int.add_mul, Int.one_mul]; exact Int.add_assoc _ _ _, by have := HP.out; simp; omega, by omega, by omega, by omega, by omega, HK2.out.set _, sJ.put _ _ _ _ rfl hJ2⟩
            case measure => simp [intOf]; omega
          · gi_wp2
            refine bodyPost_ret (results_none rfl _ _ _) rfl ?_
            exact ⟨⟨_, rfl⟩, .inr ⟨_, trivial, hx2⟩⟩
        · have hS := Lib.hid (show ¬ Has c m (0 + pre.length) by rw [show 0 + pre.length = j + 1 by have := HP.out; omega, has_s, ← hmo.out]; exact hlt)
          gi_wp2_with fail
          go_end0
          exact ⟨⟨_, rfl⟩, .inl ⟨pre, by first | exact hS.out | simpa using hS.out, hJs⟩⟩
    · have hf := Lib.hid (show fst c m = m from if_neg hat)
      have hat2 : c.s < atv m c.a := by omega
      gi_wp2_with fail
      gi_loopw [4, 8, 9] (fun mm _ _ wr => ∃ (pre : List (Int × Int)) (j : Nat) (mo kk : Int), mm = .int .i64 mo ∧ Hid (kk = (j : Int) + 1) ∧ Hid (mo = fst c m + (j : Int) * c.e) ∧ pre.length + 0 = j + 1 ∧ 1 ≤ mo ∧ mo ≤ 20000000 ∧ kk ≤ mo ∧ 1 ≤ kk ∧ Kb b c kk wr ∧ J pre wr) (fun mm _ _ _ => (30000000 - intOf mm).toNat)
      case atStart => exact ⟨[(0, c.s)], 0, m, 1, rfl, rfl, by rw [hf.out]; show _ = _; simp, rfl, by omega, by omega, by omega, by omega, HK3.out, hJ3⟩
      case round =>
        obtain ⟨pre, j, mo, kk, rfl, hkk, hmo, hpl, m1, m2, m3, m4, hK, hJs⟩ := hrel
        have HK := Lib.hid hK
        have HP := Lib.hid hpl
        clear hK hpl
        obtain ⟨c0, c1, c2, q0, kf, lt, ht⟩ := HK.out
        clear ht
        by_cases hlt : mo ≤ 119988
        · have hH := Lib.hid ((has_s c m j).2 (by rw [← hmo.out]; exact hlt))
          have hB := Lib.hid (bnd_s c m j)
          have KA := Lib.hid (fun w hw => at_ok mo c.a w hw m1 hlt h.a0 h.a1)
          gi_wp2_with fail
          refine ⟨trivial, (callsIn_wide.2 (KA.out _ HK.out.t)).mono ?_⟩
          rintro e w1 ⟨rfl, b1⟩
          have HK1 := Lib.hid (HK.out.later b1)
          have hJ1 := sJ.below _ _ _ hJs b1
          clear c0 c1 c2 q0 kf lt b1 hJs
          obtain ⟨c0, c1, c2, q0, kf, lt, ht⟩ := HK1.out
          clear ht
          obtain ⟨fn, tmps, assign, body, hy, hRd⟩ := hY pre (kk, atv mo c.a) w1 hJ1 ⟨by rw [show 0 + pre.length = j + 1 by have := HP.out; omega, hB.out, ← hmo.out, hkk.out]; rfl, by rw [show 0 + pre.length = j + 1 by have := HP.out; omega]; exact hH.out⟩
          dsimp only at hy
          gi_wp2_with fail
          refine hRd.mono ?_
          rintro e w2 (⟨rfl, hJ2, hk2⟩ | ⟨rfl, hx2⟩)
          · have HK2 := Lib.hid (HK1.out.kept hk2 hn)
            clear c0 c1 c2 q0 kf lt
            obtain ⟨c0, c1, c2, q0, kf, lt, ht⟩ := HK2.out
            clear ht hy
            gi_wp2
            go_roundw
            case rel => exact ⟨pre ++ [(kk, atv mo c.a)], j + 1, mo + c.e, kk + 1, rfl, by rw [hkk.out]; rfl, by rw [hmo.out, show ((j + 1 : Nat) : Int) = (j : Int) + 1 by omega, Int.add_mul, Int.one_mul]; exact Int.add_assoc _ _ _, by have := HP.out; simp; omega, by omega, by omega, by omega, by omega, HK2.out.set _, sJ.put _ _ _ _ rfl hJ2⟩
            case measure => simp [intOf]; omega
          · gi_wp2
            refine bodyPost_ret (results_none rfl _ _ _) rfl ?_
            exact ⟨⟨_, rfl⟩, .inr ⟨_, trivial, hx2⟩⟩
        · have hS := Lib.hid (show ¬ Has c m (0 + pre.length) by rw [show 0 + pre.length = j + 1 by have := HP.out; omega, has_s, ← hmo.out]; exact hlt)
          gi_wp2_with fail
          go_end0
          exact ⟨⟨_, rfl⟩, .inl ⟨pre, by first | exact hS.out | simpa using hS.out, hJs⟩⟩
  · gi_wp2
    refine bodyPost_ret (results_none rfl _ _ _) rfl ?_
    exact ⟨⟨_, rfl⟩, .inr ⟨_, trivial, hx2⟩⟩
end Go.Proofs.YtjchecjonkmhgaaDoor.An
