/- Package anchor: AnchorRises. (gen_anrises.py writes this.) -/
import Derived.Test.YtlmhifdilmnlnaaDoorAnLaw0
namespace Go.Proofs.YtlmhifdilmnlnaaDoor.An
open Go.RowKit Pr Cw Rf
theorem B_gap (k : Int) (d : Nat) : B (k + d) - B k ≤ 31 * d := by
  induction d with
  | zero => simp
  | succ d ih =>
    have h1 := BE (k + (d : Int))
    have h2 := B_succ (k + (d : Int))
    rw [show k + ((d + 1 : Nat) : Int) = k + (d : Int) + 1 by omega]
    omega
theorem at_gap (k a e : Int) (he : 0 ≤ e) : atv (k + e) a - atv k a ≤ 31 * e := by
  obtain ⟨d, rfl⟩ : ∃ d : Nat, e = (d : Int) := ⟨e.toNat, by omega⟩
  have h1 := B_gap k d
  have h2 := B_gap (k + 1) d
  rw [B_succ, show k + 1 + (d : Int) = k + (d : Int) + 1 by omega, B_succ] at h2
  unfold atv
  split <;> split <;> omega
theorem in_at {c : Cy} {mo : Int} (h : c.Ok) (h1 : 1 ≤ mo) (h2 : mo ≤ 119988) : In mo (atv mo c.a) := ⟨h1, h2, (atv_bd mo c.a h.a0).1, (atv_bd mo c.a h.a0).2⟩
/-- Two bounds side by side: their months, and how far they are from one another. -/
theorem pair {c : Cy} {m : Int} {j : Nat} (h : c.Ok) (hin : In m c.s) (hh : Has c m (j + 1)) :
    ∃ ma nb : Int, In ma (bnd c m j) ∧ In nb (bnd c m (j + 1)) ∧ atv nb c.a = bnd c m (j + 1) ∧ bnd c m (j + 1) - bnd c m j ≤ 31 * c.e ∧ ((j = 0 ∧ nb = ma) ∨ nb - ma = c.e) := by
  have he := h.e0
  have hf := fst_bd (m := m) h
  have h1 := (has_s c m j).1 hh
  have hm := hin.lo
  have hje : 0 ≤ (j : Int) * c.e := Int.mul_nonneg (by omega) (by omega)
  rcases j with _|j
  · have ez : fst c m + ((0 : Nat) : Int) * c.e = fst c m := by simp
    have h1' : fst c m ≤ 119988 := by rw [← ez]; exact h1
    refine ⟨m, fst c m, hin, ?_, ?_, ?_, ?_⟩
    · rw [bnd_s, ez]; exact in_at h (by omega) h1'
    · rw [bnd_s, ez]
    · rw [bnd_s, bnd_0, ez]
      by_cases hat : atv m c.a ≤ c.s
      · have e1 : fst c m = m + c.e := if_pos hat
        have := at_gap m c.a c.e (by omega)
        rw [e1]
        omega
      · have e1 : fst c m = m := if_neg hat
        have h2 := (atv_bd m c.a h.a0).2
        have h3 := BE m
        have h4 := hin.a
        rw [e1]
        omega
    · by_cases hat : atv m c.a ≤ c.s
      · exact Or.inr (by rw [show fst c m = m + c.e from if_pos hat]; omega)
      · exact Or.inl ⟨rfl, if_neg hat⟩
  · have e1 : ((j + 1 : Nat) : Int) * c.e = (j : Int) * c.e + c.e := by rw [show ((j + 1 : Nat) : Int) = (j : Int) + 1 by omega, Int.add_mul, Int.one_mul]
    rw [e1] at h1
    have hj0 : 0 ≤ (j : Int) * c.e := Int.mul_nonneg (by omega) (by omega)
    refine ⟨fst c m + (j : Int) * c.e, fst c m + (j : Int) * c.e + c.e, ?_, ?_, ?_, ?_, Or.inr (by omega)⟩
    · rw [bnd_s]; exact in_at h (by omega) (by omega)
    · rw [bnd_s, e1, ← Int.add_assoc]; exact in_at h (by omega) (by omega)
    · rw [bnd_s, e1, ← Int.add_assoc]
    · rw [bnd_s, bnd_s, e1, ← Int.add_assoc]; exact at_gap _ _ _ (by omega)
theorem none_end {c : Cy} {m : Int} {j : Nat} (h : c.Ok) (hin : In m c.s) (hn : ¬ Has c m (j + 1)) : ∀ i, ¬ Per c m (bnd c m j) i := fun i hp => by
  rcases Nat.lt_or_ge i j with hl | hl
  · have := bnd_le (i := i + 1) (j := j) h hin hl
    have := hp.2.2
    omega
  · exact hn (Has.le h (Nat.succ_le_succ hl) hp.1)
set_option maxRecDepth 100000 in
set_option maxHeartbeats 2000000 in
theorem rises_no (c : Cy) (q cut z : Int) (K1 : Hid (∀ w, Tab w → Calls Tryd.prog 32 #[.agg #[.int .i64 c.s, .int .i64 c.a, .int .i64 c.e], .int .i64 q] w fun e w' => e = .returned (.tuple #[.int .i64 0, .int .i64 z]) ∧ Below w.heap.size w w')) (hz : z ≠ 0) (w : World) (hw : Tab w) : Calls Tryd.prog 12 #[.agg #[.int .i64 c.s, .int .i64 c.a, .int .i64 c.e], .int .i64 q, .int .i64 cut] w fun e w' => e = .returned (.bool true) ∧ Below w.heap.size w w' := by
  have HT := Lib.hid hw
  clear hw
  have hz2 : (z != 0) = true := by simpa using hz
  clear hz
  have C0 := Lib.hid (Cb.box c w)
  have D0 := Lib.hid ((Below.refl _ w).alloc (Nat.le_refl _) (.cells #[.int .i64 c.s, .int .i64 c.a, .int .i64 c.e] 56))
  obtain ⟨a0, a1, a2, alt⟩ := C0.out
  go_enter Tryd.func12, Tryd.ntmps12
  go_wp2_with fail
  refine (K1.out _ (tab_later HT.out D0.out)).mono ?_
  rintro e w1 ⟨rfl, b1⟩
  have C1 := Lib.hid (C0.out.later b1)
  have D1 := Lib.hid (then_below D0.out b1)
  clear b1 a0 a1 a2 alt
  obtain ⟨a0, a1, a2, alt⟩ := C1.out
  go_wp2_with fail
  refine (head_c _ (tab_later HT.out D1.out)).mono ?_
  rintro e w2 ⟨rfl, b2⟩
  have D2 := Lib.hid (then_below D1.out b2)
  clear b2
  go_wp2_with fail
  go_ret
  exact ⟨rfl, D2.out⟩
set_option maxRecDepth 100000 in
set_option maxHeartbeats 2000000 in
theorem rises_end (c : Cy) (q cut av : Int) (q0 : 0 ≤ q) (q1 : q ≤ 119988) (K1 : Hid (∀ w, Tab w → Calls Tryd.prog 32 #[.agg #[.int .i64 c.s, .int .i64 c.a, .int .i64 c.e], .int .i64 q] w fun e w' => e = .returned (.tuple #[.int .i64 av, .int .i64 0]) ∧ Below w.heap.size w w')) (K2 : Hid (∀ w, Tab w → Calls Tryd.prog 32 #[.agg #[.int .i64 c.s, .int .i64 c.a, .int .i64 c.e], .int .i64 (q + 1)] w fun e w' => e = .returned (.tuple #[.int .i64 0, .int .i64 7]) ∧ Below w.heap.size w w')) (K3 : Hid (∀ w, Tab w → Calls Tryd.prog 34 #[.agg #[.int .i64 c.s, .int .i64 c.a, .int .i64 c.e], .int .i64 av] w fun e w' => e = .returned (.tuple #[.int .i64 0, .int .i64 0, .int .i64 0, .int .i64 7]) ∧ Below w.heap.size w w')) (w : World) (hw : Tab w) : Calls Tryd.prog 12 #[.agg #[.int .i64 c.s, .int .i64 c.a, .int .i64 c.e], .int .i64 q, .int .i64 cut] w fun e w' => e = .returned (.bool true) ∧ Below w.heap.size w w' := by
  have HT := Lib.hid hw
  clear hw
  have C0 := Lib.hid (Cb.box c w)
  have D0 := Lib.hid ((Below.refl _ w).alloc (Nat.le_refl _) (.cells #[.int .i64 c.s, .int .i64 c.a, .int .i64 c.e] 56))
  obtain ⟨a0, a1, a2, alt⟩ := C0.out
  go_enter Tryd.func12, Tryd.ntmps12
  go_wp2_with fail
  refine (K1.out _ (tab_later HT.out D0.out)).mono ?_
  rintro e w1 ⟨rfl, b1⟩
  have C1 := Lib.hid (C0.out.later b1)
  have D1 := Lib.hid (then_below D0.out b1)
  clear b1 a0 a1 a2 alt
  obtain ⟨a0, a1, a2, alt⟩ := C1.out
  go_wp2_with fail
  refine (K2.out _ (tab_later HT.out D1.out)).mono ?_
  rintro e w2 ⟨rfl, b2⟩
  have C2 := Lib.hid (C1.out.later b2)
  have D2 := Lib.hid (then_below D1.out b2)
  clear b2 a0 a1 a2 alt
  obtain ⟨a0, a1, a2, alt⟩ := C2.out
  go_wp2_with fail
  refine (K3.out _ (tab_later HT.out D2.out)).mono ?_
  rintro e w3 ⟨rfl, b3⟩
  have C3 := Lib.hid (C2.out.later b3)
  have D3 := Lib.hid (then_below D2.out b3)
  clear b3 a0 a1 a2 alt
  obtain ⟨a0, a1, a2, alt⟩ := C3.out
  go_wp2_with fail
  refine (head_c _ (tab_later HT.out D3.out)).mono ?_
  rintro e w4 ⟨rfl, b4⟩
  have D4 := Lib.hid (then_below D3.out b4)
  clear b4
  go_wp2_with fail
  go_ret
  exact ⟨rfl, D4.out⟩
set_option maxRecDepth 100000 in
set_option maxHeartbeats 2000000 in
theorem rises_up (c : Cy) (q cut av bv ma nb r : Int) (q0 : 0 ≤ q) (q1 : q ≤ 119988) (e0 : 1 ≤ c.e) (e1 : c.e ≤ 120) (a1 : 1 ≤ av) (ab : av < bv) (b1 : bv ≤ 3652059) (hgap : bv - av ≤ 31 * c.e) (m1 : 1 ≤ ma) (m2 : ma ≤ 119988) (n1 : 1 ≤ nb) (n2 : nb ≤ 119988) (hc : (q = 0 ∧ nb = ma) ∨ nb - ma = c.e) (hr : Hid (cut.tmod (bv - av) = r)) (r1 : r < bv - av) (_r2 : -(bv - av) < r) (K1 : Hid (∀ w, Tab w → Calls Tryd.prog 32 #[.agg #[.int .i64 c.s, .int .i64 c.a, .int .i64 c.e], .int .i64 q] w fun e w' => e = .returned (.tuple #[.int .i64 av, .int .i64 0]) ∧ Below w.heap.size w w')) (K2 : Hid (∀ w, Tab w → Calls Tryd.prog 32 #[.agg #[.int .i64 c.s, .int .i64 c.a, .int .i64 c.e], .int .i64 (q + 1)] w fun e w' => e = .returned (.tuple #[.int .i64 bv, .int .i64 0]) ∧ Below w.heap.size w w')) (K4 : Hid (∀ w, Calls Tryd.prog 26 #[.int .i64 av] w fun e w' => e = .returned (.tuple #[.int .i64 ma, .int .i64 0]) ∧ w = w')) (K5 : Hid (∀ w, Calls Tryd.prog 26 #[.int .i64 bv] w fun e w' => e = .returned (.tuple #[.int .i64 nb, .int .i64 0]) ∧ w = w')) (K6 : Hid (∀ w, Tab w → Calls Tryd.prog 27 #[.int .i64 nb, .int .i64 c.a] w fun e w' => e = .returned (.tuple #[.int .i64 bv, .int .i64 0]) ∧ Below w.heap.size w w')) (K7 : Hid (∀ w, Tab w → Calls Tryd.prog 34 #[.agg #[.int .i64 c.s, .int .i64 c.a, .int .i64 c.e], .int .i64 (av + r)] w fun e w' => e = .returned (.tuple #[.int .i64 q, .int .i64 av, .int .i64 bv, .int .i64 0]) ∧ Below w.heap.size w w')) (hday : 0 ≤ r) (w : World) (hw : Tab w) : Calls Tryd.prog 12 #[.agg #[.int .i64 c.s, .int .i64 c.a, .int .i64 c.e], .int .i64 q, .int .i64 cut] w fun e w' => e = .returned (.bool true) ∧ Below w.heap.size w w' := by
  have HT := Lib.hid hw
  clear hw
  have HR := hr.out
  clear hr
  have t3 : IntKind.i64.wrap r = r := IntWalk.i64_in _ (by omega)
  have hg2 : ¬ 31 * c.e < bv - av := by omega
  have C0 := Lib.hid (Cb.box c w)
  have D0 := Lib.hid ((Below.refl _ w).alloc (Nat.le_refl _) (.cells #[.int .i64 c.s, .int .i64 c.a, .int .i64 c.e] 56))
  obtain ⟨a0, a1, a2, alt⟩ := C0.out
  rcases hc with ⟨rfl, rfl⟩ | hc
  · go_enter Tryd.func12, Tryd.ntmps12
    go_wp2_with fail
    refine (K1.out _ (tab_later HT.out D0.out)).mono ?_
    rintro e w1 ⟨rfl, b1⟩
    have C1 := Lib.hid (C0.out.later b1)
    have D1 := Lib.hid (then_below D0.out b1)
    clear b1 a0 a1 a2 alt
    obtain ⟨a0, a1, a2, alt⟩ := C1.out
    go_wp2_with fail
    refine (K2.out _ (tab_later HT.out D1.out)).mono ?_
    rintro e w2 ⟨rfl, b2⟩
    have C2 := Lib.hid (C1.out.later b2)
    have D2 := Lib.hid (then_below D1.out b2)
    clear b2 a0 a1 a2 alt
    obtain ⟨a0, a1, a2, alt⟩ := C2.out
    go_wp2_with fail
    refine (K4.out _).mono ?_
    rintro e w' ⟨rfl, rfl⟩
    go_wp2_with fail
    refine (K5.out _).mono ?_
    rintro e w' ⟨rfl, rfl⟩
    go_wp2_with fail
    refine (K6.out _ (tab_later HT.out D2.out)).mono ?_
    rintro e w3 ⟨rfl, b3⟩
    have C3 := Lib.hid (C2.out.later b3)
    have D3 := Lib.hid (then_below D2.out b3)
    clear b3 a0 a1 a2 alt
    obtain ⟨a0, a1, a2, alt⟩ := C3.out
    go_wp2_with fail
    refine (K7.out _ (tab_later HT.out D3.out)).mono ?_
    rintro e w4 ⟨rfl, b4⟩
    have C4 := Lib.hid (C3.out.later b4)
    have D4 := Lib.hid (then_below D3.out b4)
    clear b4 a0 a1 a2 alt
    obtain ⟨a0, a1, a2, alt⟩ := C4.out
    go_wp2_with fail
    refine (head_c _ (tab_later HT.out D4.out)).mono ?_
    rintro e w5 ⟨rfl, b5⟩
    have D5 := Lib.hid (then_below D4.out b5)
    clear b5
    go_wp2_with fail
    go_ret
    exact ⟨rfl, D5.out⟩
  · have hnm : (nb != ma) = true := by simp; omega
    have hnn : (nb - ma != c.e) = false := by simpa using hc
    have HCC := Lib.hid hc
    clear hc
    by_cases hq0 : q = 0
    · subst hq0
      go_enter Tryd.func12, Tryd.ntmps12
      go_wp2_with fail
      refine (K1.out _ (tab_later HT.out D0.out)).mono ?_
      rintro e w1 ⟨rfl, b1⟩
      have C1 := Lib.hid (C0.out.later b1)
      have D1 := Lib.hid (then_below D0.out b1)
      clear b1 a0 a1 a2 alt
      obtain ⟨a0, a1, a2, alt⟩ := C1.out
      go_wp2_with fail
      refine (K2.out _ (tab_later HT.out D1.out)).mono ?_
      rintro e w2 ⟨rfl, b2⟩
      have C2 := Lib.hid (C1.out.later b2)
      have D2 := Lib.hid (then_below D1.out b2)
      clear b2 a0 a1 a2 alt
      obtain ⟨a0, a1, a2, alt⟩ := C2.out
      go_wp2_with fail
      refine (K4.out _).mono ?_
      rintro e w' ⟨rfl, rfl⟩
      go_wp2_with fail
      refine (K5.out _).mono ?_
      rintro e w' ⟨rfl, rfl⟩
      go_wp2_with fail
      refine (K6.out _ (tab_later HT.out D2.out)).mono ?_
      rintro e w3 ⟨rfl, b3⟩
      have C3 := Lib.hid (C2.out.later b3)
      have D3 := Lib.hid (then_below D2.out b3)
      clear b3 a0 a1 a2 alt
      obtain ⟨a0, a1, a2, alt⟩ := C3.out
      go_wp2_with fail
      refine (K7.out _ (tab_later HT.out D3.out)).mono ?_
      rintro e w4 ⟨rfl, b4⟩
      have C4 := Lib.hid (C3.out.later b4)
      have D4 := Lib.hid (then_below D3.out b4)
      clear b4 a0 a1 a2 alt
      obtain ⟨a0, a1, a2, alt⟩ := C4.out
      go_wp2_with fail
      refine (head_c _ (tab_later HT.out D4.out)).mono ?_
      rintro e w5 ⟨rfl, b5⟩
      have D5 := Lib.hid (then_below D4.out b5)
      clear b5
      go_wp2_with fail
      go_ret
      exact ⟨rfl, D5.out⟩
    · have hq2 : 0 < q := by omega
      have hq3 : (q == 0) = false := by simpa using hq0
      clear hq0
      go_enter Tryd.func12, Tryd.ntmps12
      go_wp2_with fail
      refine (K1.out _ (tab_later HT.out D0.out)).mono ?_
      rintro e w1 ⟨rfl, b1⟩
      have C1 := Lib.hid (C0.out.later b1)
      have D1 := Lib.hid (then_below D0.out b1)
      clear b1 a0 a1 a2 alt
      obtain ⟨a0, a1, a2, alt⟩ := C1.out
      go_wp2_with fail
      refine (K2.out _ (tab_later HT.out D1.out)).mono ?_
      rintro e w2 ⟨rfl, b2⟩
      have C2 := Lib.hid (C1.out.later b2)
      have D2 := Lib.hid (then_below D1.out b2)
      clear b2 a0 a1 a2 alt
      obtain ⟨a0, a1, a2, alt⟩ := C2.out
      go_wp2_with fail
      refine (K4.out _).mono ?_
      rintro e w' ⟨rfl, rfl⟩
      go_wp2_with fail
      refine (K5.out _).mono ?_
      rintro e w' ⟨rfl, rfl⟩
      go_wp2_with fail
      refine (K6.out _ (tab_later HT.out D2.out)).mono ?_
      rintro e w3 ⟨rfl, b3⟩
      have C3 := Lib.hid (C2.out.later b3)
      have D3 := Lib.hid (then_below D2.out b3)
      clear b3 a0 a1 a2 alt
      obtain ⟨a0, a1, a2, alt⟩ := C3.out
      go_wp2_with fail
      refine (K7.out _ (tab_later HT.out D3.out)).mono ?_
      rintro e w4 ⟨rfl, b4⟩
      have C4 := Lib.hid (C3.out.later b4)
      have D4 := Lib.hid (then_below D3.out b4)
      clear b4 a0 a1 a2 alt
      obtain ⟨a0, a1, a2, alt⟩ := C4.out
      go_wp2_with fail
      refine (head_c _ (tab_later HT.out D4.out)).mono ?_
      rintro e w5 ⟨rfl, b5⟩
      have D5 := Lib.hid (then_below D4.out b5)
      clear b5
      go_wp2_with fail
      go_ret
      exact ⟨rfl, D5.out⟩
set_option maxRecDepth 100000 in
set_option maxHeartbeats 2000000 in
theorem rises_down (c : Cy) (q cut av bv ma nb r : Int) (q0 : 0 ≤ q) (q1 : q ≤ 119988) (e0 : 1 ≤ c.e) (e1 : c.e ≤ 120) (a1 : 1 ≤ av) (ab : av < bv) (b1 : bv ≤ 3652059) (hgap : bv - av ≤ 31 * c.e) (m1 : 1 ≤ ma) (m2 : ma ≤ 119988) (n1 : 1 ≤ nb) (n2 : nb ≤ 119988) (hc : (q = 0 ∧ nb = ma) ∨ nb - ma = c.e) (hr : Hid (cut.tmod (bv - av) = r)) (_r1 : r < bv - av) (r2 : -(bv - av) < r) (K1 : Hid (∀ w, Tab w → Calls Tryd.prog 32 #[.agg #[.int .i64 c.s, .int .i64 c.a, .int .i64 c.e], .int .i64 q] w fun e w' => e = .returned (.tuple #[.int .i64 av, .int .i64 0]) ∧ Below w.heap.size w w')) (K2 : Hid (∀ w, Tab w → Calls Tryd.prog 32 #[.agg #[.int .i64 c.s, .int .i64 c.a, .int .i64 c.e], .int .i64 (q + 1)] w fun e w' => e = .returned (.tuple #[.int .i64 bv, .int .i64 0]) ∧ Below w.heap.size w w')) (K4 : Hid (∀ w, Calls Tryd.prog 26 #[.int .i64 av] w fun e w' => e = .returned (.tuple #[.int .i64 ma, .int .i64 0]) ∧ w = w')) (K5 : Hid (∀ w, Calls Tryd.prog 26 #[.int .i64 bv] w fun e w' => e = .returned (.tuple #[.int .i64 nb, .int .i64 0]) ∧ w = w')) (K6 : Hid (∀ w, Tab w → Calls Tryd.prog 27 #[.int .i64 nb, .int .i64 c.a] w fun e w' => e = .returned (.tuple #[.int .i64 bv, .int .i64 0]) ∧ Below w.heap.size w w')) (K7 : Hid (∀ w, Tab w → Calls Tryd.prog 34 #[.agg #[.int .i64 c.s, .int .i64 c.a, .int .i64 c.e], .int .i64 (av + r + (bv - av))] w fun e w' => e = .returned (.tuple #[.int .i64 q, .int .i64 av, .int .i64 bv, .int .i64 0]) ∧ Below w.heap.size w w')) (hday : r < 0) (w : World) (hw : Tab w) : Calls Tryd.prog 12 #[.agg #[.int .i64 c.s, .int .i64 c.a, .int .i64 c.e], .int .i64 q, .int .i64 cut] w fun e w' => e = .returned (.bool true) ∧ Below w.heap.size w w' := by
  have HT := Lib.hid hw
  clear hw
  have HR := hr.out
  clear hr
  have t3 : IntKind.i64.wrap r = r := IntWalk.i64_in _ (by omega)
  have hg2 : ¬ 31 * c.e < bv - av := by omega
  have C0 := Lib.hid (Cb.box c w)
  have D0 := Lib.hid ((Below.refl _ w).alloc (Nat.le_refl _) (.cells #[.int .i64 c.s, .int .i64 c.a, .int .i64 c.e] 56))
  obtain ⟨a0, a1, a2, alt⟩ := C0.out
  rcases hc with ⟨rfl, rfl⟩ | hc
  · go_enter Tryd.func12, Tryd.ntmps12
    go_wp2_with fail
    refine (K1.out _ (tab_later HT.out D0.out)).mono ?_
    rintro e w1 ⟨rfl, b1⟩
    have C1 := Lib.hid (C0.out.later b1)
    have D1 := Lib.hid (then_below D0.out b1)
    clear b1 a0 a1 a2 alt
    obtain ⟨a0, a1, a2, alt⟩ := C1.out
    go_wp2_with fail
    refine (K2.out _ (tab_later HT.out D1.out)).mono ?_
    rintro e w2 ⟨rfl, b2⟩
    have C2 := Lib.hid (C1.out.later b2)
    have D2 := Lib.hid (then_below D1.out b2)
    clear b2 a0 a1 a2 alt
    obtain ⟨a0, a1, a2, alt⟩ := C2.out
    go_wp2_with fail
    refine (K4.out _).mono ?_
    rintro e w' ⟨rfl, rfl⟩
    go_wp2_with fail
    refine (K5.out _).mono ?_
    rintro e w' ⟨rfl, rfl⟩
    go_wp2_with fail
    refine (K6.out _ (tab_later HT.out D2.out)).mono ?_
    rintro e w3 ⟨rfl, b3⟩
    have C3 := Lib.hid (C2.out.later b3)
    have D3 := Lib.hid (then_below D2.out b3)
    clear b3 a0 a1 a2 alt
    obtain ⟨a0, a1, a2, alt⟩ := C3.out
    go_wp2_with fail
    refine (K7.out _ (tab_later HT.out D3.out)).mono ?_
    rintro e w4 ⟨rfl, b4⟩
    have C4 := Lib.hid (C3.out.later b4)
    have D4 := Lib.hid (then_below D3.out b4)
    clear b4 a0 a1 a2 alt
    obtain ⟨a0, a1, a2, alt⟩ := C4.out
    go_wp2_with fail
    refine (head_c _ (tab_later HT.out D4.out)).mono ?_
    rintro e w5 ⟨rfl, b5⟩
    have D5 := Lib.hid (then_below D4.out b5)
    clear b5
    go_wp2_with fail
    go_ret
    exact ⟨rfl, D5.out⟩
  · have hnm : (nb != ma) = true := by simp; omega
    have hnn : (nb - ma != c.e) = false := by simpa using hc
    have HCC := Lib.hid hc
    clear hc
    by_cases hq0 : q = 0
    · subst hq0
      go_enter Tryd.func12, Tryd.ntmps12
      go_wp2_with fail
      refine (K1.out _ (tab_later HT.out D0.out)).mono ?_
      rintro e w1 ⟨rfl, b1⟩
      have C1 := Lib.hid (C0.out.later b1)
      have D1 := Lib.hid (then_below D0.out b1)
      clear b1 a0 a1 a2 alt
      obtain ⟨a0, a1, a2, alt⟩ := C1.out
      go_wp2_with fail
      refine (K2.out _ (tab_later HT.out D1.out)).mono ?_
      rintro e w2 ⟨rfl, b2⟩
      have C2 := Lib.hid (C1.out.later b2)
      have D2 := Lib.hid (then_below D1.out b2)
      clear b2 a0 a1 a2 alt
      obtain ⟨a0, a1, a2, alt⟩ := C2.out
      go_wp2_with fail
      refine (K4.out _).mono ?_
      rintro e w' ⟨rfl, rfl⟩
      go_wp2_with fail
      refine (K5.out _).mono ?_
      rintro e w' ⟨rfl, rfl⟩
      go_wp2_with fail
      refine (K6.out _ (tab_later HT.out D2.out)).mono ?_
      rintro e w3 ⟨rfl, b3⟩
      have C3 := Lib.hid (C2.out.later b3)
      have D3 := Lib.hid (then_below D2.out b3)
      clear b3 a0 a1 a2 alt
      obtain ⟨a0, a1, a2, alt⟩ := C3.out
      go_wp2_with fail
      refine (K7.out _ (tab_later HT.out D3.out)).mono ?_
      rintro e w4 ⟨rfl, b4⟩
      have C4 := Lib.hid (C3.out.later b4)
      have D4 := Lib.hid (then_below D3.out b4)
      clear b4 a0 a1 a2 alt
      obtain ⟨a0, a1, a2, alt⟩ := C4.out
      go_wp2_with fail
      refine (head_c _ (tab_later HT.out D4.out)).mono ?_
      rintro e w5 ⟨rfl, b5⟩
      have D5 := Lib.hid (then_below D4.out b5)
      clear b5
      go_wp2_with fail
      go_ret
      exact ⟨rfl, D5.out⟩
    · have hq2 : 0 < q := by omega
      have hq3 : (q == 0) = false := by simpa using hq0
      clear hq0
      go_enter Tryd.func12, Tryd.ntmps12
      go_wp2_with fail
      refine (K1.out _ (tab_later HT.out D0.out)).mono ?_
      rintro e w1 ⟨rfl, b1⟩
      have C1 := Lib.hid (C0.out.later b1)
      have D1 := Lib.hid (then_below D0.out b1)
      clear b1 a0 a1 a2 alt
      obtain ⟨a0, a1, a2, alt⟩ := C1.out
      go_wp2_with fail
      refine (K2.out _ (tab_later HT.out D1.out)).mono ?_
      rintro e w2 ⟨rfl, b2⟩
      have C2 := Lib.hid (C1.out.later b2)
      have D2 := Lib.hid (then_below D1.out b2)
      clear b2 a0 a1 a2 alt
      obtain ⟨a0, a1, a2, alt⟩ := C2.out
      go_wp2_with fail
      refine (K4.out _).mono ?_
      rintro e w' ⟨rfl, rfl⟩
      go_wp2_with fail
      refine (K5.out _).mono ?_
      rintro e w' ⟨rfl, rfl⟩
      go_wp2_with fail
      refine (K6.out _ (tab_later HT.out D2.out)).mono ?_
      rintro e w3 ⟨rfl, b3⟩
      have C3 := Lib.hid (C2.out.later b3)
      have D3 := Lib.hid (then_below D2.out b3)
      clear b3 a0 a1 a2 alt
      obtain ⟨a0, a1, a2, alt⟩ := C3.out
      go_wp2_with fail
      refine (K7.out _ (tab_later HT.out D3.out)).mono ?_
      rintro e w4 ⟨rfl, b4⟩
      have C4 := Lib.hid (C3.out.later b4)
      have D4 := Lib.hid (then_below D3.out b4)
      clear b4 a0 a1 a2 alt
      obtain ⟨a0, a1, a2, alt⟩ := C4.out
      go_wp2_with fail
      refine (head_c _ (tab_later HT.out D4.out)).mono ?_
      rintro e w5 ⟨rfl, b5⟩
      have D5 := Lib.hid (then_below D4.out b5)
      clear b5
      go_wp2_with fail
      go_ret
      exact ⟨rfl, D5.out⟩
theorem rises_law (c : Cy) (q cut : Int) (w : World) (hw : Tab w) : Calls Tryd.prog 12 #[.agg #[.int .i64 c.s, .int .i64 c.a, .int .i64 c.e], .int .i64 q, .int .i64 cut] w fun e w' => e = .returned (.bool true) ∧ Below w.heap.size w w' := by
  by_cases h : c.Ok
  case neg => exact rises_no c q cut 2 (Lib.hid fun w _ => bound_no c q w (Or.inl h)) (by omega) w hw
  by_cases hq : q < 0
  · exact rises_no c q cut 2 (Lib.hid fun w _ => bound_no c q w (Or.inr ⟨h, hq⟩)) (by omega) w hw
  obtain ⟨j, hj⟩ : ∃ j : Nat, (j : Int) = q := ⟨q.toNat, by omega⟩
  obtain ⟨m, hin⟩ := In.ex c.s h.s0 h.s1
  by_cases hh : Has c m j
  case neg => exact rises_no c q cut 7 (Lib.hid fun w hw => bound_none c m j q w hj hw h hin hh) (by omega) w hw
  have q1 : q ≤ 119988 := by
    rcases Nat.lt_or_ge 119988 j with hl | hl
    · exact absurd hh (has_hi h hin.lo hl)
    · omega
  have hlo := bnd_lo (n := j) h hin
  have hhi := bnd_hi h hh
  by_cases hn : Has c m (j + 1)
  case neg =>
    exact rises_end c q cut (bnd c m j) (by omega) q1 (Lib.hid fun w hw => bound_is c m j q _ w hj hw h hin hh rfl) (Lib.hid fun w hw => bound_none c m (j + 1) (q + 1) w (by omega) hw h hin hn)
      (Lib.hid fun w hw => find_none c m (bnd c m j) w hw h hin hlo hhi (none_end h hin hn)) w hw
  have hbh := bnd_hi h hn
  have hlt := bnd_lt (j := j) h hin
  obtain ⟨ma, nb, i1, i2, hat, hgap, hcs⟩ := pair h hin hn
  have hm := i1.lo; have hm2 := i1.hi; have hnb := i2.lo; have hnb2 := i2.hi
  obtain ⟨r, hr⟩ : ∃ r, cut.tmod (bnd c m (j + 1) - bnd c m j) = r := ⟨_, rfl⟩
  have r1 : r < bnd c m (j + 1) - bnd c m j := by rw [← hr]; exact Int.tmod_lt_of_pos _ (by omega)
  have r2 : -(bnd c m (j + 1) - bnd c m j) < r := by
    rw [← hr]
    have := Int.tmod_lt_of_pos (-cut) (show 0 < bnd c m (j + 1) - bnd c m j by omega)
    rw [Int.neg_tmod] at this
    omega
  have hc2 : (q = 0 ∧ nb = ma) ∨ nb - ma = c.e := by rcases hcs with ⟨h1, h2⟩ | h2; exact Or.inl ⟨by omega, h2⟩; exact Or.inr h2
  by_cases hr0 : 0 ≤ r
  · exact rises_up c q cut (bnd c m j) (bnd c m (j + 1)) ma nb r (by omega) q1 h.e0 h.e1 hlo hlt hbh hgap hm hm2 hnb hnb2 hc2 (Lib.hid hr) r1 r2 (Lib.hid fun w hw => bound_is c m j q _ w hj hw h hin hh rfl) (Lib.hid fun w hw => bound_is c m (j + 1) (q + 1) _ w (by omega) hw h hin hn rfl) (Lib.hid (rof_in i1)) (Lib.hid (rof_in i2)) (Lib.hid fun w hw => hat ▸ at_ok nb c.a w hw hnb hnb2 h.a0 h.a1)
      (Lib.hid fun w hw => find_is c m _ j q _ _ w hw h hin (by omega) (by omega) ⟨hn, by omega, by omega⟩ hj rfl rfl) hr0 w hw
  · exact rises_down c q cut (bnd c m j) (bnd c m (j + 1)) ma nb r (by omega) q1 h.e0 h.e1 hlo hlt hbh hgap hm hm2 hnb hnb2 hc2 (Lib.hid hr) r1 r2 (Lib.hid fun w hw => bound_is c m j q _ w hj hw h hin hh rfl) (Lib.hid fun w hw => bound_is c m (j + 1) (q + 1) _ w (by omega) hw h hin hn rfl) (Lib.hid (rof_in i1)) (Lib.hid (rof_in i2)) (Lib.hid fun w hw => hat ▸ at_ok nb c.a w hw hnb hnb2 h.a0 h.a1)
      (Lib.hid fun w hw => find_is c m _ j q _ _ w hw h hin (by omega) (by omega) ⟨hn, by omega, by omega⟩ hj rfl rfl) (by omega) w hw
end Go.Proofs.YtlmhifdilmnlnaaDoor.An
