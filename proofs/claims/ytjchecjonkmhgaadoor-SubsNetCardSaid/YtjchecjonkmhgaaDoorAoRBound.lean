/- The document's Bound and Find. -/
import Derived.Test.YtjchecjonkmhgaaDoorAoRBounds
namespace Go.Proofs.YtjchecjonkmhgaaDoor.An
open Go.RowKit Pr Rf
theorem bnd_hi {c : Cy} {m : Int} {n : Nat} (h : c.Ok) (hh : Has c m n) : bnd c m n ≤ 3652059 := by
  rcases n with _|n
  · rw [bnd_0]; exact h.s1
  · rw [bnd_s]
    rw [has_s] at hh
    have := (atv_bd (fst c m + (n : Int) * c.e) c.a h.a0).2
    have := E_hi _ hh
    omega
theorem bnd_lo {c : Cy} {m : Int} {n : Nat} (h : c.Ok) (hin : In m c.s) : 1 ≤ bnd c m n := by
  have := bnd_le (j := n) h hin (Nat.zero_le n)
  rw [bnd_0] at this
  have := h.s0
  omega
set_option maxHeartbeats 1600000 in
theorem rbound_no (c : Cy) (k : Int) (w : World) (h : ¬ c.Ok ∨ (c.Ok ∧ k < 0)) :
    Calls Tryd.prog 21 #[c.val, .int .i64 k] w fun e w' => e = .returned (.tuple #[.int .i64 0, .int .i64 2]) ∧ Below w.heap.size w w' := by
  have D0 := Lib.hid ((Below.refl _ w).alloc (Nat.le_refl _) (.cells #[.int .i64 c.s, .int .i64 c.a, .int .i64 c.e] 24))
  rcases h with h | ⟨h, hk⟩
  · have KC := Lib.hid (fun w => rcheck_no c w h)
    clear h
    go_enter Tryd.func21, Tryd.ntmps21
    unfold Cy.val
    go_wp2_with fail
    refine (KC.out _).mono ?_
    rintro e w1 ⟨rfl, b1⟩
    have D1 := Lib.hid (then_below D0.out b1)
    clear b1
    go_wp2_with fail
    go_ret2
    exact ⟨rfl, D1.out⟩
  · have KC := Lib.hid (fun w => rcheck_yes c w h)
    clear h
    go_enter Tryd.func21, Tryd.ntmps21
    unfold Cy.val
    go_wp2_with fail
    refine (KC.out _).mono ?_
    rintro e w1 ⟨rfl, b1⟩
    have D1 := Lib.hid (then_below D0.out b1)
    clear b1
    go_wp2_with fail
    go_ret2
    exact ⟨rfl, D1.out⟩
/-- What is known of a list of bounds up to the last day there is. -/
theorem all_bounds {c : Cy} {m : Int} {n j most : Nat} (h : c.Ok) (hin : In m c.s) (hn : Has c m n) (hend : ¬ Has c m (n + 1) ∨ 3652059 < bnd c m n ∨ n + 1 = most) (hm : (j ≤ 119988 ∧ most = j + 1) ∨ (119988 < j ∧ most = 119989)) (hj : n < j) : ¬ Has c m j := by
  have hb := bnd_hi h hn
  rcases hend with he | he | he
  · exact fun hh => he (Has.le h hj hh)
  · omega
  · exact has_hi h hin.lo (by omega)
set_option maxRecDepth 100000 in
set_option maxHeartbeats 1600000 in
theorem rbound_in (c : Cy) (m : Int) (j : Nat) (w : World) (h : c.Ok) (hin : In m c.s) : Calls Tryd.prog 21 #[c.val, .int .i64 (j : Int)] w (BoundRes c m j w) := by
  have D0 := Lib.hid ((Below.refl _ w).alloc (Nat.le_refl _) (.cells #[.int .i64 c.s, .int .i64 c.a, .int .i64 c.e] 24))
  have KC := Lib.hid (fun w => rcheck_yes c w h)
  have HC := Lib.hid (Cb.box c w)
  obtain ⟨q, hq⟩ : ∃ q : Int, (j : Int) = q := ⟨_, rfl⟩
  have q0 : 0 ≤ q := by omega
  have HQ := Lib.hid hq
  have ht : q.toNat = j := by omega
  have HTN := Lib.hid ht
  obtain ⟨most, mv, hmv, hmost, hmin⟩ : ∃ (most : Nat) (mv : Int), (most : Int) = mv ∧ ((j ≤ 119988 ∧ most = j + 1) ∨ (119988 < j ∧ most = 119989)) ∧ ((q ≤ 119988 ∧ mv = q + 1) ∨ (119988 < q ∧ mv = 119989)) := by
    by_cases hj : j ≤ 119988
    · exact ⟨j + 1, q + 1, by omega, Or.inl ⟨hj, rfl⟩, Or.inl ⟨by omega, rfl⟩⟩
    · exact ⟨119989, 119989, rfl, Or.inr ⟨by omega, rfl⟩, Or.inr ⟨by omega, rfl⟩⟩
  have KB := Lib.hid (fun w => hmv ▸ rbounds_c c m 3652059 most w h hin (by omega) (by omega))
  have HM := Lib.hid hmost
  rw [hq]
  clear hq ht hmost hmv
  obtain ⟨a0, a1, a2, alt⟩ := HC.out
  rcases hmin with ⟨hm1, rfl⟩ | ⟨hm1, rfl⟩
  all_goals
    go_enter Tryd.func21, Tryd.ntmps21
    unfold Cy.val
    go_wp2_with fail
    refine (KC.out _).mono ?_
    rintro e w1 ⟨rfl, b1⟩
    have HC1 := Lib.hid (HC.out.later b1)
    have D1 := Lib.hid (then_below D0.out b1)
    clear b1
    obtain ⟨c0, c1, c2, clt⟩ := HC1.out
    go_wp2_with fail
    refine (KB.out _).mono ?_
    rintro e w2 ⟨n, g, cap, rfl, hown, hn1, hn2, hn3, hend, b2⟩
    have D2 := Lib.hid (then_below D1.out b2)
    have HO := Lib.hid hown
    have HN := Lib.hid hn2
    have HE := Lib.hid hend
    clear b2 hown hn1 hn2 hn3 hend c0 c1 c2 clt
    by_cases hlt : q < (n : Int) + 1
    · have hjn : j ≤ n := by have := HQ.out; omega
      have cell := (own_cell HO.out).2 j _ (BL_at c m (n + 1) j (by omega))
      have HH := Lib.hid (Has.le h hjn HN.out)
      obtain ⟨bj, hbj⟩ : ∃ bj, bnd c m j = bj := ⟨_, rfl⟩
      rw [hbj] at cell
      rw [← HTN.out] at cell
      have HBJ := Lib.hid hbj
      clear hbj hjn
      go_wp2_with fail
      go_ret2
      exact ⟨fun _ => by rw [HBJ.out]; rfl, fun hh => absurd HH.out hh, D2.out⟩
    · have HH := Lib.hid (all_bounds h hin HN.out HE.out HM.out (by have := HQ.out; omega))
      go_wp2_with fail
      go_ret2
      exact ⟨fun hh => absurd hh HH.out, fun _ => rfl, D2.out⟩
/-- The period that has a day. -/
def Per (c : Cy) (m day : Int) (i : Nat) : Prop := Has c m (i + 1) ∧ bnd c m i ≤ day ∧ day < bnd c m (i + 1)
theorem Per.one {c : Cy} {m day : Int} {i j : Nat} (h : c.Ok) (hin : In m c.s) (a : Per c m day i) (b : Per c m day j) : i = j := by
  have h1 := a.2.1; have h2 := a.2.2; have h3 := b.2.1; have h4 := b.2.2
  rcases Nat.lt_trichotomy i j with hl | rfl | hl
  · have := bnd_le (i := i + 1) (j := j) h hin hl; omega
  · rfl
  · have := bnd_le (i := j + 1) (j := i) h hin hl; omega
def FindRes (c : Cy) (m day : Int) (w : World) (e : Ending) (w' : World) : Prop :=
  ((∃ i, Per c m day i ∧ e = .returned (.tuple #[.int .i64 (i : Int), .int .i64 (bnd c m i), .int .i64 (bnd c m (i + 1)), .int .i64 0])) ∨ ((∀ i, ¬ Per c m day i) ∧ e = .returned (.tuple #[.int .i64 0, .int .i64 0, .int .i64 0, .int .i64 7]))) ∧ Below w.heap.size w w'
end Go.Proofs.YtjchecjonkmhgaaDoor.An
