/- The document's Find. -/
import Derived.Test.YtjchecjonkmhgaaDoorAoRBound
import Derived.IntWalk
namespace Go.Proofs.YtjchecjonkmhgaaDoor.An
open Go.RowKit Pr Rf
set_option maxHeartbeats 1600000 in
theorem rfind_no (c : Cy) (day : Int) (w : World) (h : ¬ c.Ok ∨ (c.Ok ∧ (day < 1 ∨ 3652059 < day))) :
    Calls Tryd.prog 38 #[c.val, .int .i64 day] w fun e w' => e = .returned (.tuple #[.int .i64 0, .int .i64 0, .int .i64 0, .int .i64 2]) ∧ Below w.heap.size w w' := by
  have D0 := Lib.hid ((Below.refl _ w).alloc (Nat.le_refl _) (.cells #[.int .i64 c.s, .int .i64 c.a, .int .i64 c.e] 24))
  rcases h with h | ⟨h, hk⟩
  · have KC := Lib.hid (fun w => rcheck_no c w h)
    clear h
    go_enter Tryd.func38, Tryd.ntmps38
    unfold Cy.val
    go_wp2_with fail
    refine (KC.out _).mono ?_
    rintro e w1 ⟨rfl, b1⟩
    have D1 := Lib.hid (then_below D0.out b1)
    clear b1
    go_wp2_with fail
    exact bodyPost_ret (v := .tuple #[.int .i64 0, .int .i64 0, .int .i64 0, .int .i64 2]) (by simp [results, Tryd.results38, go_sem]) rfl ⟨rfl, D1.out⟩
  · have KC := Lib.hid (fun w => rcheck_yes c w h)
    clear h
    rcases (show day < 1 ∨ (1 ≤ day ∧ 3652059 < day) by omega) with h1 | ⟨h1, h2⟩
    all_goals
      clear hk
      go_enter Tryd.func38, Tryd.ntmps38
      unfold Cy.val
      go_wp2_with fail
      refine (KC.out _).mono ?_
      rintro e w1 ⟨rfl, b1⟩
      have D1 := Lib.hid (then_below D0.out b1)
      clear b1
      go_wp2_with fail
      exact bodyPost_ret (v := .tuple #[.int .i64 0, .int .i64 0, .int .i64 0, .int .i64 2]) (by simp [results, Tryd.results38, go_sem]) rfl ⟨rfl, D1.out⟩
theorem none_early {c : Cy} {m day : Int} (h : c.Ok) (hin : In m c.s) (hs : day < c.s) : ∀ i, ¬ Per c m day i := fun i hp => by
  have h1 := hp.2.1; have h2 := bnd_le (i := 0) (j := i) h hin (Nat.zero_le _); rw [bnd_0] at h2; omega
theorem none_late {c : Cy} {m day : Int} {n : Nat} (h : c.Ok) (hin : In m c.s) (hn : Has c m n) (hb : bnd c m n ≤ day) (he : ¬ Has c m (n + 1) ∨ day < bnd c m n ∨ n + 1 = 119990) : ∀ i, ¬ Per c m day i := fun i hp => by
  have hno : ¬ Has c m (n + 1) := by
    rcases he with he | he | he
    · exact he
    · omega
    · exact absurd hn (has_hi h hin.lo (by omega))
  rcases Nat.lt_or_ge n (i + 1) with h1 | h1
  · exact hno (Has.le h h1 hp.1)
  · have := bnd_le (i := i + 1) (j := n) h hin h1
    have := hp.2.2
    omega
set_option maxRecDepth 100000 in
set_option maxHeartbeats 1600000 in
theorem rfind_in (c : Cy) (m day : Int) (w : World) (h : c.Ok) (hin : In m c.s) (d1 : 1 ≤ day) (d2 : day ≤ 3652059) : Calls Tryd.prog 38 #[c.val, .int .i64 day] w (FindRes c m day w) := by
  have D0 := Lib.hid ((Below.refl _ w).alloc (Nat.le_refl _) (.cells #[.int .i64 c.s, .int .i64 c.a, .int .i64 c.e] 24))
  have KC := Lib.hid (fun w => rcheck_yes c w h)
  have HC := Lib.hid (Cb.box c w)
  have KB := Lib.hid (fun w => (show Calls Tryd.prog 29 #[c.val, .int .i64 day, .int .i64 119990] w (BsRes c m day 119990 w) from rbounds_c c m day 119990 w h hin (by omega) (by omega)))
  obtain ⟨a0, a1, a2, alt⟩ := HC.out
  go_enter Tryd.func38, Tryd.ntmps38
  unfold Cy.val
  go_wp2_with fail
  refine (KC.out _).mono ?_
  rintro e w1 ⟨rfl, b1⟩
  have HC1 := Lib.hid (HC.out.later b1)
  have D1 := Lib.hid (then_below D0.out b1)
  clear b1 a0 a1 a2 alt
  obtain ⟨a0, a1, a2, alt⟩ := HC1.out
  go_wp2_with fail
  refine (KB.out _).mono ?_
  rintro e w2 ⟨n, g, cap, rfl, hown, hn1, hn2, hn3, hend, b2⟩
  have D2 := Lib.hid (then_below D1.out b2)
  have HC2 := Lib.hid (HC1.out.later b2)
  have HO := Lib.hid hown
  have HN := Lib.hid hn2
  have HA := Lib.hid hn3
  have HE := Lib.hid hend
  have hn9 : (n : Int) ≤ 119990 := by omega
  clear b2 hown hn1 hn2 hn3 hend a0 a1 a2 alt
  obtain ⟨a0, a1, a2, alt⟩ := HC2.out
  by_cases hs : day < c.s
  · have HNO := Lib.hid (none_early h hin hs)
    have hsd : decide (day < c.s) = true := decide_eq_true hs
    clear hs
    go_wp2_with fail
    exact bodyPost_ret (v := .tuple #[.int .i64 0, .int .i64 0, .int .i64 0, .int .i64 7]) (by simp [results, Tryd.results38, go_sem]) rfl ⟨Or.inr ⟨HNO.out, rfl⟩, D2.out⟩
  · obtain ⟨bn, hbn⟩ : ∃ bn, bnd c m n = bn := ⟨_, rfl⟩
    have celln := (own_cell HO.out).2 n _ (BL_at c m (n + 1) n (by omega))
    rw [hbn] at celln
    have HBN := Lib.hid hbn
    clear hbn
    by_cases hle : bn ≤ day
    · have HNO := Lib.hid (none_late h hin HN.out (by rw [HBN.out]; exact hle) HE.out)
      go_wp2_with fail
      exact bodyPost_ret (v := .tuple #[.int .i64 0, .int .i64 0, .int .i64 0, .int .i64 7]) (by simp [results, Tryd.results38, go_sem]) rfl ⟨Or.inr ⟨HNO.out, rfl⟩, D2.out⟩
    · obtain ⟨p, rfl⟩ : ∃ p, n = p + 1 := by
        rcases n with _|p
        · have := HBN.out
          rw [bnd_0] at this
          omega
        · exact ⟨p, rfl⟩
      have cellp := (own_cell HO.out).2 p _ (BL_at c m (p + 1 + 1) p (by omega))
      have HP := Lib.hid (show Per c m day p from ⟨HN.out, HA.out p (by omega), by rw [HBN.out]; omega⟩)
      obtain ⟨bp, hbp⟩ : ∃ bp, bnd c m p = bp := ⟨_, rfl⟩
      rw [hbp] at cellp
      have HBP := Lib.hid hbp
      have hp9 : (p : Int) ≤ 119990 := by omega
      have hw1 : IntKind.i64.wrap (p : Int) = (p : Int) := IntWalk.i64_in _ (by omega)
      have q0 : (0 : Int) ≤ (p : Int) := by omega
      clear hbp hn9
      go_wp2_with fail
      go_quiet (fail)
      go_wp2_with fail
      refine bodyPost_ret (v := .tuple #[.int .i64 (p : Int), .int .i64 bp, .int .i64 bn, .int .i64 0]) (by simp [results, Tryd.results38, go_sem]) rfl ⟨Or.inl ⟨p, HP.out, by rw [HBP.out, HBN.out]⟩, below_drewN D2.out _⟩
end Go.Proofs.YtjchecjonkmhgaaDoor.An
