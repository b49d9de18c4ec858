/- The document's anchors and bounds. -/
import Derived.Test.YtjchecjonkmhgaaDoorAoBound
import Derived.Test.YtjchecjonkmhgaaDoorSjF
namespace Go.Proofs.YtjchecjonkmhgaaDoor.An
open Go.RowKit Pr Rf
set_option maxHeartbeats 800000 in
theorem rat_ok (m a : Int) (w : World) (m1 : 1 ≤ m) (m2 : m ≤ 119988) (a1 : 1 ≤ a) (a2 : a ≤ 31) :
    Calls Tryd.prog 41 #[.int .i64 m, .int .i64 a] w fun e w' => e = .returned (.tuple #[.int .i64 (atv m a), .int .i64 0]) ∧ w = w' := by
  have KD := Lib.hid (rdays_in m w m1 m2)
  have hb := BE m
  have hl := B_lo m m1
  have hh := E_hi m m2
  by_cases h : B m + a ≤ E m
  · have HV := Lib.hid (show atv m a = B m + 1 + a - 1 by unfold atv; rw [if_pos h]; omega)
    go_enter Tryd.func41, Tryd.ntmps41
    go_wp2_with fail
    refine KD.out.mono ?_
    rintro e w1 ⟨rfl, rfl⟩
    go_wp2_with fail
    go_ret2
    exact ⟨by rw [HV.out]; rfl, rfl⟩
  · have HV := Lib.hid (show atv m a = E m by unfold atv; rw [if_neg h])
    go_enter Tryd.func41, Tryd.ntmps41
    go_wp2_with fail
    refine KD.out.mono ?_
    rintro e w1 ⟨rfl, rfl⟩
    go_wp2_with fail
    go_ret2
    exact ⟨by rw [HV.out]; rfl, rfl⟩
set_option maxHeartbeats 800000 in
theorem rat_no (m a : Int) (w : World) (h : m < 1 ∨ 119988 < m ∨ a < 1 ∨ 31 < a) :
    Calls Tryd.prog 41 #[.int .i64 m, .int .i64 a] w fun e w' => e = .returned (.tuple #[.int .i64 0, .int .i64 2]) ∧ w = w' := by
  by_cases hm : m < 1 ∨ 119988 < m
  · have KD := Lib.hid (show Calls Tryd.prog 52 #[.int .i64 m] w fun e w' => e = .returned (.tuple #[.int .i64 0, .int .i64 0, .int .i64 2]) ∧ w = w' from Cw.rdays_no m w hm)
    clear h hm
    go_enter Tryd.func41, Tryd.ntmps41
    go_wp2_with fail
    refine KD.out.mono ?_
    rintro e w1 ⟨rfl, rfl⟩
    go_wp2_with fail
    go_ret2
    exact ⟨rfl, rfl⟩
  · have KD := Lib.hid (rdays_in m w (by omega) (by omega))
    rcases (show a < 1 ∨ (1 ≤ a ∧ 31 < a) by omega) with h1 | ⟨h1, h2⟩
    all_goals
      clear h hm
      go_enter Tryd.func41, Tryd.ntmps41
      go_wp2_with fail
      refine KD.out.mono ?_
      rintro e w1 ⟨rfl, rfl⟩
      go_wp2_with fail
      go_ret2
      exact ⟨rfl, rfl⟩
set_option maxHeartbeats 800000 in
theorem rcheck_yes (c : Cy) (w : World) (h : c.Ok) : Calls Tryd.prog 39 #[c.val] w fun e w' => e = .returned (.int .i64 0) ∧ Below w.heap.size w w' := by
  obtain ⟨s0, s1, a0, a1, e0, e1⟩ := h
  go_enter Tryd.func39, Tryd.ntmps39
  unfold Cy.val
  go_wp2_with fail
  go_ret
  exact ⟨rfl, (Below.refl _ _).alloc (Nat.le_refl _) _⟩
theorem Cy.not {c : Cy} (h : ¬ c.Ok) : c.s < 1 ∨ (1 ≤ c.s ∧ 3652059 < c.s) ∨ (1 ≤ c.s ∧ c.s ≤ 3652059 ∧ c.a < 1) ∨ (1 ≤ c.s ∧ c.s ≤ 3652059 ∧ 1 ≤ c.a ∧ 31 < c.a) ∨ (1 ≤ c.s ∧ c.s ≤ 3652059 ∧ 1 ≤ c.a ∧ c.a ≤ 31 ∧ c.e < 1) ∨ (1 ≤ c.s ∧ c.s ≤ 3652059 ∧ 1 ≤ c.a ∧ c.a ≤ 31 ∧ 1 ≤ c.e ∧ 120 < c.e) := by
  by_cases h6 : 1 ≤ c.s ∧ c.s ≤ 3652059 ∧ 1 ≤ c.a ∧ c.a ≤ 31 ∧ 1 ≤ c.e ∧ c.e ≤ 120
  · obtain ⟨a, b, d, e, f, g⟩ := h6
    exact absurd ⟨a, b, d, e, f, g⟩ h
  · omega
set_option maxHeartbeats 1600000 in
theorem rcheck_no (c : Cy) (w : World) (h : ¬ c.Ok) : Calls Tryd.prog 39 #[c.val] w fun e w' => e = .returned (.int .i64 2) ∧ Below w.heap.size w w' := by
  rcases Cy.not h with h1 | ⟨h1, h2⟩ | ⟨h1, h2, h3⟩ | ⟨h1, h2, h3, h4⟩ | ⟨h1, h2, h3, h4, h5⟩ | ⟨h1, h2, h3, h4, h5, h6⟩ <;> clear h
  all_goals
    go_enter Tryd.func39, Tryd.ntmps39
    unfold Cy.val
    go_wp2_with fail
    go_ret
    exact ⟨rfl, (Below.refl _ _).alloc (Nat.le_refl _) _⟩
theorem long_at (mo : Int) (w : World) (h1 : 1 ≤ mo) (h2 : mo ≤ 119988) (ln : Int) (hl : E mo - B mo = ln) :
    Calls Tryd.prog 53 #[.int .i64 ((mo + 11) / 12), .int .i64 ((mo + 11) % 12 + 1)] w fun e w' => e = .returned (.int .i64 ln) ∧ w = w' := by
  have h := Cw.long_c (Yk mo) (Mk mo) w (by unfold Yk; omega) (by unfold Yk; omega) (by unfold Mk; omega) (by unfold Mk; omega)
  rw [show Civ.len (Yk mo) (Mk mo) = ln from hl] at h
  rwa [show Yk mo = (mo + 11) / 12 by unfold Yk; omega, show Mk mo = (mo + 11) % 12 + 1 by unfold Mk; omega] at h
/-- The bounds up to one, as cells. -/
def BL (c : Cy) (m : Int) (n : Nat) : List Value := (List.range n).map fun i => .int .i64 (bnd c m i)
theorem BL_succ (c : Cy) (m : Int) (n : Nat) : BL c m (n + 1) = BL c m n ++ [.int .i64 (bnd c m n)] := by unfold BL; rw [List.range_succ, List.map_append]; rfl
theorem BL_at (c : Cy) (m : Int) (n i : Nat) (h : i < n) : (BL c m n)[i]? = some (.int .i64 (bnd c m i)) := by unfold BL; simp [h]
theorem mult_case (i o e : Int) (ho : o % e = 0) (h1 : i ≤ o) (h2 : o ≤ i + e) (hi : i % e = 0) : o = i ∨ o = i + e := by
  have h : (o - i) % e = 0 := by rw [Int.sub_emod, ho, hi]; simp
  rcases Int.lt_or_le (o - i) e with hlt | hge
  · rw [Int.emod_eq_of_lt (by omega) hlt] at h
    omega
  · omega
/-- What Bounds tells. -/
def BsRes (c : Cy) (m day : Int) (most : Nat) (w : World) (e : Ending) (w' : World) : Prop :=
  ∃ (n g cap : Nat), e = .returned (.slice (some ⟨g, 0, none⟩) (n + 1) cap) ∧ w'.ownsRow w.heap.size 3 1 (.slice (some ⟨g, 0, none⟩) (n + 1) cap) (n + 1) (BL c m (n + 1)) ∧ n + 1 ≤ most ∧ Has c m n ∧
    (∀ i, i < n → bnd c m i ≤ day) ∧ (¬ Has c m (n + 1) ∨ day < bnd c m n ∨ n + 1 = most) ∧ Below w.heap.size w w'
theorem infoInt : (Tryd.prog.info? 3).map (fun i => (i.zero, i.size, i.bytes)) = some (some (.int .i64 0), 1, 8) := by kernel_rfl
end Go.Proofs.YtjchecjonkmhgaaDoor.An
