/- Package prorate: terms that may not be; lists that are the same; known answers. -/
import Derived.Test.YtlmhifdilmnlnaaDoorPrRMonths
import Derived.Laws.StructEq
namespace Go.Proofs.YtlmhifdilmnlnaaDoor.Pr
open Go.RowKit Rf
set_option maxHeartbeats 800000 in
theorem months_no (f x : Int) (w : World) (h : f < 1 ∨ 3652059 < f ∨ x < f + 1 ∨ 3652060 < x) :
    Calls Tryd.prog 21 #[.int .i64 f, .int .i64 x] w fun e w' => e = .returned (.tuple #[.slice none 0 0, .int .i64 2]) ∧ Below w.heap.size w w' := by
  have hmf := mk_fn
  rcases (show (f < 1 ∨ 3652059 < f) ∨ ((1 ≤ f ∧ f ≤ 3652059) ∧ (x < f + 1 ∨ 3652060 < x)) by omega) with h1 | ⟨⟨h1, h2⟩, h3⟩ <;> clear h
  · have K1 := Lib.hid (fun w => all_is 1 3652059 f false w (has_no h1))
    clear h1
    go_enter Tryd.func21, Tryd.ntmps21
    go_wp2_with fail
    refine (K1.out _).mono ?_
    rintro e w1 ⟨rfl, b1⟩
    go_wp2_with fail
    go_ret2
    exact ⟨rfl, b1⟩
  · have K1 := Lib.hid (fun w => all_is 1 3652059 f true w (has_yes h1 h2))
    have K2 := Lib.hid (fun w => all_is (f + 1) 3652060 x false w (has_no h3))
    clear h3
    go_enter Tryd.func21, Tryd.ntmps21
    go_wp2_with fail
    refine (K1.out _).mono ?_
    rintro e w1 ⟨rfl, b1⟩
    go_wp2_with fail
    refine (K2.out _).mono ?_
    rintro e w2 ⟨rfl, b2⟩
    have B2 := Lib.hid (then_below b1 b2)
    clear b1 b2
    go_wp2_with fail
    go_ret2
    exact ⟨rfl, B2.out⟩
set_option maxHeartbeats 800000 in
theorem rmonths_no (f x : Int) (w : World) (h : f < 1 ∨ x ≤ f ∨ 3652060 < x) :
    Calls Tryd.prog 22 #[.int .i64 f, .int .i64 x] w fun e w' => e = .returned (.tuple #[.slice none 0 0, .int .i64 2]) ∧ w = w' := by
  rcases (show f < 1 ∨ (1 ≤ f ∧ x ≤ f) ∨ (1 ≤ f ∧ f < x ∧ 3652060 < x) by omega) with h1 | ⟨h1, h2⟩ | ⟨h1, h2, h3⟩ <;> clear h
  all_goals
    go_enter Tryd.func22, Tryd.ntmps22
    go_wp2_with fail
    go_ret2
    exact ⟨rfl, rfl⟩
/-- A row of shares in a block. -/
structure Sh (g : Nat) (L : List (Int × Int)) (w : World) : Prop where
  lt : g < w.heap.size
  c0 : ∀ j (h : j < L.length), w.cell? ⟨g, j * 2, none⟩ = some (.int .i64 L[j].1)
  c1 : ∀ j (h : j < L.length), w.cell? ⟨g, j * 2 + 1, none⟩ = some (.int .i64 L[j].2)
theorem Sh.later {g : Nat} {L : List (Int × Int)} {w w' : World} (h : Sh g L w) (hb : Below w.heap.size w w') : Sh g L w' :=
  ⟨Nat.lt_of_lt_of_le h.lt hb.size, fun j hj => by rw [hb.cell (by simpa using h.lt)]; exact h.c0 j hj, fun j hj => by rw [hb.cell (by simpa using h.lt)]; exact h.c1 j hj⟩
theorem cellsL_at (L : List (Int × Int)) (j : Nat) (h : j < L.length) : (cellsL L)[j * 2]? = some (.int .i64 L[j].1) ∧ (cellsL L)[j * 2 + 1]? = some (.int .i64 L[j].2) := by
  induction L generalizing j with
  | nil => simp at h
  | cons y L ih =>
    cases j with
    | zero => simp [cellsL]
    | succ j =>
      have := ih j (by simpa using h)
      rw [show (j + 1) * 2 = j * 2 + 2 by omega]
      simpa [cellsL, List.flatMap_cons] using this
theorem own_sh {w : World} {base g cap : Nat} {L : List (Int × Int)} (h : w.ownsRow base 51 2 (.slice (some ⟨g, 0, none⟩) L.length cap) L.length (cellsL L)) : Sh g L w := by
  rcases h.2 with ⟨h0, _⟩ | ⟨g', cap', cur, hv, _, hh, _, _, hs, ht⟩
  · cases h0
  · obtain ⟨rfl, rfl⟩ : g = g' ∧ cap = cap' := by simpa using hv
    have hc : ∀ i v, (cellsL L)[i]? = some v → w.cell? ⟨g, i, none⟩ = some v := by
      intro i v hi
      rw [← ht, List.getElem?_take] at hi
      split at hi
      · simp only [World.cell?, hh]
        simpa using hi
      · cases hi
    exact ⟨(Array.getElem?_eq_some_iff.1 hh).1, fun j hj => hc _ _ (cellsL_at L j hj).1, fun j hj => hc _ _ (cellsL_at L j hj).2⟩
set_option maxHeartbeats 800000 in
theorem same_nil (w : World) : Calls Tryd.prog 23 #[.slice none 0 0, .slice none 0 0] w fun e w' => e = .returned (.bool true) ∧ Below w.heap.size w w' := by
  go_enter Tryd.func23, Tryd.ntmps23
  go_wp2_with fail
  refine wp_loop_rounds 1 ?_
  rw [rounds_succ]
  go_wp2_with fail
  go_ret
  exact ⟨rfl, Below.refl _ _⟩
set_option maxRecDepth 100000 in
set_option maxHeartbeats 1600000 in
theorem same_c (ga ca gb cb : Nat) (L : List (Int × Int)) (w : World) (ha : Sh ga L w) (hb : Sh gb L w) (hl : L.length ≤ 4000000) :
    Calls Tryd.prog 23 #[.slice (some ⟨ga, 0, none⟩) L.length ca, .slice (some ⟨gb, 0, none⟩) L.length cb] w fun e w' => e = .returned (.bool true) ∧ Below w.heap.size w w' := by
  have HA := Lib.hid ha
  have HBB := Lib.hid hb
  clear ha hb
  go_enter Tryd.func23, Tryd.ntmps23
  go_wp2_with fail
  go_loopw [5] (fun i wr => ∃ k : Nat, k ≤ L.length ∧ i = .int .i64 k ∧ Below w.heap.size w wr) (fun i _ => L.length - (intOf i).toNat)
  case atStart => exact ⟨0, by omega, rfl, Below.refl _ _⟩
  case round =>
    obtain ⟨k, hk, rfl, hB⟩ := hrel
    have HB := Lib.hid hB
    clear hB
    by_cases hlt : k < L.length
    · have a0 := (HA.out.later HB.out).c0 k hlt
      have a1 := (HA.out.later HB.out).c1 k hlt
      have b0 := (HBB.out.later HB.out).c0 k hlt
      have b1 := (HBB.out.later HB.out).c1 k hlt
      generalize L[k].1 = p at *
      generalize L[k].2 = q at *
      have q0 : (0 : Int) ≤ (k : Int) := by omega
      have q1 : (k : Int) < (L.length : Int) := by omega
      go_wp2_with fail
      go_quiet (fail)
      go_wp2_with fail
      exact ⟨⟨k + 1, by omega, by simp, below_drewN HB.out _⟩, by simp [intOf]; omega⟩
    · go_wp2_with fail
      go_ret
      exact ⟨rfl, HB.out⟩
/-- The head's own term: 45 days of the year 2024. -/
theorem head_in : In 24277 738905 := ⟨by omega, by omega, by decide, by decide⟩
theorem head_tm : tm 45 24277 738905 738950 = [(24277, 12), (24278, 29), (24279, 4)] := by decide
set_option maxRecDepth 100000 in
set_option maxHeartbeats 1600000 in
theorem head_c (w : World) (hw : Cw.Tab w) : Calls Tryd.prog 18 #[] w fun e w' => e = .returned (.bool true) ∧ Below w.heap.size w w' := by
  have K1 := Lib.hid (fun w => (show du 1000 10 30 = 333 by decide) ▸ due_ok 1000 10 30 w ⟨by omega, by omega, by omega, by omega, by omega, by omega⟩)
  have K2 := Lib.hid (fun w => (show du 1000 30 30 - du 1000 20 30 = 334 by decide) ▸ on_ok 1000 20 30 30 w ⟨by omega, ⟨by omega, by omega, by omega, by omega, by omega, by omega⟩, ⟨by omega, by omega, by omega, by omega, by omega, by omega⟩⟩)
  have K3 := Lib.hid (fun w => (show du 1000 30 30 - du 1000 10 30 = 667 by decide) ▸ (show du 2000 30 30 - du 2000 10 30 = 1334 by decide) ▸ change_ok 1000 2000 10 30 w ⟨by omega, ⟨by omega, by omega, by omega, by omega, by omega, by omega⟩, ⟨by omega, by omega, by omega, by omega, by omega, by omega⟩⟩ ⟨by omega, ⟨by omega, by omega, by omega, by omega, by omega, by omega⟩, ⟨by omega, by omega, by omega, by omega, by omega, by omega⟩⟩)
  have K4 := Lib.hid (fun w => (show Civ.U 2024 1 + 20 = 738905 by decide) ▸ Cw.rday_yes 2024 1 20 w ⟨by omega, by omega, by omega, by omega, by omega, by decide⟩)
  have K5 := Lib.hid (fun w => (show Civ.U 2024 3 + 5 = 738950 by decide) ▸ Cw.rday_yes 2024 3 5 w ⟨by omega, by omega, by omega, by omega, by omega, by decide⟩)
  have K6 := Lib.hid (fun w hw => months_ok 24277 738905 738950 w hw head_in (by omega) (by omega) 45 (by omega) _ head_tm)
  have K7 := Lib.hid (fun w => due_no 1 2 1 w (fun h => by have := h.d1; omega))
  have K8 := Lib.hid (fun w => months_no 5 5 w (by omega))
  have HW := Lib.hid hw
  clear hw
  go_enter Tryd.func18, Tryd.ntmps18
  go_wp2_with fail
  refine (K1.out _).mono ?_
  rintro e w1 ⟨rfl, b1⟩
  go_wp2_with fail
  refine (K2.out _).mono ?_
  rintro e w2 ⟨rfl, b2⟩
  have B2 := Lib.hid (then_below b1 b2)
  clear b1 b2
  go_wp2_with fail
  refine (K3.out _).mono ?_
  rintro e w3 ⟨rfl, b3⟩
  have B3 := Lib.hid (then_below B2.out b3)
  clear b3 B2
  go_wp2_with fail
  refine (K4.out _).mono ?_
  rintro e w' ⟨rfl, rfl⟩
  go_wp2_with fail
  refine (K5.out _).mono ?_
  rintro e w' ⟨rfl, rfl⟩
  go_wp2_with fail
  refine (K6.out _ (tab_later HW.out B3.out)).mono ?_
  rintro e w4 ⟨g, cap, rfl, hown, b4⟩
  have B4 := Lib.hid (then_below B3.out b4)
  have hs := own_sh hown
  have HS := Lib.hid hs
  clear b4 B3 hown hs
  go_wp2_with fail
  refine (K7.out _).mono ?_
  rintro e w5 ⟨rfl, b5⟩
  have HS5 := Lib.hid (HS.out.later b5)
  have B5 := Lib.hid (then_below B4.out b5)
  clear b5 B4 HS
  go_wp2_with fail
  refine (K8.out _).mono ?_
  rintro e w6 ⟨rfl, b6⟩
  have HS6 := HS5.out.later b6
  have B6 := Lib.hid (then_below B5.out b6)
  have c0 := HS6.c1 0 (by decide)
  have c1 := HS6.c1 1 (by decide)
  have c2 := HS6.c1 2 (by decide)
  simp at c0 c1 c2
  clear b6 B5 HS5 HS6
  go_wp2_with fail
  go_ret
  exact ⟨rfl, B6.out⟩
end Go.Proofs.YtlmhifdilmnlnaaDoor.Pr
