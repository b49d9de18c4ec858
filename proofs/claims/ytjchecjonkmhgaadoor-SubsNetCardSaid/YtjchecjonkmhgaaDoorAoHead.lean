/- Package anchor: the small contracts. -/
import Derived.Test.YtjchecjonkmhgaaDoorSjF
import Derived.Deep.RegionHeld3
namespace Go.Proofs.YtjchecjonkmhgaaDoor.An
open Go.RowKit Pr Cw
theorem all_c (g : Nat) (cap : Nat) (bs : List Bool) (w : World) (hb : g < w.heap.size) (hl : bs.length ≤ 1000)
    (hc : ∀ j, (h : j < bs.length) → w.cell? ⟨g, j, none⟩ = some (.bool bs[j])) :
    Calls Tryd.prog 67 #[.slice (some ⟨g, 0, none⟩) bs.length cap] w fun e w' => e = .returned (.bool (bs.all (fun b => b))) ∧ Below w.heap.size w w' := by
  have HC := Lib.hid hc
  clear hc
  go_enter Tryd.func67, Tryd.ntmps67
  go_wp2_with fail
  go_loopw [4, 7] (fun _ i wr => ∃ k : Nat, k ≤ bs.length ∧ i = .int .i64 k ∧ ((bs.take k).all (fun b => b) = true) ∧ Below w.heap.size w wr) (fun _ i _ => bs.length - (intOf i).toNat)
  case atStart => exact ⟨0, by omega, rfl, by simp, Below.refl _ _⟩
  case round =>
    obtain ⟨k, hk, rfl, hA, hB⟩ := hrel
    have HA := Lib.hid hA
    clear hA
    by_cases hlt : k < bs.length
    · have hcell : wr.cell? ⟨g, k, none⟩ = some (.bool bs[k]) := by rw [hB.cell hb]; exact HC.out k hlt
      have HT := Lib.hid (show (bs.take (k + 1)).all (fun b => b) = bs[k] by rw [List.take_succ_eq_append_getElem hlt, List.all_append, HA.out]; simp)
      have HF := Lib.hid (show bs[k] = false → bs.all (fun b => b) = false by
        intro h
        rw [List.all_eq_false]
        exact ⟨bs[k], List.getElem_mem hlt, by simp [h]⟩)
      generalize hx : bs[k] = x at *
      clear hx
      cases x with
      | true =>
        go_wp2_with fail
        all_goals exact ⟨⟨k + 1, by omega, by go_num, HT.out, by first | exact hB | exact hB.drew⟩, by simp [intOf]; omega⟩
      | false =>
        go_wp2_with fail
        all_goals
          go_ret
          exact ⟨ret_bool (by rw [HF.out (by first | rfl | trivial)]), by first | exact hB | exact hB.drew⟩
    · obtain rfl : k = bs.length := by omega
      go_wp2_with fail
      go_ret
      exact ⟨ret_bool (by have := HA.out; rw [List.take_length] at this; rw [this]), hB⟩
theorem all2 (a b z : Bool) (u : World) (hz : (a && b) = z) :
    Calls Tryd.prog 67 #[.slice (some ⟨u.heap.size, 0, none⟩) 2 2] (u.alloc (.cells #[.bool a, .bool b] 4)) fun e w' => e = .returned (.bool z) ∧ Below u.heap.size u w' := by
  subst hz
  refine (all_c u.heap.size 2 [a, b] _ (by simp) (by simp) ?_).mono fun e w' ⟨p, q⟩ => ⟨by rw [p]; simp, then_below ((Below.refl _ u).alloc (Nat.le_refl _) _) q⟩
  intro j hh
  rw [World.cell?_alloc_at _ _ _ _ (by simp)]
  have h : j < 2 := by simpa using hh
  rcases j with _|_|j <;> first | omega | rfl | simp
theorem all5 (a b c d f : Bool) (u : World) :
    Calls Tryd.prog 67 #[.slice (some ⟨u.heap.size, 0, none⟩) 5 5] (u.alloc (.cells #[.bool a, .bool b, .bool c, .bool d, .bool f] 4)) fun e w' => e = .returned (.bool (a && (b && (c && (d && f))))) ∧ Below u.heap.size u w' := by
  refine (all_c u.heap.size 5 [a, b, c, d, f] _ (by simp) (by simp) ?_).mono fun e w' ⟨p, q⟩ => ⟨by rw [p]; simp, then_below ((Below.refl _ u).alloc (Nat.le_refl _) _) q⟩
  intro j hh
  rw [World.cell?_alloc_at _ _ _ _ (by simp)]
  have h : j < 5 := by simpa using hh
  rcases j with _|_|_|_|_|j <;> first | omega | rfl | simp
def dayB (d : Int) : Bool := decide (1 ≤ d) && decide (d ≤ 3652059)
theorem isDay_c (d : Int) (w : World) : Calls Tryd.prog 68 #[.int .i64 d] w fun e w' => e = .returned (.bool (dayB d)) ∧ Below w.heap.size w w' := by
  rcases (show (1 ≤ d ∧ d ≤ 3652059) ∨ ¬ 1 ≤ d ∨ (1 ≤ d ∧ ¬ d ≤ 3652059) by omega) with ⟨h1, h2⟩ | h1 | ⟨h1, h2⟩
  · have K := Lib.hid (fun u => all2 true true true u rfl)
    have HE := Lib.hid (show dayB d = true by unfold dayB; rw [decide_eq_true h1, decide_eq_true h2]; rfl)
    go_enter Tryd.func68, Tryd.ntmps68
    go_wp2_with fail
    refine (K.out _).mono ?_
    rintro e w1 ⟨rfl, b1⟩
    go_wp2_with fail
    go_ret
    exact ⟨by rw [HE.out]; rfl, b1⟩
  · by_cases h2 : d ≤ 3652059
    · have K := Lib.hid (fun u => all2 false true false u rfl)
      have HE := Lib.hid (show dayB d = false by unfold dayB; rw [decide_eq_false h1]; rfl)
      have hd : decide (1 ≤ d) = false := decide_eq_false h1
      clear h1
      go_enter Tryd.func68, Tryd.ntmps68
      go_wp2_with fail
      refine (K.out _).mono ?_
      rintro e w1 ⟨rfl, b1⟩
      go_wp2_with fail
      go_ret
      exact ⟨by rw [HE.out]; rfl, b1⟩
    · omega
  · have K := Lib.hid (fun u => all2 true false false u rfl)
    have HE := Lib.hid (show dayB d = false by unfold dayB; rw [decide_eq_false h2]; simp)
    have hd : decide (d ≤ 3652059) = false := decide_eq_false h2
    clear h2
    go_enter Tryd.func68, Tryd.ntmps68
    go_wp2_with fail
    refine (K.out _).mono ?_
    rintro e w1 ⟨rfl, b1⟩
    go_wp2_with fail
    go_ret
    exact ⟨by rw [HE.out]; rfl, b1⟩
/-- The anchor day of a month. -/
def atv (m a : Int) : Int := if B m + a ≤ E m then B m + a else E m
theorem atv_bd (m a : Int) (h1 : 1 ≤ a) : B m < atv m a ∧ atv m a ≤ E m := by
  have := BE m; unfold atv; split <;> omega
theorem days_out (k : Int) (w : World) (h : k < 1 ∨ 119988 < k) : Calls Tryd.prog 76 #[.int .i64 k] w fun e w' => e = .returned (.tuple #[.int .i64 0, .int .i64 0, .int .i64 2]) ∧ w = w' := Cw.days_no k w h
set_option maxHeartbeats 800000 in
theorem at_ok (m a : Int) (w : World) (hw : Tab w) (m1 : 1 ≤ m) (m2 : m ≤ 119988) (a1 : 1 ≤ a) (a2 : a ≤ 31) :
    Calls Tryd.prog 64 #[.int .i64 m, .int .i64 a] w fun e w' => e = .returned (.tuple #[.int .i64 (atv m a), .int .i64 0]) ∧ Below w.heap.size w w' := by
  have KD := Lib.hid (days_in m w hw m1 m2)
  have K := Lib.hid (fun u => all2 true true true u rfl)
  have hb := BE m
  have hl := B_lo m m1
  have hh := E_hi m m2
  rcases (show B m + a < E m ∨ B m + a = E m ∨ E m < B m + a by omega) with h | h | h
  · have HV := Lib.hid (show atv m a = B m + 1 + a - 1 by unfold atv; rw [if_pos (by omega)]; omega)
    have g1 : B m + 1 + a - 1 < E m := by omega
    have g2 : B m + 1 + a - 1 ≤ E m := by omega
    have g3 : ¬ E m < B m + 1 + a - 1 := by omega
    have g4 : ¬ E m ≤ B m + 1 + a - 1 := by omega
    clear h
    go_enter Tryd.func64, Tryd.ntmps64
    go_wp2_with fail
    refine KD.out.mono ?_
    rintro e w1 ⟨rfl, rfl⟩
    go_wp2_with fail
    refine (K.out _).mono ?_
    rintro e w1 ⟨rfl, b1⟩
    go_wp2_with fail
    go_ret2
    exact ⟨by rw [HV.out]; rfl, b1⟩
  · have HV := Lib.hid (show atv m a = E m by unfold atv; rw [if_pos (by omega)]; omega)
    have g0 : B m + 1 + a - 1 = E m := by omega
    clear h
    go_enter Tryd.func64, Tryd.ntmps64
    go_wp2_with fail
    refine KD.out.mono ?_
    rintro e w1 ⟨rfl, rfl⟩
    go_wp2_with fail
    refine (K.out _).mono ?_
    rintro e w1 ⟨rfl, b1⟩
    go_wp2_with fail
    go_ret2
    exact ⟨by rw [HV.out]; rfl, b1⟩
  · have HV := Lib.hid (show atv m a = E m by unfold atv; rw [if_neg (by omega)])
    have g1 : E m < B m + 1 + a - 1 := by omega
    have g2 : E m ≤ B m + 1 + a - 1 := by omega
    have g3 : ¬ B m + 1 + a - 1 < E m := by omega
    have g4 : ¬ B m + 1 + a - 1 ≤ E m := by omega
    clear h
    go_enter Tryd.func64, Tryd.ntmps64
    go_wp2_with fail
    refine KD.out.mono ?_
    rintro e w1 ⟨rfl, rfl⟩
    go_wp2_with fail
    refine (K.out _).mono ?_
    rintro e w1 ⟨rfl, b1⟩
    go_wp2_with fail
    go_ret2
    exact ⟨by rw [HV.out]; rfl, b1⟩
set_option maxHeartbeats 800000 in
theorem at_no (m a : Int) (w : World) (hw : Tab w) (h : m < 1 ∨ 119988 < m ∨ a < 1 ∨ 31 < a) :
    Calls Tryd.prog 64 #[.int .i64 m, .int .i64 a] w fun e w' => e = .returned (.tuple #[.int .i64 0, .int .i64 2]) ∧ Below w.heap.size w w' := by
  by_cases hm : m < 1 ∨ 119988 < m
  · have KD := Lib.hid (days_out m w hm)
    clear h hm
    go_enter Tryd.func64, Tryd.ntmps64
    go_wp2_with fail
    refine KD.out.mono ?_
    rintro e w1 ⟨rfl, rfl⟩
    go_wp2_with fail
    go_ret2
    exact ⟨rfl, Below.refl _ _⟩
  · have KD := Lib.hid (days_in m w hw (by omega) (by omega))
    have K := Lib.hid (fun u => all2 (decide (1 ≤ a)) (decide (a ≤ 31)) false u (by
      rcases (show a < 1 ∨ 31 < a by omega) with h | h
      · rw [decide_eq_false (by omega)]; rfl
      · rw [decide_eq_false (show ¬ a ≤ 31 by omega)]; simp))
    clear h hm
    go_enter Tryd.func64, Tryd.ntmps64
    go_wp2_with fail
    refine KD.out.mono ?_
    rintro e w1 ⟨rfl, rfl⟩
    go_wp2_with fail
    refine (K.out _).mono ?_
    rintro e w1 ⟨rfl, b1⟩
    go_wp2_with fail
    go_ret2
    exact ⟨rfl, b1⟩
end Go.Proofs.YtjchecjonkmhgaaDoor.An
