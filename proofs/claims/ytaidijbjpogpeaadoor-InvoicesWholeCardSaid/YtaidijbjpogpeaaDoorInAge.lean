/- Package invoices: InvoicesAge. (gen_inage.py writes this.) -/
import Derived.Test.YtaidijbjpogpeaaDoorInHd
namespace Go.Proofs.YtaidijbjpogpeaaDoor.Inv
open Go.RowKit Cm
/-- Ages, and the document's: the same five numbers, and the same error. -/
theorem ages_both (a : Option Addr) (cap : Nat) (L : List Iv) (day : Int) (hl : L.length ≤ 100000) (hf : ∀ x ∈ L, x.Fits) :
    ∃ s0 s1 s2 s3 s4 z : Int, (∀ w, Ivs w a L → Tab w → Calls Tryd.prog 22 #[.slice a L.length cap, .int .i64 day] w fun e w' => e = .returned (.tuple #[(.agg #[.int .i64 s0, .int .i64 s1, .int .i64 s2, .int .i64 s3, .int .i64 s4]), .int .i64 z]) ∧ Below w.heap.size w w') ∧
      (∀ w, Ivs w a L → Calls Tryd.prog 23 #[.slice a L.length cap, .int .i64 day] w fun e w' => e = .returned (.tuple #[(.agg #[.int .i64 s0, .int .i64 s1, .int .i64 s2, .int .i64 s3, .int .i64 s4]), .int .i64 z]) ∧ Below w.heap.size w w') := by
  cases hd : decide (1 ≤ day ∧ day ≤ 3652059) with
  | false => exact ⟨0, 0, 0, 0, 0, 2, fun w _ _ => ages_day a _ cap day w hd, fun w _ => rages_day a _ cap day w hd⟩
  | true =>
    have hd := of_decide_eq_true hd
    obtain ⟨m, h1, h2, h3⟩ := first_bad L
    have hlen : (agesM L day m).1.length = 5 := by
      unfold agesM agesT
      split <;> (try split) <;> rfl
    obtain ⟨⟨s, z⟩, hs⟩ : ∃ r, agesM L day m = r := ⟨_, rfl⟩
    rw [hs] at hlen
    match s, hlen with
    | [s0, s1, s2, s3, s4], _ =>
      exact ⟨s0, s1, s2, s3, s4, z, fun w hL ht => by have h := ages_m a cap m L day w hL (by omega) hf h1 h2 h3 hd.1 hd.2 ht; rw [hs] at h; exact h,
        fun w hL => by have h := rages_m a cap m L day w hL hl hf h1 h2 h3 hd.1 hd.2; rw [hs] at h; exact h⟩
set_option maxRecDepth 100000 in
set_option maxHeartbeats 3200000 in
theorem age_c (x : Iv) (a : Option Addr) (cap : Nat) (L : List Iv) (day : Int) (w : World) (hx : x.Fits) (hL : Ivs w a L) (hm : L.length ≤ maxLen) (hf : ∀ x ∈ L, x.Fits) (ht : Tab w) :
    Calls Tryd.prog 4 #[x.val, .slice a L.length cap, .int .i64 day] w fun e w' => e = .returned (.bool true) ∧ Below w.heap.size w w' := by
  unfold maxLen at hm
  have KH := Lib.hid head_c
  have HT := Lib.hid ht
  have HB := Lib.hid (IvAt.box x w)
  have B0 := Lib.hid ((Below.refl _ w).alloc (Nat.le_refl _) (.cells x.cells 24))
  by_cases hl : L.length ≤ 100
  · obtain ⟨⟨u1, u2, u3⟩, hu⟩ : ∃ r, x.lateR day = r := ⟨_, rfl⟩
    have K1 := Lib.hid (fun w (ht : Tab w) => (show Calls Tryd.prog 20 #[(.agg #[.int .u64 x.id, .int .u64 x.cust, .int .u64 x.con, .int .i64 x.day, .int .i64 x.due, .int .i64 x.frm, .int .i64 x.next, .int .i64 x.amt, .int .i64 x.cred, .int .i64 x.paid, .int .i64 x.lost]), .int .i64 day] w fun e w' => e = .returned (.tuple #[.int .i64 u1, .int .i64 u2, .int .i64 u3]) ∧ Below w.heap.size w w' from by have h := late_c x day w hx ht; rw [hu] at h; exact h))
    have K2 := Lib.hid (fun w => (show Calls Tryd.prog 21 #[(.agg #[.int .u64 x.id, .int .u64 x.cust, .int .u64 x.con, .int .i64 x.day, .int .i64 x.due, .int .i64 x.frm, .int .i64 x.next, .int .i64 x.amt, .int .i64 x.cred, .int .i64 x.paid, .int .i64 x.lost]), .int .i64 day] w fun e w' => e = .returned (.tuple #[.int .i64 u1, .int .i64 u2, .int .i64 u3]) ∧ Below w.heap.size w w' from by have h := rlate_c x day w hx; rw [hu] at h; exact h))
    obtain ⟨s0, s1, s2, s3, s4, z, ka, kb⟩ := ages_both a cap L day (by omega) hf
    have K3 := Lib.hid ka
    have K4 := Lib.hid kb
    have HL := Lib.hid hL
    have hle : ¬ (100 : Int) < (L.length : Int) := by omega
    clear hx hL hf ht hu ka kb hl
    obtain ⟨a0, a1, a2, a3, a4, a5, a6, a7, a8, a9, a10, alt⟩ := HB.out
    go_enter Tryd.func4, Tryd.ntmps4
    unfold Iv.val
    go_wp2_with fail
    refine (K1.out _ (HT.out.later B0.out)).mono ?_
    rintro e w1 ⟨rfl, b1⟩
    have X1 := Lib.hid (HB.out.later b1)
    have D1 := Lib.hid (then_below B0.out b1)
    clear a0 a1 a2 a3 a4 a5 a6 a7 a8 a9 a10 alt
    clear b1
    obtain ⟨a0, a1, a2, a3, a4, a5, a6, a7, a8, a9, a10, alt⟩ := X1.out
    go_wp2_with fail
    refine (K2.out _).mono ?_
    rintro e w2 ⟨rfl, b2⟩
    have D2 := Lib.hid (then_below D1.out b2)
    clear a0 a1 a2 a3 a4 a5 a6 a7 a8 a9 a10 alt
    clear b2
    go_wp2_with fail
    refine (K3.out _ (HL.out.later D2.out) (HT.out.later D2.out)).mono ?_
    rintro e w3 ⟨rfl, b3⟩
    have D3 := Lib.hid (below_alloc (then_below D2.out b3) (.cells #[.int .i64 s0, .int .i64 s1, .int .i64 s2, .int .i64 s3, .int .i64 s4] 48))
    have G3 := Lib.hid (row_new w3 (vals [s0, s1, s2, s3, s4]) 48)
    clear b3
    go_wp2_with fail
    refine (K4.out _ (HL.out.later D3.out)).mono ?_
    rintro e w4 ⟨rfl, b4⟩
    have D4 := Lib.hid (below_alloc (then_below D3.out b4) (.cells #[.int .i64 s0, .int .i64 s1, .int .i64 s2, .int .i64 s3, .int .i64 s4] 48))
    have G4 := Lib.hid (G3.out.later b4)
    clear b4
    have g0 := G4.out.cell 0 (by simp [vals])
    have g1 := G4.out.cell 1 (by simp [vals])
    have g2 := G4.out.cell 2 (by simp [vals])
    have g3 := G4.out.cell 3 (by simp [vals])
    have g4 := G4.out.cell 4 (by simp [vals])
    simp only [vals, List.map_cons, List.map_nil, List.getElem_cons_zero, List.getElem_cons_succ] at g0 g1 g2 g3 g4
    have hq := eql5
    have glt := G4.out.lt
    go_wp2_with fail
    refine (KH.out _ (HT.out.later D4.out)).mono ?_
    rintro e w5 ⟨rfl, b5⟩
    have D5 := Lib.hid (then_below D4.out b5)
    clear b5
    go_wp2_with fail
    go_ret
    exact ⟨rfl, D5.out⟩
  · have hle : (100 : Int) < (L.length : Int) := by omega
    clear hx hL hf ht hl
    go_enter Tryd.func4, Tryd.ntmps4
    unfold Iv.val
    go_wp2_with fail
    refine (KH.out _ (HT.out.later B0.out)).mono ?_
    rintro e w1 ⟨rfl, b1⟩
    have D1 := Lib.hid (then_below B0.out b1)
    clear b1
    go_wp2_with fail
    go_ret
    exact ⟨rfl, D1.out⟩
end Go.Proofs.YtaidijbjpogpeaaDoor.Inv
