/- Package invoices: InvoicesOlder, where Ages tells an error. (gen_inolder.py writes this.) -/
import Derived.Test.YtaidijbjpogpeaaDoorInOlder0
namespace Go.Proofs.YtaidijbjpogpeaaDoor.Inv
open Go.RowKit Cm
set_option maxRecDepth 100000 in
set_option maxHeartbeats 6400000 in
theorem older_err (a : Option Addr) (cap : Nat) (L : List Iv) (d1 d2 p q : Int) (w : World) (hL : Ivs w a L) (hl : L.length ≤ 100) (ht : Tab w)
    (hd : (d1 < d2 ∧ p = d1 ∧ q = d2) ∨ (d2 < d1 ∧ p = d2 ∧ q = d1) ∨ (d1 = d2 ∧ p = d1 ∧ q = d1))
    (s0 s1 s2 s3 s4 t0 t1 t2 t3 t4 z y : Int) (hs : AgesOf L p [s0, s1, s2, s3, s4] z) (hy : AgesOf L q [t0, t1, t2, t3, t4] y)
    (ka : ∀ w, Ivs w a L → Tab w → Calls Tryd.prog 22 #[.slice a L.length cap, .int .i64 p] w fun e w' => e = .returned (.tuple #[(.agg #[.int .i64 s0, .int .i64 s1, .int .i64 s2, .int .i64 s3, .int .i64 s4]), .int .i64 z]) ∧ Below w.heap.size w w')
    (kb : ∀ w, Ivs w a L → Tab w → Calls Tryd.prog 22 #[.slice a L.length cap, .int .i64 q] w fun e w' => e = .returned (.tuple #[(.agg #[.int .i64 t0, .int .i64 t1, .int .i64 t2, .int .i64 t3, .int .i64 t4]), .int .i64 y]) ∧ Below w.heap.size w w') (hzy : ¬ (z = 0 ∧ y = 0)) :
    Calls Tryd.prog 6 #[.slice a L.length cap, .int .i64 d1, .int .i64 d2] w fun e w' => e = .returned (.bool true) ∧ Below w.heap.size w w' := by
  have KH := Lib.hid head_c
  have HT := Lib.hid ht
  have HL := Lib.hid hL
  have K1 := Lib.hid ka
  have K2 := Lib.hid kb
  have hle : ¬ (100 : Int) < (L.length : Int) := by omega
  have hq := eql5
  by_cases hz : z = 0
  · have hyz : ¬ y = 0 := fun h => hzy ⟨hz, h⟩
    have e := hy.no hyz
    simp only [List.cons.injEq, and_true] at e
    obtain ⟨rfl, rfl, rfl, rfl, rfl⟩ := e
    subst hz
    have hb1 : (y != 0) = true := by simpa using hyz
    have hb2 : (y == 0) = false := by simpa using hyz
    clear hs hy hzy hL ht ka kb
    rcases hd with ⟨hd, rfl, rfl⟩ | ⟨hd, rfl, rfl⟩ | ⟨rfl, rfl, rfl⟩
    all_goals
      try (have hd1 := Int.le_of_lt hd; have hd2 := Int.not_lt.2 hd1; have hd3 := Int.not_le.2 hd)
      go_enter Tryd.func6, Tryd.ntmps6
      go_wp2_with fail
      refine (K1.out _ HL.out HT.out).mono ?_
      rintro e w1 ⟨rfl, b1⟩
      have D1 := Lib.hid (below_alloc b1 (.cells #[.int .i64 s0, .int .i64 s1, .int .i64 s2, .int .i64 s3, .int .i64 s4] 48))
      have X1 := Lib.hid (row_new w1 (vals [s0, s1, s2, s3, s4]) 48)
      clear b1
      go_wp2_with fail
      refine (K2.out _ (HL.out.later D1.out) (HT.out.later D1.out)).mono ?_
      rintro e w2 ⟨rfl, b2⟩
      have D2 := Lib.hid (below_alloc (then_below D1.out b2) (.cells #[.int .i64 0, .int .i64 0, .int .i64 0, .int .i64 0, .int .i64 0] 48))
      have X2 := Lib.hid ((X1.out.later b2).alloc (.cells #[.int .i64 0, .int .i64 0, .int .i64 0, .int .i64 0, .int .i64 0] 48))
      have Y2 := Lib.hid (show RowAt (w2.alloc (.cells #[.int .i64 0, .int .i64 0, .int .i64 0, .int .i64 0, .int .i64 0] 48)) w2.heap.size (vals [0, 0, 0, 0, 0]) from row_new w2 (vals [0, 0, 0, 0, 0]) 48)
      have hlt := (X1.out.later b2).lt
      clear b2 X1 D1
      have g0 := Y2.out.cell 0 (by simp [vals])
      have g1 := Y2.out.cell 1 (by simp [vals])
      have g2 := Y2.out.cell 2 (by simp [vals])
      have g3 := Y2.out.cell 3 (by simp [vals])
      have g4 := Y2.out.cell 4 (by simp [vals])
      simp only [vals, List.map_cons, List.map_nil, List.getElem_cons_zero, List.getElem_cons_succ] at g0 g1 g2 g3 g4
      go_wp2_with fail
      refine (KH.out _ (HT.out.later D2.out)).mono ?_
      rintro e w3 ⟨rfl, b3⟩
      have D3 := Lib.hid (then_below D2.out b3)
      clear b3
      go_wp2_with fail
      go_ret
      exact ⟨rfl, D3.out⟩
  · have e := hs.no hz
    simp only [List.cons.injEq, and_true] at e
    obtain ⟨rfl, rfl, rfl, rfl, rfl⟩ := e
    have hb1 : (z != 0) = true := by simpa using hz
    have hb2 : (z == 0) = false := by simpa using hz
    by_cases hyz : y = 0
    · subst hyz
      clear hs hy hzy hL ht ka kb
      rcases hd with ⟨hd, rfl, rfl⟩ | ⟨hd, rfl, rfl⟩ | ⟨rfl, rfl, rfl⟩
      all_goals
        try (have hd1 := Int.le_of_lt hd; have hd2 := Int.not_lt.2 hd1; have hd3 := Int.not_le.2 hd)
        go_enter Tryd.func6, Tryd.ntmps6
        go_wp2_with fail
        refine (K1.out _ HL.out HT.out).mono ?_
        rintro e w1 ⟨rfl, b1⟩
        have D1 := Lib.hid (below_alloc b1 (.cells #[.int .i64 0, .int .i64 0, .int .i64 0, .int .i64 0, .int .i64 0] 48))
        have X1 := Lib.hid (row_new w1 (vals [0, 0, 0, 0, 0]) 48)
        clear b1
        go_wp2_with fail
        refine (K2.out _ (HL.out.later D1.out) (HT.out.later D1.out)).mono ?_
        rintro e w2 ⟨rfl, b2⟩
        have D2 := Lib.hid (below_alloc (then_below D1.out b2) (.cells #[.int .i64 t0, .int .i64 t1, .int .i64 t2, .int .i64 t3, .int .i64 t4] 48))
        have X2 := Lib.hid ((X1.out.later b2).alloc (.cells #[.int .i64 t0, .int .i64 t1, .int .i64 t2, .int .i64 t3, .int .i64 t4] 48))
        have Y2 := Lib.hid (show RowAt (w2.alloc (.cells #[.int .i64 t0, .int .i64 t1, .int .i64 t2, .int .i64 t3, .int .i64 t4] 48)) w2.heap.size (vals [t0, t1, t2, t3, t4]) from row_new w2 (vals [t0, t1, t2, t3, t4]) 48)
        have hlt := (X1.out.later b2).lt
        clear b2 X1 D1
        have g0 := X2.out.cell 0 (by simp [vals])
        have g1 := X2.out.cell 1 (by simp [vals])
        have g2 := X2.out.cell 2 (by simp [vals])
        have g3 := X2.out.cell 3 (by simp [vals])
        have g4 := X2.out.cell 4 (by simp [vals])
        simp only [vals, List.map_cons, List.map_nil, List.getElem_cons_zero, List.getElem_cons_succ] at g0 g1 g2 g3 g4
        go_wp2_with fail
        refine (KH.out _ (HT.out.later D2.out)).mono ?_
        rintro e w3 ⟨rfl, b3⟩
        have D3 := Lib.hid (then_below D2.out b3)
        clear b3
        go_wp2_with fail
        go_ret
        exact ⟨rfl, D3.out⟩
    · have e := hy.no hyz
      simp only [List.cons.injEq, and_true] at e
      obtain ⟨rfl, rfl, rfl, rfl, rfl⟩ := e
      have hb3 : (y != 0) = true := by simpa using hyz
      have hb4 : (y == 0) = false := by simpa using hyz
      clear hs hy hzy hL ht ka kb
      rcases hd with ⟨hd, rfl, rfl⟩ | ⟨hd, rfl, rfl⟩ | ⟨rfl, rfl, rfl⟩
      all_goals
        try (have hd1 := Int.le_of_lt hd; have hd2 := Int.not_lt.2 hd1; have hd3 := Int.not_le.2 hd)
        go_enter Tryd.func6, Tryd.ntmps6
        go_wp2_with fail
        refine (K1.out _ HL.out HT.out).mono ?_
        rintro e w1 ⟨rfl, b1⟩
        have D1 := Lib.hid (below_alloc b1 (.cells #[.int .i64 0, .int .i64 0, .int .i64 0, .int .i64 0, .int .i64 0] 48))
        have X1 := Lib.hid (row_new w1 (vals [0, 0, 0, 0, 0]) 48)
        clear b1
        go_wp2_with fail
        refine (K2.out _ (HL.out.later D1.out) (HT.out.later D1.out)).mono ?_
        rintro e w2 ⟨rfl, b2⟩
        have D2 := Lib.hid (below_alloc (then_below D1.out b2) (.cells #[.int .i64 0, .int .i64 0, .int .i64 0, .int .i64 0, .int .i64 0] 48))
        have X2 := Lib.hid ((X1.out.later b2).alloc (.cells #[.int .i64 0, .int .i64 0, .int .i64 0, .int .i64 0, .int .i64 0] 48))
        have Y2 := Lib.hid (show RowAt (w2.alloc (.cells #[.int .i64 0, .int .i64 0, .int .i64 0, .int .i64 0, .int .i64 0] 48)) w2.heap.size (vals [0, 0, 0, 0, 0]) from row_new w2 (vals [0, 0, 0, 0, 0]) 48)
        have hlt := (X1.out.later b2).lt
        clear b2 X1 D1
        have g0 := X2.out.cell 0 (by simp [vals])
        have g1 := X2.out.cell 1 (by simp [vals])
        have g2 := X2.out.cell 2 (by simp [vals])
        have g3 := X2.out.cell 3 (by simp [vals])
        have g4 := X2.out.cell 4 (by simp [vals])
        simp only [vals, List.map_cons, List.map_nil, List.getElem_cons_zero, List.getElem_cons_succ] at g0 g1 g2 g3 g4
        have h0 := Y2.out.cell 0 (by simp [vals])
        have h1 := Y2.out.cell 1 (by simp [vals])
        have h2 := Y2.out.cell 2 (by simp [vals])
        have h3 := Y2.out.cell 3 (by simp [vals])
        have h4 := Y2.out.cell 4 (by simp [vals])
        simp only [vals, List.map_cons, List.map_nil, List.getElem_cons_zero, List.getElem_cons_succ] at h0 h1 h2 h3 h4
        go_wp2_with fail
        refine (KH.out _ (HT.out.later D2.out)).mono ?_
        rintro e w3 ⟨rfl, b3⟩
        have D3 := Lib.hid (then_below D2.out b3)
        clear b3
        go_wp2_with fail
        go_ret
        exact ⟨rfl, D3.out⟩
end Go.Proofs.YtaidijbjpogpeaaDoor.Inv
