/- Package prorate: ProrateDues, ProrateChanges, ProrateMonths. (gen_prlaws.py writes this.) -/
import Derived.Test.YtlmhifdilmnlnaaDoorPrHead
namespace Go.Proofs.YtlmhifdilmnlnaaDoor.Pr
open Go.RowKit Rf
/-- A box of four numbers. -/
structure Ab (g : Nat) (a b c d : Int) (w : World) : Prop where
  c0 : w.cell? ⟨g, 0, none⟩ = some (.int .i64 a)
  c1 : w.cell? ⟨g, 1, none⟩ = some (.int .i64 b)
  c2 : w.cell? ⟨g, 2, none⟩ = some (.int .i64 c)
  c3 : w.cell? ⟨g, 3, none⟩ = some (.int .i64 d)
  lt : g < w.heap.size
theorem Ab.later {g : Nat} {a b c d : Int} {w w' : World} (h : Ab g a b c d w) (hb : Below w.heap.size w w') : Ab g a b c d w' :=
  ⟨by rw [hb.cell (by simpa using h.lt)]; exact h.c0, by rw [hb.cell (by simpa using h.lt)]; exact h.c1, by rw [hb.cell (by simpa using h.lt)]; exact h.c2, by rw [hb.cell (by simpa using h.lt)]; exact h.c3, Nat.lt_of_lt_of_le h.lt hb.size⟩
theorem Ab.box (a b c d : Int) (w : World) : Ab w.heap.size a b c d (w.alloc (.cells #[.int .i64 a, .int .i64 b, .int .i64 c, .int .i64 d] 23)) := by
  constructor <;> simp [go_sem]
theorem Ab.drewN {g : Nat} {a b c d : Int} {w : World} (n : Nat) (h : Ab g a b c d w) : Ab g a b c d (w.drewN n) := ⟨h.c0, h.c1, h.c2, h.c3, h.lt⟩
set_option maxRecDepth 100000 in
set_option maxHeartbeats 1600000 in
theorem dues_c (x0 x1 x2 x3 : Int) (w : World) (hw : Cw.Tab w) :
    Calls Tryd.prog 3 #[.agg #[.int .i64 x0, .int .i64 x1, .int .i64 x2, .int .i64 x3]] w fun e w' => e = .returned (.bool true) ∧ Below w.heap.size w w' := by
  obtain ⟨q, z, k1, k2⟩ := both_due x0 x1 x3
  obtain ⟨p, y, -, -, k3, k4⟩ := both_on x0 x1 x2 x3
  have K1 := Lib.hid k1
  have K2 := Lib.hid k2
  have K3 := Lib.hid k3
  have K4 := Lib.hid k4
  have HT := Lib.hid hw
  clear k1 k2 k3 k4 hw
  have J0 := Lib.hid (Ab.box x0 x1 x2 x3 w)
  have D0 := Lib.hid ((Below.refl _ w).alloc (Nat.le_refl _) (.cells #[.int .i64 x0, .int .i64 x1, .int .i64 x2, .int .i64 x3] 23))
  obtain ⟨a0, a1, a2, a3, alt⟩ := J0.out
  go_enter Tryd.func3, Tryd.ntmps3
  go_wp2_with fail
  refine (K1.out _).mono ?_
  rintro e w1 ⟨rfl, b1⟩
  have J1 := Lib.hid (J0.out.later b1)
  have D1 := Lib.hid (then_below D0.out b1)
  clear a0 a1 a2 a3 alt b1 J0
  obtain ⟨a0, a1, a2, a3, alt⟩ := J1.out
  go_wp2_with fail
  refine (K2.out _).mono ?_
  rintro e w2 ⟨rfl, b2⟩
  have J2 := Lib.hid (J1.out.later b2)
  have D2 := Lib.hid (then_below D1.out b2)
  clear a0 a1 a2 a3 alt b2 J1
  obtain ⟨a0, a1, a2, a3, alt⟩ := J2.out
  go_wp2_with fail
  refine (K3.out _).mono ?_
  rintro e w3 ⟨rfl, b3⟩
  have J3 := Lib.hid (J2.out.later b3)
  have D3 := Lib.hid (then_below D2.out b3)
  clear a0 a1 a2 a3 alt b3 J2
  obtain ⟨a0, a1, a2, a3, alt⟩ := J3.out
  go_wp2_with fail
  refine (K4.out _).mono ?_
  rintro e w4 ⟨rfl, b4⟩
  have J4 := Lib.hid (J3.out.later b4)
  have D4 := Lib.hid (then_below D3.out b4)
  clear a0 a1 a2 a3 alt b4 J3
  obtain ⟨a0, a1, a2, a3, alt⟩ := J4.out
  go_wp2_with fail
  refine (head_c _ (tab_later HT.out D4.out)).mono ?_
  rintro e w5 ⟨rfl, b5⟩
  have D5 := Lib.hid (then_below D4.out b5)
  clear b5
  go_wp2_with fail
  go_ret
  exact ⟨rfl, D5.out⟩
set_option maxRecDepth 100000 in
set_option maxHeartbeats 1600000 in
theorem changes_c (x0 x1 x2 x3 now : Int) (w : World) (hw : Cw.Tab w) :
    Calls Tryd.prog 4 #[.agg #[.int .i64 x0, .int .i64 x1, .int .i64 x2, .int .i64 x3], .int .i64 now] w fun e w' => e = .returned (.bool true) ∧ Below w.heap.size w w' := by
  obtain ⟨p, q, z, k1, k2⟩ := both_change x0 now x1 x3
  have K1 := Lib.hid k1
  have K2 := Lib.hid k2
  have HT := Lib.hid hw
  clear k1 k2 hw
  have J0 := Lib.hid (Ab.box x0 x1 x2 x3 w)
  have D0 := Lib.hid ((Below.refl _ w).alloc (Nat.le_refl _) (.cells #[.int .i64 x0, .int .i64 x1, .int .i64 x2, .int .i64 x3] 23))
  obtain ⟨a0, a1, a2, a3, alt⟩ := J0.out
  go_enter Tryd.func4, Tryd.ntmps4
  go_wp2_with fail
  refine (K1.out _).mono ?_
  rintro e w1 ⟨rfl, b1⟩
  have J1 := Lib.hid (J0.out.later b1)
  have D1 := Lib.hid (then_below D0.out b1)
  clear a0 a1 a2 a3 alt b1 J0
  obtain ⟨a0, a1, a2, a3, alt⟩ := J1.out
  go_wp2_with fail
  refine (K2.out _).mono ?_
  rintro e w2 ⟨rfl, b2⟩
  have J2 := Lib.hid (J1.out.later b2)
  have D2 := Lib.hid (then_below D1.out b2)
  clear a0 a1 a2 a3 alt b2 J1
  obtain ⟨a0, a1, a2, a3, alt⟩ := J2.out
  go_wp2_with fail
  refine (head_c _ (tab_later HT.out D2.out)).mono ?_
  rintro e w3 ⟨rfl, b3⟩
  have D3 := Lib.hid (then_below D2.out b3)
  clear b3
  go_wp2_with fail
  go_ret
  exact ⟨rfl, D3.out⟩
set_option maxRecDepth 100000 in
set_option maxHeartbeats 1600000 in
theorem monthslaw_c (f x : Int) (w : World) (hf : I64 f) (hx : I64 x) (hw : Cw.Tab w) :
    Calls Tryd.prog 5 #[.int .i64 f, .int .i64 x] w fun e w' => e = .returned (.bool true) ∧ Below w.heap.size w w' := by
  have KH := Lib.hid head_c
  have HT := Lib.hid hw
  obtain ⟨f1, f2⟩ := hf
  obtain ⟨x1, x2⟩ := hx
  clear hw
  rcases (show f < 1 ∨ (1 ≤ f ∧ 3652060 < x) ∨ (1 ≤ f ∧ x ≤ 3652060 ∧ x - f < -9223372036854775808) ∨ (1 ≤ f ∧ x ≤ 3652060 ∧ 4000 < x - f) ∨ (1 ≤ f ∧ x ≤ 3652060 ∧ -9223372036854775808 ≤ x - f ∧ x ≤ f) ∨ (1 ≤ f ∧ x ≤ 3652060 ∧ f < x ∧ x - f ≤ 4000) by omega) with h1 | ⟨h1, h2⟩ | ⟨h1, h2, h3⟩ | ⟨h1, h2, h3⟩ | ⟨h1, h2, h3, h4⟩ | ⟨h1, h2, h3, h4⟩
  · have hd : decide (1 ≤ f) = false := decide_eq_false (by omega)
    have K1 := Lib.hid (fun w => months_no f x w (by omega))
    have K2 := Lib.hid (fun w => rmonths_no f x w (by omega))
    clear h1
    go_enter Tryd.func5, Tryd.ntmps5
    go_wp2_with fail
    refine (K1.out _).mono ?_
    rintro e w1 ⟨rfl, b1⟩
    go_wp2_with fail
    refine (K2.out _).mono ?_
    rintro e w' ⟨rfl, rfl⟩
    go_wp2_with fail
    refine (same_nil _).mono ?_
    rintro e w2 ⟨rfl, b2⟩
    have B2 := Lib.hid (then_below b1 b2)
    clear b1 b2
    go_wp2_with fail
    refine (KH.out _ (tab_later HT.out B2.out)).mono ?_
    rintro e w3 ⟨rfl, b3⟩
    have B3 := Lib.hid (then_below B2.out b3)
    clear b3
    go_wp2_with fail
    go_ret
    exact ⟨rfl, B3.out⟩
  · have hd : decide (x ≤ 3652060) = false := decide_eq_false (by omega)
    have K1 := Lib.hid (fun w => months_no f x w (by omega))
    have K2 := Lib.hid (fun w => rmonths_no f x w (by omega))
    clear h2
    go_enter Tryd.func5, Tryd.ntmps5
    go_wp2_with fail
    refine (K1.out _).mono ?_
    rintro e w1 ⟨rfl, b1⟩
    go_wp2_with fail
    refine (K2.out _).mono ?_
    rintro e w' ⟨rfl, rfl⟩
    go_wp2_with fail
    refine (same_nil _).mono ?_
    rintro e w2 ⟨rfl, b2⟩
    have B2 := Lib.hid (then_below b1 b2)
    clear b1 b2
    go_wp2_with fail
    refine (KH.out _ (tab_later HT.out B2.out)).mono ?_
    rintro e w3 ⟨rfl, b3⟩
    have B3 := Lib.hid (then_below B2.out b3)
    clear b3
    go_wp2_with fail
    go_ret
    exact ⟨rfl, B3.out⟩
  · have hwr : IntKind.i64.wrap (x - f) = x - f + 18446744073709551616 := by rw [IntKind.wrap_i64]; omega
    by_cases h4 : 4000 < x - f + 18446744073709551616
    · have hgt : decide (4000 < x - f + 18446744073709551616) = true := decide_eq_true h4
      clear h3 h4
      go_enter Tryd.func5, Tryd.ntmps5
      go_wp2_with fail
      refine (KH.out _ HT.out).mono ?_
      rintro e w1 ⟨rfl, b1⟩
      go_wp2_with fail
      go_ret
      exact ⟨rfl, b1⟩
    · have hgt : decide (4000 < x - f + 18446744073709551616) = false := decide_eq_false h4
      have K1 := Lib.hid (fun w => months_no f x w (by omega))
      have K2 := Lib.hid (fun w => rmonths_no f x w (by omega))
      clear h3 h4
      go_enter Tryd.func5, Tryd.ntmps5
      go_wp2_with fail
      refine (K1.out _).mono ?_
      rintro e w1 ⟨rfl, b1⟩
      go_wp2_with fail
      refine (K2.out _).mono ?_
      rintro e w' ⟨rfl, rfl⟩
      go_wp2_with fail
      refine (same_nil _).mono ?_
      rintro e w2 ⟨rfl, b2⟩
      have B2 := Lib.hid (then_below b1 b2)
      clear b1 b2
      go_wp2_with fail
      refine (KH.out _ (tab_later HT.out B2.out)).mono ?_
      rintro e w3 ⟨rfl, b3⟩
      have B3 := Lib.hid (then_below B2.out b3)
      clear b3
      go_wp2_with fail
      go_ret
      exact ⟨rfl, B3.out⟩
  · have hgt : decide (4000 < x - f) = true := decide_eq_true (by omega)
    go_enter Tryd.func5, Tryd.ntmps5
    go_wp2_with fail
    refine (KH.out _ HT.out).mono ?_
    rintro e w1 ⟨rfl, b1⟩
    go_wp2_with fail
    go_ret
    exact ⟨rfl, b1⟩
  · have hgt : decide (4000 < x - f) = false := decide_eq_false (by omega)
    have K1 := Lib.hid (fun w => months_no f x w (by omega))
    have K2 := Lib.hid (fun w => rmonths_no f x w (by omega))
    go_enter Tryd.func5, Tryd.ntmps5
    go_wp2_with fail
    refine (K1.out _).mono ?_
    rintro e w1 ⟨rfl, b1⟩
    go_wp2_with fail
    refine (K2.out _).mono ?_
    rintro e w' ⟨rfl, rfl⟩
    go_wp2_with fail
    refine (same_nil _).mono ?_
    rintro e w2 ⟨rfl, b2⟩
    have B2 := Lib.hid (then_below b1 b2)
    clear b1 b2
    go_wp2_with fail
    refine (KH.out _ (tab_later HT.out B2.out)).mono ?_
    rintro e w3 ⟨rfl, b3⟩
    have B3 := Lib.hid (then_below B2.out b3)
    clear b3
    go_wp2_with fail
    go_ret
    exact ⟨rfl, B3.out⟩
  · have hgt : decide (4000 < x - f) = false := decide_eq_false (by omega)
    obtain ⟨k, hin⟩ := In.ex f h1 (by omega)
    obtain ⟨n, hn⟩ : ∃ n : Nat, x - f ≤ n := ⟨(x - f).toNat, by omega⟩
    obtain ⟨L, hL⟩ : ∃ L, tm n k f x = L := ⟨_, rfl⟩
    have hlen := tm_len n k f x hin h3 h2 hn
    rw [hL] at hlen
    have K1 := Lib.hid (fun w hw => months_ok k f x w hw hin h3 h2 n hn L hL)
    have K2 := Lib.hid (fun w => rmonths_ok k f x w hin h3 h2 n hn L hL)
    have K3 := Lib.hid (fun ga ca gb cb w ha hb => same_c ga ca gb cb L w ha hb (by omega))
    have hl2 : L.length ≤ 4000 := by omega
    clear hin hL hlen hn
    go_enter Tryd.func5, Tryd.ntmps5
    go_wp2_with fail
    refine (K1.out _ HT.out).mono ?_
    rintro e w1 ⟨g, cap, rfl, hown, b1⟩
    have S1 := Lib.hid (own_sh hown)
    have B1 := Lib.hid b1
    clear hown b1
    go_wp2_with fail
    refine (K2.out _).mono ?_
    rintro e w2 ⟨g2, cap2, rfl, hown, b2⟩
    have S2 := Lib.hid (own_sh hown)
    have S1b := Lib.hid (S1.out.later b2)
    have B2 := Lib.hid (then_below B1.out b2)
    clear hown b2
    go_wp2_with fail
    refine (K3.out _ _ _ _ _ S1b.out S2.out).mono ?_
    rintro e w3 ⟨rfl, b3⟩
    have B3 := Lib.hid (then_below B2.out b3)
    clear b3
    go_wp2_with fail
    refine (KH.out _ (tab_later HT.out B3.out)).mono ?_
    rintro e w4 ⟨rfl, b4⟩
    have B4 := Lib.hid (then_below B3.out b4)
    clear b4
    go_wp2_with fail
    go_ret
    exact ⟨rfl, B4.out⟩
end Go.Proofs.YtlmhifdilmnlnaaDoor.Pr
