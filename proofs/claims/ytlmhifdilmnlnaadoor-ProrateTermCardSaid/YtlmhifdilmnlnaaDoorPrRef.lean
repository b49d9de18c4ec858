/- The document's parts of amounts by days; and both. -/
import Derived.Test.YtlmhifdilmnlnaaDoorPrDue
namespace Go.Proofs.YtlmhifdilmnlnaaDoor.Pr
open Go.RowKit Bw
def mayB (amt : Int) : Bool := decide (0 ≤ amt ∧ amt < 4611686018427387904)
def daysB (d m : Int) : Bool := decide (1 ≤ m ∧ m ≤ 3652059 ∧ 0 ≤ d ∧ d ≤ m)
theorem may_c (amt : Int) (w : World) : Calls Tryd.prog 39 #[.int .i64 amt] w fun e w' => e = .returned (.bool (mayB amt)) ∧ w = w' := by
  rcases (show (0 ≤ amt ∧ amt < 4611686018427387904) ∨ (0 ≤ amt ∧ ¬ amt < 4611686018427387904) ∨ amt < 0 by omega) with ⟨h1, h2⟩ | ⟨h1, h2⟩ | h1
  · have HE := Lib.hid (show mayB amt = true from decide_eq_true (by omega))
    go_enter Tryd.func39, Tryd.ntmps39
    go_wp2_with fail
    go_ret
    exact ⟨HE.out ▸ rfl, rfl⟩
  · have HE := Lib.hid (show mayB amt = false from decide_eq_false (by omega))
    go_enter Tryd.func39, Tryd.ntmps39
    go_wp2_with fail
    go_ret
    exact ⟨HE.out ▸ rfl, rfl⟩
  · have HE := Lib.hid (show mayB amt = false from decide_eq_false (by omega))
    have hd : decide (0 ≤ amt) = false := decide_eq_false (by omega)
    clear h1
    go_enter Tryd.func39, Tryd.ntmps39
    go_wp2_with fail
    go_ret
    exact ⟨HE.out ▸ rfl, rfl⟩
theorem days_yes (d m : Int) (w : World) (m0 : 1 ≤ m) (m1 : m ≤ 3652059) (d0 : 0 ≤ d) (d1 : d ≤ m) : Calls Tryd.prog 40 #[.int .i64 d, .int .i64 m] w fun e w' => e = .returned (.bool true) ∧ w = w' := by
  go_enter Tryd.func40, Tryd.ntmps40
  go_wp2_with fail
  go_ret
  exact ⟨rfl, rfl⟩
theorem days_no (d m : Int) (w : World) (h : m < 1 ∨ 3652059 < m ∨ d < 0 ∨ m < d) : Calls Tryd.prog 40 #[.int .i64 d, .int .i64 m] w fun e w' => e = .returned (.bool false) ∧ w = w' := by
  rcases (show m < 1 ∨ (1 ≤ m ∧ 3652059 < m) ∨ (1 ≤ m ∧ m ≤ 3652059 ∧ d < 0) ∨ (1 ≤ m ∧ m ≤ 3652059 ∧ 0 ≤ d ∧ m < d) by omega) with h1 | ⟨h1, h2⟩ | ⟨h1, h2, h3⟩ | ⟨h1, h2, h3, h4⟩ <;> clear h
  · have hd : decide (1 ≤ m) = false := decide_eq_false (by omega)
    clear h1
    go_enter Tryd.func40, Tryd.ntmps40
    go_wp2_with fail
    go_ret
    exact ⟨rfl, rfl⟩
  · have hd : decide (m ≤ 3652059) = false := decide_eq_false (by omega)
    clear h2
    go_enter Tryd.func40, Tryd.ntmps40
    go_wp2_with fail
    go_ret
    exact ⟨rfl, rfl⟩
  · have hd : decide (0 ≤ d) = false := decide_eq_false (by omega)
    clear h3
    go_enter Tryd.func40, Tryd.ntmps40
    go_wp2_with fail
    go_ret
    exact ⟨rfl, rfl⟩
  · have hd : decide (d ≤ m) = false := decide_eq_false (by omega)
    clear h4
    go_enter Tryd.func40, Tryd.ntmps40
    go_wp2_with fail
    go_ret
    exact ⟨rfl, rfl⟩
theorem rmuldiv_in (a b c q : Int) (w : World) (ha : I64 a) (hb : I64 b) (c1 : 1 ≤ c) (c2 : c ≤ 9223372036854775807) (hq : a * b / c = q) (q1 : -9223372036854775808 ≤ q) (q2 : q ≤ 9223372036854775807) :
    Calls Tryd.prog 24 #[.int .i64 a, .int .i64 b, .int .i64 c] w fun e w' => e = .returned (.tuple #[.int .i64 q, .int .i64 (a * b % c), .bool true]) ∧ Below w.heap.size w w' := by
  subst hq
  have h := rmuldiv_c a b c w ha hb c1 c2
  rw [(ok_in q1 q2).2, (ok_in q1 q2).1, mdr, (ok_in q1 q2).1, if_pos rfl] at h
  exact h
set_option maxHeartbeats 800000 in
theorem rdue_ok (amt d m : Int) (w : World) (h : Dv amt d m) :
    Calls Tryd.prog 15 #[.int .i64 amt, .int .i64 d, .int .i64 m] w fun e w' => e = .returned (.tuple #[.int .i64 (du amt d m), .int .i64 0]) ∧ Below w.heap.size w w' := by
  obtain ⟨a0, a1, m0, m1, d0, d1⟩ := id h
  have K1 := Lib.hid (fun w => (show mayB amt = true from decide_eq_true ⟨a0, a1⟩) ▸ may_c amt w)
  have K2 := Lib.hid (fun w => days_yes d m w m0 m1 d0 d1)
  have l := du_lo h
  have u := du_hi h
  have KM := Lib.hid (fun w => rmuldiv_in amt d m (du amt d m) w ⟨by omega, by omega⟩ ⟨by omega, by omega⟩ m0 (by omega) rfl (by omega) (by omega))
  clear h l u
  generalize du amt d m = q at *
  go_enter Tryd.func15, Tryd.ntmps15
  go_wp2_with fail
  refine (K1.out _).mono ?_
  rintro e w1 ⟨rfl, rfl⟩
  go_wp2_with fail
  refine (K2.out _).mono ?_
  rintro e w2 ⟨rfl, rfl⟩
  go_wp2_with fail
  refine (KM.out _).mono ?_
  rintro e w3 ⟨rfl, b3⟩
  go_wp2_with fail
  go_ret2
  exact ⟨rfl, b3⟩
set_option maxHeartbeats 800000 in
theorem rdue_no (amt d m : Int) (w : World) (h : ¬ Dv amt d m) :
    Calls Tryd.prog 15 #[.int .i64 amt, .int .i64 d, .int .i64 m] w fun e w' => e = .returned (.tuple #[.int .i64 0, .int .i64 2]) ∧ Below w.heap.size w w' := by
  have hn := Dv.not h
  clear h
  by_cases ha : 0 ≤ amt ∧ amt < 4611686018427387904
  · have K1 := Lib.hid (fun w => (show mayB amt = true from decide_eq_true ha) ▸ may_c amt w)
    have K2 := Lib.hid (fun w => days_no d m w (by omega))
    clear hn ha
    go_enter Tryd.func15, Tryd.ntmps15
    go_wp2_with fail
    refine (K1.out _).mono ?_
    rintro e w1 ⟨rfl, rfl⟩
    go_wp2_with fail
    refine (K2.out _).mono ?_
    rintro e w2 ⟨rfl, rfl⟩
    go_wp2_with fail
    go_ret2
    exact ⟨rfl, Below.refl _ _⟩
  · have K1 := Lib.hid (fun w => (show mayB amt = false from decide_eq_false ha) ▸ may_c amt w)
    clear hn ha
    go_enter Tryd.func15, Tryd.ntmps15
    go_wp2_with fail
    refine (K1.out _).mono ?_
    rintro e w1 ⟨rfl, rfl⟩
    go_wp2_with fail
    go_ret2
    exact ⟨rfl, Below.refl _ _⟩
set_option maxHeartbeats 800000 in
theorem ron_ok (amt a b m : Int) (w : World) (h : Ov amt a b m) :
    Calls Tryd.prog 17 #[.int .i64 amt, .int .i64 a, .int .i64 b, .int .i64 m] w fun e w' => e = .returned (.tuple #[.int .i64 (du amt b m - du amt a m), .int .i64 0]) ∧ Below w.heap.size w w' := by
  obtain ⟨h1, h2, h3⟩ := h
  have K1 := Lib.hid (fun w => rdue_ok amt b m w h2)
  have K2 := Lib.hid (fun w => rdue_ok amt a m w h3)
  have l1 := du_lo h2
  have l2 := du_lo h3
  have l3 := du_hi h2
  have l4 := du_hi h3
  have l5 := h2.a1
  clear h2 h3
  generalize du amt b m = p at *
  generalize du amt a m = q at *
  go_enter Tryd.func17, Tryd.ntmps17
  go_wp2_with fail
  refine (K2.out _).mono ?_
  rintro e w1 ⟨rfl, b1⟩
  go_wp2_with fail
  refine (K1.out _).mono ?_
  rintro e w2 ⟨rfl, b2⟩
  have B2 := Lib.hid (then_below b1 b2)
  clear b1 b2
  go_wp2_with fail
  go_ret2
  exact ⟨rfl, B2.out⟩
theorem due_some (amt d m : Int) : ∃ q z : Int, (Dv amt d m → z = 0) ∧ (¬ Dv amt d m → q = 0 ∧ z = 2) ∧ (∀ w, Calls Tryd.prog 14 #[.int .i64 amt, .int .i64 d, .int .i64 m] w fun e w' => e = .returned (.tuple #[.int .i64 q, .int .i64 z]) ∧ Below w.heap.size w w') ∧ ∀ w, Calls Tryd.prog 15 #[.int .i64 amt, .int .i64 d, .int .i64 m] w fun e w' => e = .returned (.tuple #[.int .i64 q, .int .i64 z]) ∧ Below w.heap.size w w' := by
  by_cases h : Dv amt d m
  · exact ⟨_, _, fun _ => rfl, fun k => absurd h k, fun w => due_ok amt d m w h, fun w => rdue_ok amt d m w h⟩
  · exact ⟨_, _, fun k => absurd k h, fun _ => ⟨rfl, rfl⟩, fun w => due_no amt d m w h, fun w => rdue_no amt d m w h⟩
set_option maxHeartbeats 800000 in
theorem ron_no (amt a b m : Int) (w : World) (h : ¬ Ov amt a b m) :
    Calls Tryd.prog 17 #[.int .i64 amt, .int .i64 a, .int .i64 b, .int .i64 m] w fun e w' => e = .returned (.tuple #[.int .i64 0, .int .i64 2]) ∧ Below w.heap.size w w' := by
  obtain ⟨q1, z1, y1, n1, -, k1⟩ := due_some amt a m
  obtain ⟨q2, z2, y2, n2, -, k2⟩ := due_some amt b m
  have K1 := Lib.hid k1
  have K2 := Lib.hid k2
  have hc : (z1 = 2) ∨ (z1 = 0 ∧ z2 = 2) ∨ (z1 = 0 ∧ z2 = 0 ∧ b < a) := by
    by_cases h2 : Dv amt a m
    · by_cases h3 : Dv amt b m
      · have hz1 := y1 h2; have hz2 := y2 h3
        have : b < a := by rcases Ov.not h with h | ⟨_, h⟩ | ⟨_, _, h⟩ <;> first | exact h | exact absurd ‹_› h
        omega
      · have hz1 := y1 h2; have hz2 := (n2 h3).2; omega
    · have hz1 := (n1 h2).2; omega
  clear k1 k2 y1 n1 y2 n2 h
  rcases hc with rfl | ⟨rfl, rfl⟩ | ⟨rfl, rfl, hba⟩
  all_goals
    go_enter Tryd.func17, Tryd.ntmps17
    go_wp2_with fail
    refine (K1.out _).mono ?_
    rintro e w1 ⟨rfl, b1⟩
    go_wp2_with fail
    refine (K2.out _).mono ?_
    rintro e w2 ⟨rfl, b2⟩
    have B2 := Lib.hid (then_below b1 b2)
    clear b1 b2
    go_wp2_with fail
    go_ret2
    exact ⟨rfl, B2.out⟩
/-- Both tell the same of days. -/
theorem both_due (amt d m : Int) : ∃ q z : Int, (∀ w, Calls Tryd.prog 14 #[.int .i64 amt, .int .i64 d, .int .i64 m] w fun e w' => e = .returned (.tuple #[.int .i64 q, .int .i64 z]) ∧ Below w.heap.size w w') ∧ ∀ w, Calls Tryd.prog 15 #[.int .i64 amt, .int .i64 d, .int .i64 m] w fun e w' => e = .returned (.tuple #[.int .i64 q, .int .i64 z]) ∧ Below w.heap.size w w' := by
  obtain ⟨q, z, -, -, k1, k2⟩ := due_some amt d m
  exact ⟨q, z, k1, k2⟩
theorem both_on (amt a b m : Int) : ∃ q z : Int, (Ov amt a b m → z = 0) ∧ (¬ Ov amt a b m → q = 0 ∧ z = 2) ∧ (∀ w, Calls Tryd.prog 16 #[.int .i64 amt, .int .i64 a, .int .i64 b, .int .i64 m] w fun e w' => e = .returned (.tuple #[.int .i64 q, .int .i64 z]) ∧ Below w.heap.size w w') ∧ ∀ w, Calls Tryd.prog 17 #[.int .i64 amt, .int .i64 a, .int .i64 b, .int .i64 m] w fun e w' => e = .returned (.tuple #[.int .i64 q, .int .i64 z]) ∧ Below w.heap.size w w' := by
  by_cases h : Ov amt a b m
  · exact ⟨_, _, fun _ => rfl, fun k => absurd h k, fun w => on_ok amt a b m w h, fun w => ron_ok amt a b m w h⟩
  · exact ⟨_, _, fun k => absurd k h, fun _ => ⟨rfl, rfl⟩, fun w => on_no amt a b m w h, fun w => ron_no amt a b m w h⟩
set_option maxHeartbeats 800000 in
theorem rchange_k (was now d m p q y z P Q Z : Int) (w : World)
    (h1 : ∀ w, Calls Tryd.prog 17 #[.int .i64 was, .int .i64 d, .int .i64 m, .int .i64 m] w fun e w' => e = .returned (.tuple #[.int .i64 p, .int .i64 y]) ∧ Below w.heap.size w w')
    (h2 : ∀ w, Calls Tryd.prog 17 #[.int .i64 now, .int .i64 d, .int .i64 m, .int .i64 m] w fun e w' => e = .returned (.tuple #[.int .i64 q, .int .i64 z]) ∧ Below w.heap.size w w')
    (hc : (y = 0 ∧ z = 0 ∧ P = p ∧ Q = q ∧ Z = 0) ∨ (y = 2 ∧ P = 0 ∧ Q = 0 ∧ Z = 2) ∨ (y = 0 ∧ z = 2 ∧ P = 0 ∧ Q = 0 ∧ Z = 2)) :
    Calls Tryd.prog 20 #[.int .i64 was, .int .i64 now, .int .i64 d, .int .i64 m] w fun e w' => e = .returned (.tuple #[.int .i64 P, .int .i64 Q, .int .i64 Z]) ∧ Below w.heap.size w w' := by
  have K1 := Lib.hid h1
  have K2 := Lib.hid h2
  clear h1 h2
  rcases hc with ⟨rfl, rfl, rfl, rfl, rfl⟩ | ⟨rfl, rfl, rfl, rfl⟩ | ⟨rfl, rfl, rfl, rfl, rfl⟩
  all_goals
    go_enter Tryd.func20, Tryd.ntmps20
    go_wp2_with fail
    refine (K1.out _).mono ?_
    rintro e w1 ⟨rfl, b1⟩
    go_wp2_with fail
    refine (K2.out _).mono ?_
    rintro e w2 ⟨rfl, b2⟩
    have B2 := Lib.hid (then_below b1 b2)
    clear b1 b2
    go_wp2_with fail
    go_ret3
    exact ⟨rfl, B2.out⟩
theorem both_change (was now d m : Int) : ∃ p q z : Int, (∀ w, Calls Tryd.prog 19 #[.int .i64 was, .int .i64 now, .int .i64 d, .int .i64 m] w fun e w' => e = .returned (.tuple #[.int .i64 p, .int .i64 q, .int .i64 z]) ∧ Below w.heap.size w w') ∧ ∀ w, Calls Tryd.prog 20 #[.int .i64 was, .int .i64 now, .int .i64 d, .int .i64 m] w fun e w' => e = .returned (.tuple #[.int .i64 p, .int .i64 q, .int .i64 z]) ∧ Below w.heap.size w w' := by
  obtain ⟨q1, z1, y1, n1, -, k1⟩ := both_on was d m m
  obtain ⟨q2, z2, y2, n2, -, k2⟩ := both_on now d m m
  by_cases h : Ov was d m m
  · by_cases k : Ov now d m m
    · exact ⟨_, _, _, fun w => change_ok was now d m w h k, fun w => rchange_k was now d m _ _ 0 0 _ _ 0 w (fun w => ron_ok was d m m w h) (fun w => ron_ok now d m m w k) (Or.inl ⟨rfl, rfl, rfl, rfl, rfl⟩)⟩
    · exact ⟨_, _, _, fun w => change_no was now d m w (Or.inr ⟨h, k⟩), fun w => rchange_k was now d m q1 q2 z1 z2 0 0 2 w k1 k2 (Or.inr (Or.inr ⟨y1 h, (n2 k).2, rfl, rfl, rfl⟩))⟩
  · exact ⟨_, _, _, fun w => change_no was now d m w (Or.inl h), fun w => rchange_k was now d m q1 q2 z1 z2 0 0 2 w k1 k2 (Or.inr (Or.inl ⟨(n1 h).2, rfl, rfl, rfl⟩))⟩
end Go.Proofs.YtlmhifdilmnlnaaDoor.Pr
