/- Joined: PrHas PsDue PsRef PsTouch PsMonths PsRMonths. -/
import Derived.Test.YtjchecjonkmhgaaDoorSjB
import Derived.Test.YtjchecjonkmhgaaDoorSjD
import Derived.Test.YtjchecjonkmhgaaDoorSjA
import Derived.BigQuiet
import Derived.Deep.QuietTactic
import Derived.Handy
import Derived.Test.YtjchecjonkmhgaaDoorSjC
import Derived.Test.YtjchecjonkmhgaaDoorSjE
import Derived.Shelf.Abstract
import Derived.Shelf.RegionOpen
import Derived.OwnWalkIn
import Derived.TacticsInMore
import Derived.LoopNIn
import Derived.LoopIn
section
namespace Go.Proofs.YtjchecjonkmhgaaDoor.Pr
open Go.RowKit
theorem then_below {a b c : World} (h : Below a.heap.size a b) (k : Below b.heap.size b c) : Below a.heap.size a c := h.trans (k.mono h.size)
theorem below_drewN {w u : World} (h : Below w.heap.size w u) (n : Nat) : Below w.heap.size w (u.drewN n) := ⟨h.os, h.tape, h.output, h.size, h.block⟩
def hasB (a b n : Int) : Bool := decide (a ≤ n ∧ n ≤ b)
theorem has_yes {a b n : Int} (h : a ≤ n) (k : n ≤ b) : hasB a b n = true := decide_eq_true ⟨h, k⟩
theorem has_no {a b n : Int} (h : n < a ∨ b < n) : hasB a b n = false := decide_eq_false (by omega)
theorem has_c (a b n : Int) (w : World) : Calls Tryd.prog 78 #[.agg #[.int .i64 a, .int .i64 b], .int .i64 n] w fun e w' => e = .returned (.bool (hasB a b n)) ∧ Below w.heap.size w w' := by
  have b0 : Below w.heap.size w (w.alloc (.cells #[.int .i64 a, .int .i64 b] 130)) := (Below.refl _ w).alloc (Nat.le_refl _) _
  have B0 := Lib.hid b0
  clear b0
  rcases (show (a ≤ n ∧ n ≤ b) ∨ (a ≤ n ∧ ¬ n ≤ b) ∨ ¬ a ≤ n by omega) with ⟨h1, h2⟩ | ⟨h1, h2⟩ | h1
  · have HE := Lib.hid (has_yes h1 h2)
    go_enter Tryd.func78, Tryd.ntmps78
    go_wp2_with fail
    go_ret
    exact ⟨HE.out ▸ rfl, B0.out⟩
  · have HE := Lib.hid (has_no (Or.inr (by omega) : n < a ∨ b < n))
    go_enter Tryd.func78, Tryd.ntmps78
    go_wp2_with fail
    go_ret
    exact ⟨HE.out ▸ rfl, B0.out⟩
  · have HE := Lib.hid (has_no (Or.inl (by omega) : n < a ∨ b < n))
    have hd : decide (a ≤ n) = false := decide_eq_false h1
    clear h1
    go_enter Tryd.func78, Tryd.ntmps78
    go_wp2_with fail
    go_ret
    exact ⟨HE.out ▸ rfl, B0.out⟩
theorem all_c (a b n : Int) (g : Nat) (w : World) (hc : w.cell? ⟨g, 0, none⟩ = some (.int .i64 n)) :
    Calls Tryd.prog 77 #[.func (.func 78) #[.agg #[.int .i64 a, .int .i64 b]] #[], .slice (some ⟨g, 0, none⟩) 1 1] w fun e w' => e = .returned (.bool (hasB a b n)) ∧ Below w.heap.size w w' := by
  cases hb : hasB a b n with
  | true =>
    have KH := Lib.hid (fun w => hb ▸ has_c a b n w)
    clear hb
    go_enter Tryd.func77, Tryd.ntmps77
    go_wp2_with fail
    refine wp_loop_rounds 2 ?_
    rw [rounds_succ]
    go_wp2_with fail
    refine (KH.out _).mono ?_
    rintro e w1 ⟨rfl, b1⟩
    go_wp2_with fail
    rw [rounds_succ]
    go_wp2_with fail
    go_ret
    exact ⟨rfl, b1⟩
  | false =>
    have KH := Lib.hid (fun w => hb ▸ has_c a b n w)
    clear hb
    go_enter Tryd.func77, Tryd.ntmps77
    go_wp2_with fail
    refine wp_loop_rounds 1 ?_
    rw [rounds_succ]
    go_wp2_with fail
    refine (KH.out _).mono ?_
    rintro e w1 ⟨rfl, b1⟩
    go_wp2_with fail
    go_ret
    exact ⟨rfl, b1⟩
theorem all_new (a b n : Int) (w : World) :
    Calls Tryd.prog 77 #[.func (.func 78) #[.agg #[.int .i64 a, .int .i64 b]] #[], .slice (some ⟨w.heap.size, 0, none⟩) 1 1] (w.alloc (.cells #[.int .i64 n] 3)) fun e w' => e = .returned (.bool (hasB a b n)) ∧ Below w.heap.size w w' :=
  (all_c a b n w.heap.size _ (by simp [go_sem])).mono fun _ _ ⟨h, k⟩ => ⟨h, then_below ((Below.refl _ w).alloc (Nat.le_refl _) _) k⟩
end Go.Proofs.YtjchecjonkmhgaaDoor.Pr
end
section
namespace Go.Proofs.YtjchecjonkmhgaaDoor.Pr
open Go.RowKit
/-- What has a part. -/
structure Dv (amt d m : Int) : Prop where
  a0 : 0 ≤ amt
  a1 : amt < 4611686018427387904
  m0 : 1 ≤ m
  m1 : m ≤ 3652059
  d0 : 0 ≤ d
  d1 : d ≤ m
def du (amt d m : Int) : Int := amt * d / m
theorem du_lo {amt d m : Int} (h : Dv amt d m) : 0 ≤ du amt d m := Int.ediv_nonneg (Int.mul_nonneg h.a0 h.d0) (by have := h.m0; omega)
theorem du_mono {amt d e m : Int} (h : Dv amt d m) (k : d ≤ e) : du amt d m ≤ du amt e m :=
  Int.ediv_le_ediv (by have := h.m0; omega) (Int.mul_le_mul_of_nonneg_left k h.a0)
theorem du_all {amt m : Int} (h : 1 ≤ m) : du amt m m = amt := Int.mul_ediv_cancel _ (by omega)
theorem du_0 (amt m : Int) : du amt 0 m = 0 := by unfold du; simp
theorem du_hi {amt d m : Int} (h : Dv amt d m) : du amt d m ≤ amt := by
  have := du_mono h h.d1
  rwa [du_all h.m0] at this
theorem Dv.not {amt d m : Int} (h : ¬ Dv amt d m) : amt < 0 ∨ (0 ≤ amt ∧ 4611686018427387904 ≤ amt) ∨ (0 ≤ amt ∧ amt < 4611686018427387904 ∧ (m < 1 ∨ 3652059 < m)) ∨ (0 ≤ amt ∧ amt < 4611686018427387904 ∧ 1 ≤ m ∧ m ≤ 3652059 ∧ (d < 0 ∨ m < d)) := by
  by_cases h1 : 0 ≤ amt
  · by_cases h2 : amt < 4611686018427387904
    · by_cases h3 : 1 ≤ m
      · by_cases h4 : m ≤ 3652059
        · by_cases h5 : 0 ≤ d ∧ d ≤ m
          · exact absurd ⟨h1, h2, h3, h4, h5.1, h5.2⟩ h
          · omega
        · omega
      · omega
    · omega
  · omega
theorem mk_fn : ∀ (fn : Fn) (first cap : Array Value) (w : World), (Instr.makeFunc fn first cap).run Tryd.prog w = .ok (.func fn first cap) w := fun _ _ _ _ => rfl
set_option maxHeartbeats 800000 in
theorem due_ok (amt d m : Int) (w : World) (h : Dv amt d m) :
    Calls Tryd.prog 65 #[.int .i64 amt, .int .i64 d, .int .i64 m] w fun e w' => e = .returned (.tuple #[.int .i64 (du amt d m), .int .i64 0]) ∧ Below w.heap.size w w' := by
  obtain ⟨a0, a1, m0, m1, d0, d1⟩ := id h
  have K1 := Lib.hid (fun w => has_yes m0 m1 ▸ all_new 1 3652059 m w)
  have K2 := Lib.hid (fun w => has_yes d0 d1 ▸ all_new 0 m d w)
  have l := du_lo h
  have u := du_hi h
  have KM := Lib.hid (fun w => muldiv_in amt d m (du amt d m) (amt * d % m) w ⟨by omega, by omega⟩ ⟨by omega, by omega⟩ m0 (by omega) rfl rfl (by omega) (by omega))
  clear h l u
  generalize du amt d m = q at *
  have hmf := mk_fn
  go_enter Tryd.func65, Tryd.ntmps65
  go_wp2_with fail
  refine (K1.out _).mono ?_
  rintro e w1 ⟨rfl, b1⟩
  go_wp2_with fail
  refine (K2.out _).mono ?_
  rintro e w2 ⟨rfl, b2⟩
  have B2 := Lib.hid (then_below b1 b2)
  clear b1 b2
  go_wp2_with fail
  refine (KM.out _).mono ?_
  rintro e w3 ⟨rfl, b3⟩
  have B3 := Lib.hid (then_below B2.out b3)
  clear b3
  go_wp2_with fail
  go_ret2
  exact ⟨rfl, B3.out⟩
set_option maxHeartbeats 800000 in
theorem due_no (amt d m : Int) (w : World) (h : ¬ Dv amt d m) :
    Calls Tryd.prog 65 #[.int .i64 amt, .int .i64 d, .int .i64 m] w fun e w' => e = .returned (.tuple #[.int .i64 0, .int .i64 2]) ∧ Below w.heap.size w w' := by
  have hmf := mk_fn
  rcases Dv.not h with h1 | ⟨h0, h1⟩ | ⟨h0, h1, h2⟩ | ⟨h0, h1, h2, h3, h4⟩ <;> clear h
  · have hd : decide (amt < 0) = true := decide_eq_true h1
    clear h1
    go_enter Tryd.func65, Tryd.ntmps65
    go_wp2_with fail
    go_ret2
    exact ⟨rfl, Below.refl _ _⟩
  · have hd : decide (4611686018427387904 ≤ amt) = true := decide_eq_true h1
    clear h1
    go_enter Tryd.func65, Tryd.ntmps65
    go_wp2_with fail
    go_ret2
    exact ⟨rfl, Below.refl _ _⟩
  · have K1 := Lib.hid (fun w => has_no h2 ▸ all_new 1 3652059 m w)
    clear h2
    go_enter Tryd.func65, Tryd.ntmps65
    go_wp2_with fail
    refine (K1.out _).mono ?_
    rintro e w1 ⟨rfl, b1⟩
    go_wp2_with fail
    go_ret2
    exact ⟨rfl, b1⟩
  · have K1 := Lib.hid (fun w => has_yes h2 h3 ▸ all_new 1 3652059 m w)
    have K2 := Lib.hid (fun w => has_no h4 ▸ all_new 0 m d w)
    clear h4
    go_enter Tryd.func65, Tryd.ntmps65
    go_wp2_with fail
    refine (K1.out _).mono ?_
    rintro e w1 ⟨rfl, b1⟩
    go_wp2_with fail
    refine (K2.out _).mono ?_
    rintro e w2 ⟨rfl, b2⟩
    have B2 := Lib.hid (then_below b1 b2)
    clear b1 b2
    go_wp2_with fail
    go_ret2
    exact ⟨rfl, B2.out⟩
/-- Which days have a part between them. -/
structure Ov (amt a b m : Int) : Prop where
  le : a ≤ b
  n : Dv amt b m
  f : Dv amt a m
theorem Ov.not {amt a b m : Int} (h : ¬ Ov amt a b m) : b < a ∨ (a ≤ b ∧ ¬ Dv amt b m) ∨ (a ≤ b ∧ Dv amt b m ∧ ¬ Dv amt a m) := by
  by_cases h1 : a ≤ b
  · by_cases h2 : Dv amt b m
    · by_cases h3 : Dv amt a m
      · exact absurd ⟨h1, h2, h3⟩ h
      · exact Or.inr (Or.inr ⟨h1, h2, h3⟩)
    · exact Or.inr (Or.inl ⟨h1, h2⟩)
  · omega
set_option maxHeartbeats 800000 in
theorem on_ok (amt a b m : Int) (w : World) (h : Ov amt a b m) :
    Calls Tryd.prog 50 #[.int .i64 amt, .int .i64 a, .int .i64 b, .int .i64 m] w fun e w' => e = .returned (.tuple #[.int .i64 (du amt b m - du amt a m), .int .i64 0]) ∧ Below w.heap.size w w' := by
  obtain ⟨h1, h2, h3⟩ := h
  have K1 := Lib.hid (fun w => due_ok amt b m w h2)
  have K2 := Lib.hid (fun w => due_ok amt a m w h3)
  have l1 := du_lo h2
  have l2 := du_lo h3
  have l3 := du_hi h2
  have l4 := du_hi h3
  have l5 := h2.a1
  clear h2 h3
  generalize du amt b m = p at *
  generalize du amt a m = q at *
  go_enter Tryd.func50, Tryd.ntmps50
  go_wp2_with fail
  refine (K1.out _).mono ?_
  rintro e w1 ⟨rfl, b1⟩
  go_wp2_with fail
  refine (K2.out _).mono ?_
  rintro e w2 ⟨rfl, b2⟩
  have B2 := Lib.hid (then_below b1 b2)
  clear b1 b2
  go_wp2_with fail
  go_ret2
  exact ⟨rfl, B2.out⟩
set_option maxHeartbeats 800000 in
theorem on_no (amt a b m : Int) (w : World) (h : ¬ Ov amt a b m) :
    Calls Tryd.prog 50 #[.int .i64 amt, .int .i64 a, .int .i64 b, .int .i64 m] w fun e w' => e = .returned (.tuple #[.int .i64 0, .int .i64 2]) ∧ Below w.heap.size w w' := by
  rcases Ov.not h with h1 | ⟨h1, h2⟩ | ⟨h1, h2, h3⟩ <;> clear h
  · go_enter Tryd.func50, Tryd.ntmps50
    go_wp2_with fail
    go_ret2
    exact ⟨rfl, Below.refl _ _⟩
  · have K1 := Lib.hid (fun w => due_no amt b m w h2)
    clear h2
    go_enter Tryd.func50, Tryd.ntmps50
    go_wp2_with fail
    refine (K1.out _).mono ?_
    rintro e w1 ⟨rfl, b1⟩
    go_wp2_with fail
    go_ret2
    exact ⟨rfl, b1⟩
  · have K1 := Lib.hid (fun w => due_ok amt b m w h2)
    have K2 := Lib.hid (fun w => due_no amt a m w h3)
    clear h2 h3
    generalize du amt b m = p at *
    go_enter Tryd.func50, Tryd.ntmps50
    go_wp2_with fail
    refine (K1.out _).mono ?_
    rintro e w1 ⟨rfl, b1⟩
    go_wp2_with fail
    refine (K2.out _).mono ?_
    rintro e w2 ⟨rfl, b2⟩
    have B2 := Lib.hid (then_below b1 b2)
    clear b1 b2
    go_wp2_with fail
    go_ret2
    exact ⟨rfl, B2.out⟩
end Go.Proofs.YtjchecjonkmhgaaDoor.Pr
end
section
namespace Go.Proofs.YtjchecjonkmhgaaDoor.Pr
open Go.RowKit Bw
def mayB (amt : Int) : Bool := decide (0 ≤ amt ∧ amt < 4611686018427387904)
def daysB (d m : Int) : Bool := decide (1 ≤ m ∧ m ≤ 3652059 ∧ 0 ≤ d ∧ d ≤ m)
theorem may_c (amt : Int) (w : World) : Calls Tryd.prog 71 #[.int .i64 amt] w fun e w' => e = .returned (.bool (mayB amt)) ∧ w = w' := by
  rcases (show (0 ≤ amt ∧ amt < 4611686018427387904) ∨ (0 ≤ amt ∧ ¬ amt < 4611686018427387904) ∨ amt < 0 by omega) with ⟨h1, h2⟩ | ⟨h1, h2⟩ | h1
  · have HE := Lib.hid (show mayB amt = true from decide_eq_true (by omega))
    go_enter Tryd.func71, Tryd.ntmps71
    go_wp2_with fail
    go_ret
    exact ⟨HE.out ▸ rfl, rfl⟩
  · have HE := Lib.hid (show mayB amt = false from decide_eq_false (by omega))
    go_enter Tryd.func71, Tryd.ntmps71
    go_wp2_with fail
    go_ret
    exact ⟨HE.out ▸ rfl, rfl⟩
  · have HE := Lib.hid (show mayB amt = false from decide_eq_false (by omega))
    have hd : decide (0 ≤ amt) = false := decide_eq_false (by omega)
    clear h1
    go_enter Tryd.func71, Tryd.ntmps71
    go_wp2_with fail
    go_ret
    exact ⟨HE.out ▸ rfl, rfl⟩
theorem days_yes (d m : Int) (w : World) (m0 : 1 ≤ m) (m1 : m ≤ 3652059) (d0 : 0 ≤ d) (d1 : d ≤ m) : Calls Tryd.prog 72 #[.int .i64 d, .int .i64 m] w fun e w' => e = .returned (.bool true) ∧ w = w' := by
  go_enter Tryd.func72, Tryd.ntmps72
  go_wp2_with fail
  go_ret
  exact ⟨rfl, rfl⟩
theorem days_no (d m : Int) (w : World) (h : m < 1 ∨ 3652059 < m ∨ d < 0 ∨ m < d) : Calls Tryd.prog 72 #[.int .i64 d, .int .i64 m] w fun e w' => e = .returned (.bool false) ∧ w = w' := by
  rcases (show m < 1 ∨ (1 ≤ m ∧ 3652059 < m) ∨ (1 ≤ m ∧ m ≤ 3652059 ∧ d < 0) ∨ (1 ≤ m ∧ m ≤ 3652059 ∧ 0 ≤ d ∧ m < d) by omega) with h1 | ⟨h1, h2⟩ | ⟨h1, h2, h3⟩ | ⟨h1, h2, h3, h4⟩ <;> clear h
  · have hd : decide (1 ≤ m) = false := decide_eq_false (by omega)
    clear h1
    go_enter Tryd.func72, Tryd.ntmps72
    go_wp2_with fail
    go_ret
    exact ⟨rfl, rfl⟩
  · have hd : decide (m ≤ 3652059) = false := decide_eq_false (by omega)
    clear h2
    go_enter Tryd.func72, Tryd.ntmps72
    go_wp2_with fail
    go_ret
    exact ⟨rfl, rfl⟩
  · have hd : decide (0 ≤ d) = false := decide_eq_false (by omega)
    clear h3
    go_enter Tryd.func72, Tryd.ntmps72
    go_wp2_with fail
    go_ret
    exact ⟨rfl, rfl⟩
  · have hd : decide (d ≤ m) = false := decide_eq_false (by omega)
    clear h4
    go_enter Tryd.func72, Tryd.ntmps72
    go_wp2_with fail
    go_ret
    exact ⟨rfl, rfl⟩
theorem rmuldiv_in (a b c q : Int) (w : World) (ha : I64 a) (hb : I64 b) (c1 : 1 ≤ c) (c2 : c ≤ 9223372036854775807) (hq : a * b / c = q) (q1 : -9223372036854775808 ≤ q) (q2 : q ≤ 9223372036854775807) :
    Calls Tryd.prog 73 #[.int .i64 a, .int .i64 b, .int .i64 c] w fun e w' => e = .returned (.tuple #[.int .i64 q, .int .i64 (a * b % c), .bool true]) ∧ Below w.heap.size w w' := by
  subst hq
  have h := rmuldiv_c a b c w ha hb c1 c2
  rw [(ok_in q1 q2).2, (ok_in q1 q2).1, mdr, (ok_in q1 q2).1, if_pos rfl] at h
  exact h
set_option maxHeartbeats 800000 in
theorem rdue_ok (amt d m : Int) (w : World) (h : Dv amt d m) :
    Calls Tryd.prog 61 #[.int .i64 amt, .int .i64 d, .int .i64 m] w fun e w' => e = .returned (.tuple #[.int .i64 (du amt d m), .int .i64 0]) ∧ Below w.heap.size w w' := by
  obtain ⟨a0, a1, m0, m1, d0, d1⟩ := id h
  have K1 := Lib.hid (fun w => (show mayB amt = true from decide_eq_true ⟨a0, a1⟩) ▸ may_c amt w)
  have K2 := Lib.hid (fun w => days_yes d m w m0 m1 d0 d1)
  have l := du_lo h
  have u := du_hi h
  have KM := Lib.hid (fun w => rmuldiv_in amt d m (du amt d m) w ⟨by omega, by omega⟩ ⟨by omega, by omega⟩ m0 (by omega) rfl (by omega) (by omega))
  clear h l u
  generalize du amt d m = q at *
  go_enter Tryd.func61, Tryd.ntmps61
  go_wp2_with fail
  refine (K1.out _).mono ?_
  rintro e w1 ⟨rfl, rfl⟩
  go_wp2_with fail
  refine (K2.out _).mono ?_
  rintro e w2 ⟨rfl, rfl⟩
  go_wp2_with fail
  refine (KM.out _).mono ?_
  rintro e w3 ⟨rfl, b3⟩
  go_wp2_with fail
  go_ret2
  exact ⟨rfl, b3⟩
set_option maxHeartbeats 800000 in
theorem rdue_no (amt d m : Int) (w : World) (h : ¬ Dv amt d m) :
    Calls Tryd.prog 61 #[.int .i64 amt, .int .i64 d, .int .i64 m] w fun e w' => e = .returned (.tuple #[.int .i64 0, .int .i64 2]) ∧ Below w.heap.size w w' := by
  have hn := Dv.not h
  clear h
  by_cases ha : 0 ≤ amt ∧ amt < 4611686018427387904
  · have K1 := Lib.hid (fun w => (show mayB amt = true from decide_eq_true ha) ▸ may_c amt w)
    have K2 := Lib.hid (fun w => days_no d m w (by omega))
    clear hn ha
    go_enter Tryd.func61, Tryd.ntmps61
    go_wp2_with fail
    refine (K1.out _).mono ?_
    rintro e w1 ⟨rfl, rfl⟩
    go_wp2_with fail
    refine (K2.out _).mono ?_
    rintro e w2 ⟨rfl, rfl⟩
    go_wp2_with fail
    go_ret2
    exact ⟨rfl, Below.refl _ _⟩
  · have K1 := Lib.hid (fun w => (show mayB amt = false from decide_eq_false ha) ▸ may_c amt w)
    clear hn ha
    go_enter Tryd.func61, Tryd.ntmps61
    go_wp2_with fail
    refine (K1.out _).mono ?_
    rintro e w1 ⟨rfl, rfl⟩
    go_wp2_with fail
    go_ret2
    exact ⟨rfl, Below.refl _ _⟩
set_option maxHeartbeats 800000 in
theorem ron_ok (amt a b m : Int) (w : World) (h : Ov amt a b m) :
    Calls Tryd.prog 42 #[.int .i64 amt, .int .i64 a, .int .i64 b, .int .i64 m] w fun e w' => e = .returned (.tuple #[.int .i64 (du amt b m - du amt a m), .int .i64 0]) ∧ Below w.heap.size w w' := by
  obtain ⟨h1, h2, h3⟩ := h
  have K1 := Lib.hid (fun w => rdue_ok amt b m w h2)
  have K2 := Lib.hid (fun w => rdue_ok amt a m w h3)
  have l1 := du_lo h2
  have l2 := du_lo h3
  have l3 := du_hi h2
  have l4 := du_hi h3
  have l5 := h2.a1
  clear h2 h3
  generalize du amt b m = p at *
  generalize du amt a m = q at *
  go_enter Tryd.func42, Tryd.ntmps42
  go_wp2_with fail
  refine (K2.out _).mono ?_
  rintro e w1 ⟨rfl, b1⟩
  go_wp2_with fail
  refine (K1.out _).mono ?_
  rintro e w2 ⟨rfl, b2⟩
  have B2 := Lib.hid (then_below b1 b2)
  clear b1 b2
  go_wp2_with fail
  go_ret2
  exact ⟨rfl, B2.out⟩
theorem due_some (amt d m : Int) : ∃ q z : Int, (Dv amt d m → z = 0) ∧ (¬ Dv amt d m → q = 0 ∧ z = 2) ∧ (∀ w, Calls Tryd.prog 65 #[.int .i64 amt, .int .i64 d, .int .i64 m] w fun e w' => e = .returned (.tuple #[.int .i64 q, .int .i64 z]) ∧ Below w.heap.size w w') ∧ ∀ w, Calls Tryd.prog 61 #[.int .i64 amt, .int .i64 d, .int .i64 m] w fun e w' => e = .returned (.tuple #[.int .i64 q, .int .i64 z]) ∧ Below w.heap.size w w' := by
  by_cases h : Dv amt d m
  · exact ⟨_, _, fun _ => rfl, fun k => absurd h k, fun w => due_ok amt d m w h, fun w => rdue_ok amt d m w h⟩
  · exact ⟨_, _, fun k => absurd k h, fun _ => ⟨rfl, rfl⟩, fun w => due_no amt d m w h, fun w => rdue_no amt d m w h⟩
set_option maxHeartbeats 800000 in
theorem ron_no (amt a b m : Int) (w : World) (h : ¬ Ov amt a b m) :
    Calls Tryd.prog 42 #[.int .i64 amt, .int .i64 a, .int .i64 b, .int .i64 m] w fun e w' => e = .returned (.tuple #[.int .i64 0, .int .i64 2]) ∧ Below w.heap.size w w' := by
  obtain ⟨q1, z1, y1, n1, -, k1⟩ := due_some amt a m
  obtain ⟨q2, z2, y2, n2, -, k2⟩ := due_some amt b m
  have K1 := Lib.hid k1
  have K2 := Lib.hid k2
  have hc : (z1 = 2) ∨ (z1 = 0 ∧ z2 = 2) ∨ (z1 = 0 ∧ z2 = 0 ∧ b < a) := by
    by_cases h2 : Dv amt a m
    · by_cases h3 : Dv amt b m
      · have hz1 := y1 h2; have hz2 := y2 h3
        have : b < a := by rcases Ov.not h with h | ⟨_, h⟩ | ⟨_, _, h⟩ <;> first | exact h | exact absurd ‹_› h
        omega
      · have hz1 := y1 h2; have hz2 := (n2 h3).2; omega
    · have hz1 := (n1 h2).2; omega
  clear k1 k2 y1 n1 y2 n2 h
  rcases hc with rfl | ⟨rfl, rfl⟩ | ⟨rfl, rfl, hba⟩
  all_goals
    go_enter Tryd.func42, Tryd.ntmps42
    go_wp2_with fail
    refine (K1.out _).mono ?_
    rintro e w1 ⟨rfl, b1⟩
    go_wp2_with fail
    refine (K2.out _).mono ?_
    rintro e w2 ⟨rfl, b2⟩
    have B2 := Lib.hid (then_below b1 b2)
    clear b1 b2
    go_wp2_with fail
    go_ret2
    exact ⟨rfl, B2.out⟩
/-- Both tell the same of days. -/
theorem both_due (amt d m : Int) : ∃ q z : Int, (∀ w, Calls Tryd.prog 65 #[.int .i64 amt, .int .i64 d, .int .i64 m] w fun e w' => e = .returned (.tuple #[.int .i64 q, .int .i64 z]) ∧ Below w.heap.size w w') ∧ ∀ w, Calls Tryd.prog 61 #[.int .i64 amt, .int .i64 d, .int .i64 m] w fun e w' => e = .returned (.tuple #[.int .i64 q, .int .i64 z]) ∧ Below w.heap.size w w' := by
  obtain ⟨q, z, -, -, k1, k2⟩ := due_some amt d m
  exact ⟨q, z, k1, k2⟩
theorem both_on (amt a b m : Int) : ∃ q z : Int, (Ov amt a b m → z = 0) ∧ (¬ Ov amt a b m → q = 0 ∧ z = 2) ∧ (∀ w, Calls Tryd.prog 50 #[.int .i64 amt, .int .i64 a, .int .i64 b, .int .i64 m] w fun e w' => e = .returned (.tuple #[.int .i64 q, .int .i64 z]) ∧ Below w.heap.size w w') ∧ ∀ w, Calls Tryd.prog 42 #[.int .i64 amt, .int .i64 a, .int .i64 b, .int .i64 m] w fun e w' => e = .returned (.tuple #[.int .i64 q, .int .i64 z]) ∧ Below w.heap.size w w' := by
  by_cases h : Ov amt a b m
  · exact ⟨_, _, fun _ => rfl, fun k => absurd h k, fun w => on_ok amt a b m w h, fun w => ron_ok amt a b m w h⟩
  · exact ⟨_, _, fun k => absurd k h, fun _ => ⟨rfl, rfl⟩, fun w => on_no amt a b m w h, fun w => ron_no amt a b m w h⟩
end Go.Proofs.YtjchecjonkmhgaaDoor.Pr
end
section
namespace Go.Proofs.YtjchecjonkmhgaaDoor.Pr
open Go.RowKit Go.Shelf Rf Cw
attribute [local go_sem] Oper.semAt_some
theorem of_in {k day : Int} (h : In k day) (w : World) (hw : Tab w) :
    Calls Tryd.prog 63 #[.int .i64 day] w fun e w' => e = .returned (.tuple #[.int .i64 k, .int .i64 0]) ∧ w = w' := by
  have := of_is day (Yk k) (Mk k) w hw h.date
  rwa [In.k_eq] at this
theorem days_in (k : Int) (w : World) (hw : Tab w) (h1 : 1 ≤ k) (h2 : k ≤ 119988) :
    Calls Tryd.prog 76 #[.int .i64 k] w fun e w' => e = .returned (.tuple #[.int .i64 (B k + 1), .int .i64 (E k), .int .i64 0]) ∧ w = w' :=
  Cw.days_yes k w hw h1 h2
/-- What is left of a term: all of it has come, or the months from f on are still to come. -/
def Rest (L pre : List (Int × Int)) (f x : Int) : Prop :=
  (f = x ∧ L = pre) ∨ (∃ (n : Nat) (k : Int), f < x ∧ In k f ∧ x - f ≤ n ∧ L = pre ++ tm n k f x)
/-- What the loop's body leaves as it was. -/
def Kp (n b : Nat) (W W' : World) : Prop := ∀ k, k < n ∨ k = b ∨ k = b + 1 → W'.heap[k]? = W.heap[k]?
theorem Kp.cell {n b : Nat} {W W' : World} (h : Kp n b W W') (k o : Nat) (hk : k < n ∨ k = b ∨ k = b + 1) : W'.cell? ⟨k, o, none⟩ = W.cell? ⟨k, o, none⟩ := World.cell?_of_block (w := W) (h k hk)
theorem Kp.frozen {n b : Nat} {W W' : World} (h : Kp n b W W') (k o : Nat) (hk : k < n ∨ k = b ∨ k = b + 1) : W'.frozen? ⟨k, o, none⟩ = W.frozen? ⟨k, o, none⟩ := World.frozen?_of_block (w := W) (h k hk)
/-- The boxes of an iteration, in a state. -/
structure Bx (b : Nat) (f x : Int) (w : World) : Prop where
  c0 : w.cell? ⟨b, 0, none⟩ = some (.int .i64 f)
  f0 : w.frozen? ⟨b, 0, none⟩ = false
  c1 : w.cell? ⟨b + 1, 0, none⟩ = some (.int .i64 x)
  t : Tab w
theorem tab_pos {w : World} (h : Tab w) : 0 < w.heap.size := World.block_lt_of_cell? w ⟨0, _, none⟩ (h 1 (by omega) (by omega))
theorem tab_kept {n b : Nat} {W W' : World} (h : Tab W) (hk : Kp n b W W') (hn : 0 < n) : Tab W' := fun m h1 h2 => (hk.cell 0 _ (Or.inl hn)).trans (h m h1 h2)
theorem tab_later {w w' : World} (h : Tab w) (hb : Below w.heap.size w w') : Tab w' := fun m h1 h2 => (hb.cell (p := ⟨0, _, none⟩) (tab_pos h)).trans (h m h1 h2)
theorem tab_set {b : Nat} {W : World} (h : Tab W) (v : Value) (hb : b ≠ 0) : Tab (W.setCell ⟨b, 0, none⟩ v) := fun m h1 h2 => (World.cell?_setCell_other _ _ _ _ (by intro e; injection e with e; exact hb e)).trans (h m h1 h2)
def leftB (b : Nat) (x : Int) (w : World) : Nat := (x - intOf ((w.cell? ⟨b, 0, none⟩).getD undef)).toNat
theorem leftB_is {b : Nat} {f x : Int} {w : World} (h : Bx b f x w) : leftB b x w = (x - f).toNat := by unfold leftB; rw [h.c0]; rfl
end Go.Proofs.YtjchecjonkmhgaaDoor.Pr
end
section
namespace Go.Proofs.YtjchecjonkmhgaaDoor.Pr
open Go.RowKit Go.Shelf Rf Cw
attribute [local go_sem] Oper.semAt_some
def cellsL (L : List (Int × Int)) : List Value := L.flatMap fun y => [.int .i64 y.1, .int .i64 y.2]
theorem cellsL_snoc (L : List (Int × Int)) (y : Int × Int) : cellsL (L ++ [y]) = cellsL L ++ [.int .i64 y.1, .int .i64 y.2] := by simp [cellsL]
theorem all_is (a b n : Int) (z : Bool) (w : World) (h : hasB a b n = z) :
    Calls Tryd.prog 77 #[.func (.func 78) #[.agg #[.int .i64 a, .int .i64 b]] #[], .slice (some ⟨w.heap.size, 0, none⟩) 1 1] (w.alloc (.cells #[.int .i64 n] 3)) fun e w' => e = .returned (.bool z) ∧ Below w.heap.size w w' := h ▸ all_new a b n w
end Go.Proofs.YtjchecjonkmhgaaDoor.Pr
end
section
namespace Go.Proofs.YtjchecjonkmhgaaDoor.Pr
open Go.RowKit Rf
theorem rof_in {k day : Int} (h : In k day) (w : World) :
    Calls Tryd.prog 40 #[.int .i64 day] w fun e w' => e = .returned (.tuple #[.int .i64 k, .int .i64 0]) ∧ w = w' := by
  have := Cw.rof_is day (Yk k) (Mk k) w h.date
  rwa [In.k_eq] at this
theorem rdays_in (k : Int) (w : World) (h1 : 1 ≤ k) (h2 : k ≤ 119988) :
    Calls Tryd.prog 52 #[.int .i64 k] w fun e w' => e = .returned (.tuple #[.int .i64 (B k + 1), .int .i64 (E k), .int .i64 0]) ∧ w = w' :=
  Cw.rdays_yes k w h1 h2
theorem long_in (k : Int) (w : World) (h1 : 1 ≤ k + 1) (h2 : k + 1 ≤ 119988) (ln : Int) (hl : E (k + 1) - E k = ln) :
    Calls Tryd.prog 53 #[.int .i64 ((k + 1 + 11) / 12), .int .i64 ((k + 1 + 11) % 12 + 1)] w fun e w' => e = .returned (.int .i64 ln) ∧ w = w' := by
  have h := Cw.long_c (Yk (k + 1)) (Mk (k + 1)) w (by unfold Yk; omega) (by unfold Yk; omega) (by unfold Mk; omega) (by unfold Mk; omega)
  rw [show Civ.len (Yk (k + 1)) (Mk (k + 1)) = ln by rw [← hl, ← B_succ k]; rfl] at h
  rwa [show Yk (k + 1) = (k + 1 + 11) / 12 by unfold Yk; omega, show Mk (k + 1) = (k + 1 + 11) % 12 + 1 by unfold Mk; omega] at h
/-- What an append leaves of the world. -/
theorem grown_below {W w1 : World} {n0 e size k : Nat} {v : Value} {xs : List Value} {tmp : Obj} (hrow : W.ownsRow n0 e size v k xs) (hn : n0 ≤ W.heap.size) (hg : (W.alloc tmp).grownBy w1 v.ownBlock) : Below n0 W w1 :=
  ((Below.refl n0 W).alloc hn tmp).grown hg (by simp; omega) fun j ej => by
    rcases hrow.2 with ⟨rfl, _⟩ | ⟨g, cap, cur, rfl, hg, _, _⟩
    · simp [Value.ownBlock] at ej
    · obtain rfl : g = j := by simpa [Value.ownBlock] using ej
      exact hg
end Go.Proofs.YtjchecjonkmhgaaDoor.Pr
end
