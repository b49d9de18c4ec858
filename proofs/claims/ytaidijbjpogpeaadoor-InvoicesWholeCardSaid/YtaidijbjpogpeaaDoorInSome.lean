/- The contracts of package invoices: Open, and what 'some' tells. (gen_insome.py writes this.) -/
import Derived.Test.YtaidijbjpogpeaaDoorInCheck
import Derived.IntWalk
namespace Go.Proofs.YtaidijbjpogpeaaDoor.Inv
open Go.RowKit
structure Iv.Ok (x : Iv) : Prop where
  id : 0 < x.id
  cust : 0 < x.cust
  day : 1 ≤ x.day ∧ x.day ≤ 3652059
  due : 1 ≤ x.due ∧ x.due ≤ 3652059
  dd : x.day ≤ x.due
  frm : 1 ≤ x.frm ∧ x.frm ≤ 3652059
  fn : x.frm < x.next
  next : x.next ≤ 3652060
  amt : 0 ≤ x.amt ∧ x.amt < 4611686018427387904
  cred : 0 ≤ x.cred
  paid : 0 ≤ x.paid
  lost : 0 ≤ x.lost
  left0 : 0 ≤ x.left
  left : x.left = x.amt - x.cred - x.paid - x.lost
theorem okB_iff (x : Iv) : x.okB = true ↔ x.Ok := by
  constructor
  · intro h
    unfold Iv.okB at h
    simp only [List.all_cons, List.all_nil, Bool.and_true, Bool.and_eq_true, decide_eq_true_eq] at h
    obtain ⟨h1, h2, h3, h4, h5, h6, h7, h8, h9, h10, h11, h12, h13, h14⟩ := h
    refine ⟨h1, h2, h3, h4, h5, h6, h7, h8, ⟨h9, h10⟩, h11, h12, h13, h14, ?_⟩
    unfold Iv.left off at *
    split at h14 <;> (try split at h14) <;> (try split at h14) <;> simp_all <;> omega
  · rintro ⟨h1, h2, h3, h4, h5, h6, h7, h8, ⟨h9, h10⟩, h11, h12, h13, h14, -⟩
    unfold Iv.okB
    simp only [List.all_cons, List.all_nil, Bool.and_true, Bool.and_eq_true, decide_eq_true_eq]
    exact ⟨h1, h2, h3, h4, h5, h6, h7, h8, h9, h10, h11, h12, h13, h14⟩
/-- What is open. -/
def Iv.opn (x : Iv) : Int := if x.okB then x.left else 0
theorem left_ok (x : Iv) (w : World) (hx : x.Fits) (h : x.Ok) :
    Calls Tryd.prog 27 #[x.val] w fun e w' => e = .returned (.int .i64 x.left) ∧ Below w.heap.size w w' := left_c x w hx h.cred h.paid h.lost
theorem open_c (x : Iv) (w : World) (hx : x.Fits) :
    Calls Tryd.prog 16 #[x.val] w fun e w' => e = .returned (.int .i64 x.opn) ∧ Below w.heap.size w w' := by
  have I0 := Lib.hid (IvAt.box x w)
  have B0 := Lib.hid ((Below.refl _ w).alloc (Nat.le_refl _) (.cells x.cells 24))
  cases h : x.okB with
  | true =>
    have HV := Lib.hid (show x.opn = x.left by unfold Iv.opn; rw [if_pos h])
    have kl := Lib.hid (fun w => left_ok x w hx ((okB_iff x).1 h))
    have kc := Lib.hid (fun w => check_yes x w hx h)
    clear hx h
    obtain ⟨a0, a1, a2, a3, a4, a5, a6, a7, a8, a9, a10, alt⟩ := IvAt.box x w
    go_enter Tryd.func16, Tryd.ntmps16
    unfold Iv.val
    go_wp2_with fail
    refine (kc.out _).mono ?_
    rintro e w1 ⟨rfl, b1⟩
    have J1 := Lib.hid (IvAt.later I0.out b1)
    have D1 := Lib.hid (then_below B0.out b1)
    clear a0 a1 a2 a3 a4 a5 a6 a7 a8 a9 a10 alt
    obtain ⟨c0, c1, c2, c3, c4, c5, c6, c7, c8, c9, c10, hlt⟩ := J1.out
    clear b1
    go_wp2_with fail
    refine (kl.out _).mono ?_
    rintro e w2 ⟨rfl, b2⟩
    have D2 := then_below D1.out b2
    clear b2
    go_wp2_with fail
    go_ret
    exact ⟨ret_int HV.out.symm, D2⟩
  | false =>
    have HV := Lib.hid (show x.opn = 0 by unfold Iv.opn; rw [h]; rfl)
    have kc := Lib.hid (fun w => check_no x w hx h)
    clear hx h
    obtain ⟨a0, a1, a2, a3, a4, a5, a6, a7, a8, a9, a10, alt⟩ := IvAt.box x w
    go_enter Tryd.func16, Tryd.ntmps16
    unfold Iv.val
    go_wp2_with fail
    refine (kc.out _).mono ?_
    rintro e w1 ⟨rfl, b1⟩
    have D1 := then_below B0.out b1
    clear b1
    go_wp2_with fail
    go_ret
    exact ⟨ret_int HV.out.symm, D1⟩
theorem paid_c (x : Iv) (w : World) :
    Calls Tryd.prog 28 #[x.val] w fun e w' => e = .returned (.int .i64 x.paid) ∧ Below w.heap.size w w' := by
  have B0 := Lib.hid ((Below.refl _ w).alloc (Nat.le_refl _) (.cells x.cells 24))
  obtain ⟨c0, c1, c2, c3, c4, c5, c6, c7, c8, c9, c10, hlt⟩ := IvAt.box x w
  go_enter Tryd.func28, Tryd.ntmps28
  unfold Iv.val
  go_wp2_with fail
  go_ret
  exact ⟨rfl, B0.out⟩
set_option maxHeartbeats 800000 in
theorem openOrPaid_c (x : Iv) (w : World) (hx : x.Fits) (h : x.Ok) :
    Calls Tryd.prog 26 #[x.val] w fun e w' => e = .returned (.int .i64 (x.left + x.paid)) ∧ Below w.heap.size w w' := by
  have I0 := Lib.hid (IvAt.box x w)
  have B0 := Lib.hid ((Below.refl _ w).alloc (Nat.le_refl _) (.cells x.cells 24))
  have kl := Lib.hid (fun w => left_ok x w hx h)
  have g1 := h.left0
  have g2 := h.left
  have g3 := h.paid
  have g4 := h.amt.2
  have g5 := h.cred
  have g6 := h.lost
  have q1 : -9223372036854775808 ≤ x.left + x.paid := by omega
  have q2 : x.left + x.paid ≤ 9223372036854775807 := by omega
  have hwr : IntKind.i64.wrap (x.left + x.paid) = x.left + x.paid := IntWalk.i64_in _ (by omega)
  have HW := Lib.hid hwr
  clear hx h g1 g2 g3 g4 g5 g6 q1 q2
  go_enter Tryd.func26, Tryd.ntmps26
  unfold Iv.val
  go_wp2_with fail
  go_region_held3 (fun u => u.cell? ⟨w.heap.size, 0, none⟩ = some (.int .u64 x.id) ∧ u.cell? ⟨w.heap.size, 1, none⟩ = some (.int .u64 x.cust) ∧ u.cell? ⟨w.heap.size, 2, none⟩ = some (.int .u64 x.con) ∧ u.cell? ⟨w.heap.size, 3, none⟩ = some (.int .i64 x.day) ∧ u.cell? ⟨w.heap.size, 4, none⟩ = some (.int .i64 x.due) ∧ u.cell? ⟨w.heap.size, 5, none⟩ = some (.int .i64 x.frm) ∧ u.cell? ⟨w.heap.size, 6, none⟩ = some (.int .i64 x.next) ∧ u.cell? ⟨w.heap.size, 7, none⟩ = some (.int .i64 x.amt) ∧ u.cell? ⟨w.heap.size, 8, none⟩ = some (.int .i64 x.cred) ∧ u.cell? ⟨w.heap.size, 9, none⟩ = some (.int .i64 x.paid) ∧ u.cell? ⟨w.heap.size, 10, none⟩ = some (.int .i64 x.lost) ∧ IvAt w.heap.size x u ∧ Below w.heap.size w u)
    (first | exact IvAt.pack I0.out B0.out | exact IvAt.pack I0.out.drew B0.out.drew | exact IvAt.pack J1 D1)
    (first | (go_at_call 27; (try go_split_ands); refine (kl.out _).mono ?_; rintro e u1 ⟨rfl, b1⟩; have J1 := IvAt.later (by assumption) b1; have D1 := then_below (by assumption) b1))
  go_split_ands
  clear J1
  go_wp2_with fail
  go_ret
  exact ⟨rfl, D1⟩
theorem some_no1 (x : Iv) (n : Int) (v : Value) (w : World) (hx : x.Fits) (h : x.okB = false) :
    Calls Tryd.prog 25 #[x.val, .int .i64 n, v] w fun e w' => e = .returned (.int .i64 2) ∧ Below w.heap.size w w' := by
  have B0 := Lib.hid ((Below.refl _ w).alloc (Nat.le_refl _) (.cells x.cells 24))
  have kc := Lib.hid (fun w => check_no x w hx h)
  clear hx h
  obtain ⟨a0, a1, a2, a3, a4, a5, a6, a7, a8, a9, a10, alt⟩ := IvAt.box x w
  go_enter Tryd.func25, Tryd.ntmps25
  unfold Iv.val
  go_wp2_with fail
  refine (kc.out _).mono ?_
  rintro e w1 ⟨rfl, b1⟩
  have D1 := then_below B0.out b1
  clear b1
  go_wp2_with fail
  go_ret
  exact ⟨rfl, D1⟩
theorem some_no2 (x : Iv) (n : Int) (v : Value) (w : World) (hx : x.Fits) (h : x.okB = true) (hn : n < 1) :
    Calls Tryd.prog 25 #[x.val, .int .i64 n, v] w fun e w' => e = .returned (.int .i64 2) ∧ Below w.heap.size w w' := by
  have B0 := Lib.hid ((Below.refl _ w).alloc (Nat.le_refl _) (.cells x.cells 24))
  have kc := Lib.hid (fun w => check_yes x w hx h)
  have hd : decide (n < 1) = true := decide_eq_true hn
  clear hx h
  obtain ⟨a0, a1, a2, a3, a4, a5, a6, a7, a8, a9, a10, alt⟩ := IvAt.box x w
  go_enter Tryd.func25, Tryd.ntmps25
  unfold Iv.val
  go_wp2_with fail
  refine (kc.out _).mono ?_
  rintro e w1 ⟨rfl, b1⟩
  have D1 := then_below B0.out b1
  clear b1
  go_wp2_with fail
  go_ret
  exact ⟨rfl, D1⟩
theorem some_no (x : Iv) (n : Int) (v : Value) (w : World) (hx : x.Fits) (h : x.okB = false ∨ n < 1) :
    Calls Tryd.prog 25 #[x.val, .int .i64 n, v] w fun e w' => e = .returned (.int .i64 2) ∧ Below w.heap.size w w' := by
  cases hk : x.okB with
  | false => exact some_no1 x n v w hx hk
  | true => exact some_no2 x n v w hx hk (by rcases h with h | h; (rw [hk] at h; cases h); exact h)
theorem some_left (x : Iv) (n : Int) (w : World) (hx : x.Fits) (hk : x.Ok) (hn : 1 ≤ n) :
    Calls Tryd.prog 25 #[x.val, .int .i64 n, .func (.func 27) #[] #[]] w fun e w' => e = .returned (.int .i64 (if x.left < n then 9 else 0)) ∧ Below w.heap.size w w' := by
  have I0 := Lib.hid (IvAt.box x w)
  have B0 := Lib.hid ((Below.refl _ w).alloc (Nat.le_refl _) (.cells x.cells 24))
  have kc := Lib.hid (fun w => check_yes x w hx ((okB_iff x).2 hk))
  have km := Lib.hid (fun w => (left_ok x w hx hk : Calls Tryd.prog 27 #[x.val] w fun e w' => e = .returned (.int .i64 x.left) ∧ Below w.heap.size w w'))
  have hn' : ¬ n < 1 := by omega
  clear hx hk hn
  generalize x.left = m at *
  by_cases hm : m < n
  all_goals
    obtain ⟨a0, a1, a2, a3, a4, a5, a6, a7, a8, a9, a10, alt⟩ := IvAt.box x w
    go_enter Tryd.func25, Tryd.ntmps25
    unfold Iv.val
    go_wp2_with fail
    refine (kc.out _).mono ?_
    rintro e w1 ⟨rfl, b1⟩
    have J1 := Lib.hid (IvAt.later I0.out b1)
    have D1 := Lib.hid (then_below B0.out b1)
    clear b1 a0 a1 a2 a3 a4 a5 a6 a7 a8 a9 a10 alt
    obtain ⟨c0, c1, c2, c3, c4, c5, c6, c7, c8, c9, c10, hlt⟩ := J1.out
    go_wp2_with fail
    refine (km.out _).mono ?_
    rintro e w2 ⟨rfl, b2⟩
    have D2 := then_below D1.out b2
    clear b2
    go_wp2_with fail
    go_ret
    exact ⟨ret_int (by first | rfl | rw [if_pos hm] | rw [if_neg hm] | simp), D2⟩
theorem some_paid (x : Iv) (n : Int) (w : World) (hx : x.Fits) (hk : x.Ok) (hn : 1 ≤ n) :
    Calls Tryd.prog 25 #[x.val, .int .i64 n, .func (.func 28) #[] #[]] w fun e w' => e = .returned (.int .i64 (if x.paid < n then 9 else 0)) ∧ Below w.heap.size w w' := by
  have I0 := Lib.hid (IvAt.box x w)
  have B0 := Lib.hid ((Below.refl _ w).alloc (Nat.le_refl _) (.cells x.cells 24))
  have kc := Lib.hid (fun w => check_yes x w hx ((okB_iff x).2 hk))
  have km := Lib.hid (fun w => (paid_c x w : Calls Tryd.prog 28 #[x.val] w fun e w' => e = .returned (.int .i64 x.paid) ∧ Below w.heap.size w w'))
  have hn' : ¬ n < 1 := by omega
  clear hx hk hn
  generalize x.paid = m at *
  by_cases hm : m < n
  all_goals
    obtain ⟨a0, a1, a2, a3, a4, a5, a6, a7, a8, a9, a10, alt⟩ := IvAt.box x w
    go_enter Tryd.func25, Tryd.ntmps25
    unfold Iv.val
    go_wp2_with fail
    refine (kc.out _).mono ?_
    rintro e w1 ⟨rfl, b1⟩
    have J1 := Lib.hid (IvAt.later I0.out b1)
    have D1 := Lib.hid (then_below B0.out b1)
    clear b1 a0 a1 a2 a3 a4 a5 a6 a7 a8 a9 a10 alt
    obtain ⟨c0, c1, c2, c3, c4, c5, c6, c7, c8, c9, c10, hlt⟩ := J1.out
    go_wp2_with fail
    refine (km.out _).mono ?_
    rintro e w2 ⟨rfl, b2⟩
    have D2 := then_below D1.out b2
    clear b2
    go_wp2_with fail
    go_ret
    exact ⟨ret_int (by first | rfl | rw [if_pos hm] | rw [if_neg hm] | simp), D2⟩
theorem some_openOrPaid (x : Iv) (n : Int) (w : World) (hx : x.Fits) (hk : x.Ok) (hn : 1 ≤ n) :
    Calls Tryd.prog 25 #[x.val, .int .i64 n, .func (.func 26) #[] #[]] w fun e w' => e = .returned (.int .i64 (if (x.left + x.paid) < n then 9 else 0)) ∧ Below w.heap.size w w' := by
  have I0 := Lib.hid (IvAt.box x w)
  have B0 := Lib.hid ((Below.refl _ w).alloc (Nat.le_refl _) (.cells x.cells 24))
  have kc := Lib.hid (fun w => check_yes x w hx ((okB_iff x).2 hk))
  have km := Lib.hid (fun w => (openOrPaid_c x w hx hk : Calls Tryd.prog 26 #[x.val] w fun e w' => e = .returned (.int .i64 (x.left + x.paid)) ∧ Below w.heap.size w w'))
  have hn' : ¬ n < 1 := by omega
  clear hx hk hn
  generalize (x.left + x.paid) = m at *
  by_cases hm : m < n
  all_goals
    obtain ⟨a0, a1, a2, a3, a4, a5, a6, a7, a8, a9, a10, alt⟩ := IvAt.box x w
    go_enter Tryd.func25, Tryd.ntmps25
    unfold Iv.val
    go_wp2_with fail
    refine (kc.out _).mono ?_
    rintro e w1 ⟨rfl, b1⟩
    have J1 := Lib.hid (IvAt.later I0.out b1)
    have D1 := Lib.hid (then_below B0.out b1)
    clear b1 a0 a1 a2 a3 a4 a5 a6 a7 a8 a9 a10 alt
    obtain ⟨c0, c1, c2, c3, c4, c5, c6, c7, c8, c9, c10, hlt⟩ := J1.out
    go_wp2_with fail
    refine (km.out _).mono ?_
    rintro e w2 ⟨rfl, b2⟩
    have D2 := then_below D1.out b2
    clear b2
    go_wp2_with fail
    go_ret
    exact ⟨ret_int (by first | rfl | rw [if_pos hm] | rw [if_neg hm] | simp), D2⟩
end Go.Proofs.YtaidijbjpogpeaaDoor.Inv
