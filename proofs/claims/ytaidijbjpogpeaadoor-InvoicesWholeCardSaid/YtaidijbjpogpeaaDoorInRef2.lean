/- The document's invoices: credits, payments, what is given up. (gen_inref2.py writes this.) -/
import Derived.Test.YtaidijbjpogpeaaDoorInCredit
import Derived.Test.YtaidijbjpogpeaaDoorInRef
namespace Go.Proofs.YtaidijbjpogpeaaDoor.Inv
open Go.RowKit

set_option maxRecDepth 100000 in
set_option maxHeartbeats 1600000 in
theorem rCredit_no (x : Iv) (n : Int) (w : World) (hx : x.Fits) (h : x.okB = false) :
    Calls Tryd.prog 8 #[x.val, .int .i64 n] w fun e w' => e = .returned (.tuple #[Iv.zero.val, .int .i64 0, .int .i64 2]) ∧ Below w.heap.size w w' := by
  have ko := Lib.hid (fun w => ropen_no x w hx h)
  have HT := Lib.hid (Bx.two x w)
  clear hx h
  obtain ⟨a0, a1, a2, a3, a4, a5, a6, a7, a8, a9, a10, af0, af1, af2, af3, af4, af5, af6, af7, af8, af9, af10, alt⟩ := HT.out.1
  go_enter Tryd.func8, Tryd.ntmps8
  unfold Iv.val
  go_wp2_with fail
  refine (ko.out _).mono ?_
  rintro e w1 ⟨rfl, b1⟩
  have D1 := Lib.hid (then_below HT.out.2.2 b1)
  have T1 := Lib.hid (HT.out.2.1.later b1)
  have X1 := Lib.hid (HT.out.1.later b1)
  clear b1 a0 af0 a1 af1 a2 af2 a3 af3 a4 af4 a5 af5 a6 af6 a7 af7 a8 af8 a9 af9 a10 af10 alt
  obtain ⟨c0, c1, c2, c3, c4, c5, c6, c7, c8, c9, c10, cf0, cf1, cf2, cf3, cf4, cf5, cf6, cf7, cf8, cf9, cf10, clt⟩ := T1.out
  obtain ⟨d0, d1, d2, d3, d4, d5, d6, d7, d8, d9, d10, df0, df1, df2, df3, df4, df5, df6, df7, df8, df9, df10, dlt⟩ := X1.out
  go_wp2_with fail
  all_goals
    rw [fold_put]
    refine post_put (x0 := Iv.zero) (b := w.heap.size) (w := w) ?_ ?_ (Nat.le_succ _) ?_
    · exact T1.out
    · exact D1.out
    · intro W Z ZB
      clear c0 cf0 c1 cf1 c2 cf2 c3 cf3 c4 cf4 c5 cf5 c6 cf6 c7 cf7 c8 cf8 c9 cf9 c10 cf10 clt d0 df0 d1 df1 d2 df2 d3 df3 d4 df4 d5 df5 d6 df6 d7 df7 d8 df8 d9 df9 d10 df10 dlt
      obtain ⟨z0, z1, z2, z3, z4, z5, z6, z7, z8, z9, z10, -, -, -, -, -, -, -, -, -, -, -, -⟩ := Z
      refine bodyPost_ret (by simp [results, Tryd.results8, go_sem, z0, z1, z2, z3, z4, z5, z6, z7, z8, z9, z10]; try rfl) rfl ?_
      exact ⟨rfl, ZB⟩

set_option maxRecDepth 100000 in
set_option maxHeartbeats 1600000 in
theorem rCredit_arg (x : Iv) (n : Int) (w : World) (h : x.Ok) (hn : n < 1) :
    Calls Tryd.prog 8 #[x.val, .int .i64 n] w fun e w' => e = .returned (.tuple #[Iv.zero.val, .int .i64 0, .int .i64 2]) ∧ Below w.heap.size w w' := by
  have ko := Lib.hid (fun w => ropen_yes x w h)
  have HT := Lib.hid (Bx.two x w)
  clear h
  obtain ⟨a0, a1, a2, a3, a4, a5, a6, a7, a8, a9, a10, af0, af1, af2, af3, af4, af5, af6, af7, af8, af9, af10, alt⟩ := HT.out.1
  go_enter Tryd.func8, Tryd.ntmps8
  unfold Iv.val
  go_wp2_with fail
  refine (ko.out _).mono ?_
  rintro e w1 ⟨rfl, b1⟩
  have D1 := Lib.hid (then_below HT.out.2.2 b1)
  have T1 := Lib.hid (HT.out.2.1.later b1)
  have X1 := Lib.hid (HT.out.1.later b1)
  clear b1 a0 af0 a1 af1 a2 af2 a3 af3 a4 af4 a5 af5 a6 af6 a7 af7 a8 af8 a9 af9 a10 af10 alt
  obtain ⟨c0, c1, c2, c3, c4, c5, c6, c7, c8, c9, c10, cf0, cf1, cf2, cf3, cf4, cf5, cf6, cf7, cf8, cf9, cf10, clt⟩ := T1.out
  obtain ⟨d0, d1, d2, d3, d4, d5, d6, d7, d8, d9, d10, df0, df1, df2, df3, df4, df5, df6, df7, df8, df9, df10, dlt⟩ := X1.out
  go_wp2_with fail
  all_goals
    rw [fold_put]
    refine post_put (x0 := Iv.zero) (b := w.heap.size) (w := w) ?_ ?_ (Nat.le_succ _) ?_
    · exact T1.out
    · exact D1.out
    · intro W Z ZB
      clear c0 cf0 c1 cf1 c2 cf2 c3 cf3 c4 cf4 c5 cf5 c6 cf6 c7 cf7 c8 cf8 c9 cf9 c10 cf10 clt d0 df0 d1 df1 d2 df2 d3 df3 d4 df4 d5 df5 d6 df6 d7 df7 d8 df8 d9 df9 d10 df10 dlt
      obtain ⟨z0, z1, z2, z3, z4, z5, z6, z7, z8, z9, z10, -, -, -, -, -, -, -, -, -, -, -, -⟩ := Z
      refine bodyPost_ret (by simp [results, Tryd.results8, go_sem, z0, z1, z2, z3, z4, z5, z6, z7, z8, z9, z10]; try rfl) rfl ?_
      exact ⟨rfl, ZB⟩

set_option maxRecDepth 100000 in
set_option maxHeartbeats 1600000 in
theorem rCredit_state (x : Iv) (n : Int) (w : World) (h : x.Ok) (hn : 1 ≤ n) (hc : x.left + x.paid < n) :
    Calls Tryd.prog 8 #[x.val, .int .i64 n] w fun e w' => e = .returned (.tuple #[Iv.zero.val, .int .i64 0, .int .i64 9]) ∧ Below w.heap.size w w' := by
  have ko := Lib.hid (fun w => ropen_yes x w h)
  have HT := Lib.hid (Bx.two x w)
  have l0 := h.left0
  have l1 : x.left < 4611686018427387904 := by have := h.left; have := h.amt; have := h.cred; have := h.paid; have := h.lost; omega
  have p0 : 0 ≤ x.paid := h.paid
  have p1 : x.left + x.paid < 4611686018427387904 := by have := h.left; have := h.amt; have := h.cred; have := h.lost; omega
  have c0' : 0 ≤ x.cred := h.cred
  have c1' : x.left + x.paid + x.cred < 4611686018427387904 := by have := h.left; have := h.amt; have := h.lost; omega
  have s0 : 0 ≤ x.lost := h.lost
  have s1 : x.left + x.lost < 4611686018427387904 := by have := h.left; have := h.amt; have := h.cred; have := h.paid; omega
  have w0 : -9223372036854775808 ≤ x.left + x.paid ∧ x.left + x.paid ≤ 9223372036854775807 := by omega
  obtain ⟨w0a, w0b⟩ := w0
  have hn' : ¬ n < 1 := by omega
  clear h l0 l1 p0 p1 c0' c1' s0 s1
  obtain ⟨a0, a1, a2, a3, a4, a5, a6, a7, a8, a9, a10, af0, af1, af2, af3, af4, af5, af6, af7, af8, af9, af10, alt⟩ := HT.out.1
  go_enter Tryd.func8, Tryd.ntmps8
  unfold Iv.val
  go_wp2_with fail
  refine (ko.out _).mono ?_
  rintro e w1 ⟨rfl, b1⟩
  have D1 := Lib.hid (then_below HT.out.2.2 b1)
  have T1 := Lib.hid (HT.out.2.1.later b1)
  have X1 := Lib.hid (HT.out.1.later b1)
  clear b1 a0 af0 a1 af1 a2 af2 a3 af3 a4 af4 a5 af5 a6 af6 a7 af7 a8 af8 a9 af9 a10 af10 alt
  obtain ⟨c0, c1, c2, c3, c4, c5, c6, c7, c8, c9, c10, cf0, cf1, cf2, cf3, cf4, cf5, cf6, cf7, cf8, cf9, cf10, clt⟩ := T1.out
  obtain ⟨d0, d1, d2, d3, d4, d5, d6, d7, d8, d9, d10, df0, df1, df2, df3, df4, df5, df6, df7, df8, df9, df10, dlt⟩ := X1.out
  go_wp2_with fail
  all_goals
    rw [fold_put]
    refine post_put (x0 := Iv.zero) (b := w.heap.size) (w := w) ?_ ?_ (Nat.le_succ _) ?_
    · exact T1.out
    · exact D1.out
    · intro W Z ZB
      clear c0 cf0 c1 cf1 c2 cf2 c3 cf3 c4 cf4 c5 cf5 c6 cf6 c7 cf7 c8 cf8 c9 cf9 c10 cf10 clt d0 df0 d1 df1 d2 df2 d3 df3 d4 df4 d5 df5 d6 df6 d7 df7 d8 df8 d9 df9 d10 df10 dlt
      obtain ⟨z0, z1, z2, z3, z4, z5, z6, z7, z8, z9, z10, -, -, -, -, -, -, -, -, -, -, -, -⟩ := Z
      refine bodyPost_ret (by simp [results, Tryd.results8, go_sem, z0, z1, z2, z3, z4, z5, z6, z7, z8, z9, z10]; try rfl) rfl ?_
      exact ⟨rfl, ZB⟩

set_option maxRecDepth 100000 in
set_option maxHeartbeats 1600000 in
theorem rCredit_ok (x : Iv) (n : Int) (w : World) (h : x.Ok) (hn : 1 ≤ n) (hc : n ≤ x.left + x.paid) :
    Calls Tryd.prog 8 #[x.val, .int .i64 n] w fun e w' => e = .returned (.tuple #[(x.credit n).val, .int .i64 (x.over n), .int .i64 0]) ∧ Below w.heap.size w w' := by
  have ko := Lib.hid (fun w => ropen_yes x w h)
  have HT := Lib.hid (Bx.two x w)
  have l0 := h.left0
  have l1 : x.left < 4611686018427387904 := by have := h.left; have := h.amt; have := h.cred; have := h.paid; have := h.lost; omega
  have p0 : 0 ≤ x.paid := h.paid
  have p1 : x.left + x.paid < 4611686018427387904 := by have := h.left; have := h.amt; have := h.cred; have := h.lost; omega
  have c0' : 0 ≤ x.cred := h.cred
  have c1' : x.left + x.paid + x.cred < 4611686018427387904 := by have := h.left; have := h.amt; have := h.lost; omega
  have s0 : 0 ≤ x.lost := h.lost
  have s1 : x.left + x.lost < 4611686018427387904 := by have := h.left; have := h.amt; have := h.cred; have := h.paid; omega
  have w0 : -9223372036854775808 ≤ x.left + x.paid ∧ x.left + x.paid ≤ 9223372036854775807 := by omega
  obtain ⟨w0a, w0b⟩ := w0
  have w1 : -9223372036854775808 ≤ n - x.left ∧ n - x.left ≤ 9223372036854775807 := by omega
  obtain ⟨w1a, w1b⟩ := w1
  have w2 : -9223372036854775808 ≤ x.cred + n ∧ x.cred + n ≤ 9223372036854775807 := by omega
  obtain ⟨w2a, w2b⟩ := w2
  have w3 : -9223372036854775808 ≤ x.paid ∧ x.paid ≤ 9223372036854775807 := by omega
  obtain ⟨w3a, w3b⟩ := w3
  have w4 : -9223372036854775808 ≤ x.paid - (n - x.left) ∧ x.paid - (n - x.left) ≤ 9223372036854775807 := by omega
  obtain ⟨w4a, w4b⟩ := w4
  have hn' : ¬ n < 1 := by omega
  clear h l0 l1 p0 p1 c0' c1' s0 s1
  obtain ⟨a0, a1, a2, a3, a4, a5, a6, a7, a8, a9, a10, af0, af1, af2, af3, af4, af5, af6, af7, af8, af9, af10, alt⟩ := HT.out.1
  go_enter Tryd.func8, Tryd.ntmps8
  unfold Iv.val
  go_wp2_with fail
  refine (ko.out _).mono ?_
  rintro e w1 ⟨rfl, b1⟩
  have D1 := Lib.hid (then_below HT.out.2.2 b1)
  have T1 := Lib.hid (HT.out.2.1.later b1)
  have X1 := Lib.hid (HT.out.1.later b1)
  clear b1 a0 af0 a1 af1 a2 af2 a3 af3 a4 af4 a5 af5 a6 af6 a7 af7 a8 af8 a9 af9 a10 af10 alt
  obtain ⟨c0, c1, c2, c3, c4, c5, c6, c7, c8, c9, c10, cf0, cf1, cf2, cf3, cf4, cf5, cf6, cf7, cf8, cf9, cf10, clt⟩ := T1.out
  obtain ⟨d0, d1, d2, d3, d4, d5, d6, d7, d8, d9, d10, df0, df1, df2, df3, df4, df5, df6, df7, df8, df9, df10, dlt⟩ := X1.out
  go_wp2_with fail
  all_goals
    rw [fold_put]
    refine post_put (x0 := Iv.zero) (b := w.heap.size) (w := w) ?_ ?_ (Nat.le_succ _) ?_
    · constructor <;> simp [World.cell?_setCell_far, c0, c1, c2, c3, c4, c5, c6, c7, c8, c9, c10, cf0, cf1, cf2, cf3, cf4, cf5, cf6, cf7, cf8, cf9, cf10]
      omega
    · exact ((D1.out.setCell (p := ⟨w.heap.size, 8, none⟩) (Nat.le_refl _) _).setCell (p := ⟨w.heap.size, 9, none⟩) (Nat.le_refl _) _)
    · intro W Z ZB
      clear c0 cf0 c1 cf1 c2 cf2 c3 cf3 c4 cf4 c5 cf5 c6 cf6 c7 cf7 c8 cf8 c9 cf9 c10 cf10 clt d0 df0 d1 df1 d2 df2 d3 df3 d4 df4 d5 df5 d6 df6 d7 df7 d8 df8 d9 df9 d10 df10 dlt
      obtain ⟨z0, z1, z2, z3, z4, z5, z6, z7, z8, z9, z10, -, -, -, -, -, -, -, -, -, -, -, -⟩ := Z
      refine bodyPost_ret (by simp [results, Tryd.results8, go_sem, z0, z1, z2, z3, z4, z5, z6, z7, z8, z9, z10]; try rfl) rfl ?_
      refine ⟨?_, ZB⟩
      unfold Iv.credit Iv.over Iv.cells
      split <;> simp <;> omega

def Iv.creditR (x : Iv) (n : Int) : Iv × Int × Int := if x.okB = false ∨ n < 1 then (Iv.zero, 0, 2) else if x.left + x.paid < n then (Iv.zero, 0, 9) else (x.credit n, x.over n, 0)
theorem Credit_c (x : Iv) (n : Int) (w : World) (hx : x.Fits) : Calls Tryd.prog 7 #[x.val, .int .i64 n] w fun e w' => e = .returned (.tuple #[(x.creditR n).1.val, .int .i64 (x.creditR n).2.1, .int .i64 (x.creditR n).2.2]) ∧ Below w.heap.size w w' := by
  unfold Iv.creditR
  by_cases ha : x.okB = false ∨ n < 1
  · rw [if_pos ha]
    exact Credit_err x n 2 w (by omega) fun w => some_no x n _ w hx ha
  · rw [if_neg ha]
    have hk : x.okB = true := by cases h : x.okB with | true => rfl | false => exact absurd (.inl h) ha
    have h := (okB_iff x).1 hk
    have hn : 1 ≤ n := by omega
    by_cases hc : x.left + x.paid < n
    · rw [if_pos hc]
      exact Credit_err x n 9 w (by omega) fun w => (some_openOrPaid x n w hx h hn).mono fun e w' ⟨a, b⟩ => ⟨by rw [a, if_pos hc], b⟩
    · rw [if_neg hc]
      exact Credit_ok x n w hx h (by omega) (by omega) fun w => (some_openOrPaid x n w hx h hn).mono fun e w' ⟨a, b⟩ => ⟨by rw [a, if_neg hc], b⟩

theorem rCredit_c (x : Iv) (n : Int) (w : World) (hx : x.Fits) : Calls Tryd.prog 8 #[x.val, .int .i64 n] w fun e w' => e = .returned (.tuple #[(x.creditR n).1.val, .int .i64 (x.creditR n).2.1, .int .i64 (x.creditR n).2.2]) ∧ Below w.heap.size w w' := by
  unfold Iv.creditR
  by_cases ha : x.okB = false ∨ n < 1
  · rw [if_pos ha]
    cases hk : x.okB with
    | false => exact rCredit_no x n w hx hk
    | true => exact rCredit_arg x n w ((okB_iff x).1 hk) (by rcases ha with h | h; (rw [hk] at h; cases h); exact h)
  · rw [if_neg ha]
    have hk : x.okB = true := by cases h : x.okB with | true => rfl | false => exact absurd (.inl h) ha
    have h := (okB_iff x).1 hk
    have hn : 1 ≤ n := by omega
    by_cases hc : x.left + x.paid < n
    · rw [if_pos hc]
      exact rCredit_state x n w h hn hc
    · rw [if_neg hc]
      exact rCredit_ok x n w h hn (by omega)

set_option maxRecDepth 100000 in
set_option maxHeartbeats 1600000 in
theorem rPay_no (x : Iv) (n : Int) (w : World) (hx : x.Fits) (h : x.okB = false) :
    Calls Tryd.prog 10 #[x.val, .int .i64 n] w fun e w' => e = .returned (.tuple #[Iv.zero.val, .int .i64 2]) ∧ Below w.heap.size w w' := by
  have ko := Lib.hid (fun w => ropen_no x w hx h)
  have HT := Lib.hid (Bx.two x w)
  clear hx h
  obtain ⟨a0, a1, a2, a3, a4, a5, a6, a7, a8, a9, a10, af0, af1, af2, af3, af4, af5, af6, af7, af8, af9, af10, alt⟩ := HT.out.1
  go_enter Tryd.func10, Tryd.ntmps10
  unfold Iv.val
  go_wp2_with fail
  refine (ko.out _).mono ?_
  rintro e w1 ⟨rfl, b1⟩
  have D1 := Lib.hid (then_below HT.out.2.2 b1)
  have T1 := Lib.hid (HT.out.2.1.later b1)
  have X1 := Lib.hid (HT.out.1.later b1)
  clear b1 a0 af0 a1 af1 a2 af2 a3 af3 a4 af4 a5 af5 a6 af6 a7 af7 a8 af8 a9 af9 a10 af10 alt
  obtain ⟨c0, c1, c2, c3, c4, c5, c6, c7, c8, c9, c10, cf0, cf1, cf2, cf3, cf4, cf5, cf6, cf7, cf8, cf9, cf10, clt⟩ := T1.out
  obtain ⟨d0, d1, d2, d3, d4, d5, d6, d7, d8, d9, d10, df0, df1, df2, df3, df4, df5, df6, df7, df8, df9, df10, dlt⟩ := X1.out
  go_wp2_with fail
  all_goals
    rw [fold_put]
    refine post_put (x0 := Iv.zero) (b := w.heap.size) (w := w) ?_ ?_ (Nat.le_succ _) ?_
    · exact T1.out
    · exact D1.out
    · intro W Z ZB
      clear c0 cf0 c1 cf1 c2 cf2 c3 cf3 c4 cf4 c5 cf5 c6 cf6 c7 cf7 c8 cf8 c9 cf9 c10 cf10 clt d0 df0 d1 df1 d2 df2 d3 df3 d4 df4 d5 df5 d6 df6 d7 df7 d8 df8 d9 df9 d10 df10 dlt
      obtain ⟨z0, z1, z2, z3, z4, z5, z6, z7, z8, z9, z10, -, -, -, -, -, -, -, -, -, -, -, -⟩ := Z
      refine bodyPost_ret (by simp [results, Tryd.results10, go_sem, z0, z1, z2, z3, z4, z5, z6, z7, z8, z9, z10]; try rfl) rfl ?_
      exact ⟨rfl, ZB⟩

set_option maxRecDepth 100000 in
set_option maxHeartbeats 1600000 in
theorem rPay_arg (x : Iv) (n : Int) (w : World) (h : x.Ok) (hn : n < 1) :
    Calls Tryd.prog 10 #[x.val, .int .i64 n] w fun e w' => e = .returned (.tuple #[Iv.zero.val, .int .i64 2]) ∧ Below w.heap.size w w' := by
  have ko := Lib.hid (fun w => ropen_yes x w h)
  have HT := Lib.hid (Bx.two x w)
  clear h
  obtain ⟨a0, a1, a2, a3, a4, a5, a6, a7, a8, a9, a10, af0, af1, af2, af3, af4, af5, af6, af7, af8, af9, af10, alt⟩ := HT.out.1
  go_enter Tryd.func10, Tryd.ntmps10
  unfold Iv.val
  go_wp2_with fail
  refine (ko.out _).mono ?_
  rintro e w1 ⟨rfl, b1⟩
  have D1 := Lib.hid (then_below HT.out.2.2 b1)
  have T1 := Lib.hid (HT.out.2.1.later b1)
  have X1 := Lib.hid (HT.out.1.later b1)
  clear b1 a0 af0 a1 af1 a2 af2 a3 af3 a4 af4 a5 af5 a6 af6 a7 af7 a8 af8 a9 af9 a10 af10 alt
  obtain ⟨c0, c1, c2, c3, c4, c5, c6, c7, c8, c9, c10, cf0, cf1, cf2, cf3, cf4, cf5, cf6, cf7, cf8, cf9, cf10, clt⟩ := T1.out
  obtain ⟨d0, d1, d2, d3, d4, d5, d6, d7, d8, d9, d10, df0, df1, df2, df3, df4, df5, df6, df7, df8, df9, df10, dlt⟩ := X1.out
  go_wp2_with fail
  all_goals
    rw [fold_put]
    refine post_put (x0 := Iv.zero) (b := w.heap.size) (w := w) ?_ ?_ (Nat.le_succ _) ?_
    · exact T1.out
    · exact D1.out
    · intro W Z ZB
      clear c0 cf0 c1 cf1 c2 cf2 c3 cf3 c4 cf4 c5 cf5 c6 cf6 c7 cf7 c8 cf8 c9 cf9 c10 cf10 clt d0 df0 d1 df1 d2 df2 d3 df3 d4 df4 d5 df5 d6 df6 d7 df7 d8 df8 d9 df9 d10 df10 dlt
      obtain ⟨z0, z1, z2, z3, z4, z5, z6, z7, z8, z9, z10, -, -, -, -, -, -, -, -, -, -, -, -⟩ := Z
      refine bodyPost_ret (by simp [results, Tryd.results10, go_sem, z0, z1, z2, z3, z4, z5, z6, z7, z8, z9, z10]; try rfl) rfl ?_
      exact ⟨rfl, ZB⟩

set_option maxRecDepth 100000 in
set_option maxHeartbeats 1600000 in
theorem rPay_state (x : Iv) (n : Int) (w : World) (h : x.Ok) (hn : 1 ≤ n) (hc : x.left < n) :
    Calls Tryd.prog 10 #[x.val, .int .i64 n] w fun e w' => e = .returned (.tuple #[Iv.zero.val, .int .i64 9]) ∧ Below w.heap.size w w' := by
  have ko := Lib.hid (fun w => ropen_yes x w h)
  have HT := Lib.hid (Bx.two x w)
  have l0 := h.left0
  have l1 : x.left < 4611686018427387904 := by have := h.left; have := h.amt; have := h.cred; have := h.paid; have := h.lost; omega
  have p0 : 0 ≤ x.paid := h.paid
  have p1 : x.left + x.paid < 4611686018427387904 := by have := h.left; have := h.amt; have := h.cred; have := h.lost; omega
  have c0' : 0 ≤ x.cred := h.cred
  have c1' : x.left + x.paid + x.cred < 4611686018427387904 := by have := h.left; have := h.amt; have := h.lost; omega
  have s0 : 0 ≤ x.lost := h.lost
  have s1 : x.left + x.lost < 4611686018427387904 := by have := h.left; have := h.amt; have := h.cred; have := h.paid; omega
  have hn' : ¬ n < 1 := by omega
  clear h l0 l1 p0 p1 c0' c1' s0 s1
  obtain ⟨a0, a1, a2, a3, a4, a5, a6, a7, a8, a9, a10, af0, af1, af2, af3, af4, af5, af6, af7, af8, af9, af10, alt⟩ := HT.out.1
  go_enter Tryd.func10, Tryd.ntmps10
  unfold Iv.val
  go_wp2_with fail
  refine (ko.out _).mono ?_
  rintro e w1 ⟨rfl, b1⟩
  have D1 := Lib.hid (then_below HT.out.2.2 b1)
  have T1 := Lib.hid (HT.out.2.1.later b1)
  have X1 := Lib.hid (HT.out.1.later b1)
  clear b1 a0 af0 a1 af1 a2 af2 a3 af3 a4 af4 a5 af5 a6 af6 a7 af7 a8 af8 a9 af9 a10 af10 alt
  obtain ⟨c0, c1, c2, c3, c4, c5, c6, c7, c8, c9, c10, cf0, cf1, cf2, cf3, cf4, cf5, cf6, cf7, cf8, cf9, cf10, clt⟩ := T1.out
  obtain ⟨d0, d1, d2, d3, d4, d5, d6, d7, d8, d9, d10, df0, df1, df2, df3, df4, df5, df6, df7, df8, df9, df10, dlt⟩ := X1.out
  go_wp2_with fail
  all_goals
    rw [fold_put]
    refine post_put (x0 := Iv.zero) (b := w.heap.size) (w := w) ?_ ?_ (Nat.le_succ _) ?_
    · exact T1.out
    · exact D1.out
    · intro W Z ZB
      clear c0 cf0 c1 cf1 c2 cf2 c3 cf3 c4 cf4 c5 cf5 c6 cf6 c7 cf7 c8 cf8 c9 cf9 c10 cf10 clt d0 df0 d1 df1 d2 df2 d3 df3 d4 df4 d5 df5 d6 df6 d7 df7 d8 df8 d9 df9 d10 df10 dlt
      obtain ⟨z0, z1, z2, z3, z4, z5, z6, z7, z8, z9, z10, -, -, -, -, -, -, -, -, -, -, -, -⟩ := Z
      refine bodyPost_ret (by simp [results, Tryd.results10, go_sem, z0, z1, z2, z3, z4, z5, z6, z7, z8, z9, z10]; try rfl) rfl ?_
      exact ⟨rfl, ZB⟩

set_option maxRecDepth 100000 in
set_option maxHeartbeats 1600000 in
theorem rPay_ok (x : Iv) (n : Int) (w : World) (h : x.Ok) (hn : 1 ≤ n) (hc : n ≤ x.left) :
    Calls Tryd.prog 10 #[x.val, .int .i64 n] w fun e w' => e = .returned (.tuple #[(x.pay n).val, .int .i64 0]) ∧ Below w.heap.size w w' := by
  have ko := Lib.hid (fun w => ropen_yes x w h)
  have HT := Lib.hid (Bx.two x w)
  have l0 := h.left0
  have l1 : x.left < 4611686018427387904 := by have := h.left; have := h.amt; have := h.cred; have := h.paid; have := h.lost; omega
  have p0 : 0 ≤ x.paid := h.paid
  have p1 : x.left + x.paid < 4611686018427387904 := by have := h.left; have := h.amt; have := h.cred; have := h.lost; omega
  have c0' : 0 ≤ x.cred := h.cred
  have c1' : x.left + x.paid + x.cred < 4611686018427387904 := by have := h.left; have := h.amt; have := h.lost; omega
  have s0 : 0 ≤ x.lost := h.lost
  have s1 : x.left + x.lost < 4611686018427387904 := by have := h.left; have := h.amt; have := h.cred; have := h.paid; omega
  have w0 : -9223372036854775808 ≤ x.paid + n ∧ x.paid + n ≤ 9223372036854775807 := by omega
  obtain ⟨w0a, w0b⟩ := w0
  have hn' : ¬ n < 1 := by omega
  clear h l0 l1 p0 p1 c0' c1' s0 s1
  obtain ⟨a0, a1, a2, a3, a4, a5, a6, a7, a8, a9, a10, af0, af1, af2, af3, af4, af5, af6, af7, af8, af9, af10, alt⟩ := HT.out.1
  go_enter Tryd.func10, Tryd.ntmps10
  unfold Iv.val
  go_wp2_with fail
  refine (ko.out _).mono ?_
  rintro e w1 ⟨rfl, b1⟩
  have D1 := Lib.hid (then_below HT.out.2.2 b1)
  have T1 := Lib.hid (HT.out.2.1.later b1)
  have X1 := Lib.hid (HT.out.1.later b1)
  clear b1 a0 af0 a1 af1 a2 af2 a3 af3 a4 af4 a5 af5 a6 af6 a7 af7 a8 af8 a9 af9 a10 af10 alt
  obtain ⟨c0, c1, c2, c3, c4, c5, c6, c7, c8, c9, c10, cf0, cf1, cf2, cf3, cf4, cf5, cf6, cf7, cf8, cf9, cf10, clt⟩ := T1.out
  obtain ⟨d0, d1, d2, d3, d4, d5, d6, d7, d8, d9, d10, df0, df1, df2, df3, df4, df5, df6, df7, df8, df9, df10, dlt⟩ := X1.out
  go_wp2_with fail
  all_goals
    rw [fold_put]
    refine post_put (x0 := Iv.zero) (b := w.heap.size) (w := w) ?_ ?_ (Nat.le_succ _) ?_
    · constructor <;> simp [World.cell?_setCell_far, c0, c1, c2, c3, c4, c5, c6, c7, c8, c9, c10, cf0, cf1, cf2, cf3, cf4, cf5, cf6, cf7, cf8, cf9, cf10]
      omega
    · exact (D1.out.setCell (p := ⟨w.heap.size, 9, none⟩) (Nat.le_refl _) _)
    · intro W Z ZB
      clear c0 cf0 c1 cf1 c2 cf2 c3 cf3 c4 cf4 c5 cf5 c6 cf6 c7 cf7 c8 cf8 c9 cf9 c10 cf10 clt d0 df0 d1 df1 d2 df2 d3 df3 d4 df4 d5 df5 d6 df6 d7 df7 d8 df8 d9 df9 d10 df10 dlt
      obtain ⟨z0, z1, z2, z3, z4, z5, z6, z7, z8, z9, z10, -, -, -, -, -, -, -, -, -, -, -, -⟩ := Z
      refine bodyPost_ret (by simp [results, Tryd.results10, go_sem, z0, z1, z2, z3, z4, z5, z6, z7, z8, z9, z10]; try rfl) rfl ?_
      exact ⟨rfl, ZB⟩

def Iv.payR (x : Iv) (n : Int) : Iv × Int := if x.okB = false ∨ n < 1 then (Iv.zero, 2) else if x.left < n then (Iv.zero, 9) else (x.pay n, 0)
theorem Pay_c (x : Iv) (n : Int) (w : World) (hx : x.Fits) : Calls Tryd.prog 9 #[x.val, .int .i64 n] w fun e w' => e = .returned (.tuple #[(x.payR n).1.val, .int .i64 (x.payR n).2]) ∧ Below w.heap.size w w' := by
  unfold Iv.payR
  by_cases ha : x.okB = false ∨ n < 1
  · rw [if_pos ha]
    exact Pay_err x n 2 w (by omega) fun w => some_no x n _ w hx ha
  · rw [if_neg ha]
    have hk : x.okB = true := by cases h : x.okB with | true => rfl | false => exact absurd (.inl h) ha
    have h := (okB_iff x).1 hk
    have hn : 1 ≤ n := by omega
    by_cases hc : x.left < n
    · rw [if_pos hc]
      exact Pay_err x n 9 w (by omega) fun w => (some_left x n w hx h hn).mono fun e w' ⟨a, b⟩ => ⟨by rw [a, if_pos hc], b⟩
    · rw [if_neg hc]
      exact Pay_ok x n w (by have := h.paid; omega) (by have := h.left; have := h.amt; have := h.cred; have := h.lost; omega) fun w => (some_left x n w hx h hn).mono fun e w' ⟨a, b⟩ => ⟨by rw [a, if_neg hc], b⟩

theorem rPay_c (x : Iv) (n : Int) (w : World) (hx : x.Fits) : Calls Tryd.prog 10 #[x.val, .int .i64 n] w fun e w' => e = .returned (.tuple #[(x.payR n).1.val, .int .i64 (x.payR n).2]) ∧ Below w.heap.size w w' := by
  unfold Iv.payR
  by_cases ha : x.okB = false ∨ n < 1
  · rw [if_pos ha]
    cases hk : x.okB with
    | false => exact rPay_no x n w hx hk
    | true => exact rPay_arg x n w ((okB_iff x).1 hk) (by rcases ha with h | h; (rw [hk] at h; cases h); exact h)
  · rw [if_neg ha]
    have hk : x.okB = true := by cases h : x.okB with | true => rfl | false => exact absurd (.inl h) ha
    have h := (okB_iff x).1 hk
    have hn : 1 ≤ n := by omega
    by_cases hc : x.left < n
    · rw [if_pos hc]
      exact rPay_state x n w h hn hc
    · rw [if_neg hc]
      exact rPay_ok x n w h hn (by omega)

set_option maxRecDepth 100000 in
set_option maxHeartbeats 1600000 in
theorem rUnpay_no (x : Iv) (n : Int) (w : World) (hx : x.Fits) (h : x.okB = false) :
    Calls Tryd.prog 12 #[x.val, .int .i64 n] w fun e w' => e = .returned (.tuple #[Iv.zero.val, .int .i64 2]) ∧ Below w.heap.size w w' := by
  have ko := Lib.hid (fun w => ropen_no x w hx h)
  have HT := Lib.hid (Bx.two x w)
  clear hx h
  obtain ⟨a0, a1, a2, a3, a4, a5, a6, a7, a8, a9, a10, af0, af1, af2, af3, af4, af5, af6, af7, af8, af9, af10, alt⟩ := HT.out.1
  go_enter Tryd.func12, Tryd.ntmps12
  unfold Iv.val
  go_wp2_with fail
  refine (ko.out _).mono ?_
  rintro e w1 ⟨rfl, b1⟩
  have D1 := Lib.hid (then_below HT.out.2.2 b1)
  have T1 := Lib.hid (HT.out.2.1.later b1)
  have X1 := Lib.hid (HT.out.1.later b1)
  clear b1 a0 af0 a1 af1 a2 af2 a3 af3 a4 af4 a5 af5 a6 af6 a7 af7 a8 af8 a9 af9 a10 af10 alt
  obtain ⟨c0, c1, c2, c3, c4, c5, c6, c7, c8, c9, c10, cf0, cf1, cf2, cf3, cf4, cf5, cf6, cf7, cf8, cf9, cf10, clt⟩ := T1.out
  obtain ⟨d0, d1, d2, d3, d4, d5, d6, d7, d8, d9, d10, df0, df1, df2, df3, df4, df5, df6, df7, df8, df9, df10, dlt⟩ := X1.out
  go_wp2_with fail
  all_goals
    rw [fold_put]
    refine post_put (x0 := Iv.zero) (b := w.heap.size) (w := w) ?_ ?_ (Nat.le_succ _) ?_
    · exact T1.out
    · exact D1.out
    · intro W Z ZB
      clear c0 cf0 c1 cf1 c2 cf2 c3 cf3 c4 cf4 c5 cf5 c6 cf6 c7 cf7 c8 cf8 c9 cf9 c10 cf10 clt d0 df0 d1 df1 d2 df2 d3 df3 d4 df4 d5 df5 d6 df6 d7 df7 d8 df8 d9 df9 d10 df10 dlt
      obtain ⟨z0, z1, z2, z3, z4, z5, z6, z7, z8, z9, z10, -, -, -, -, -, -, -, -, -, -, -, -⟩ := Z
      refine bodyPost_ret (by simp [results, Tryd.results12, go_sem, z0, z1, z2, z3, z4, z5, z6, z7, z8, z9, z10]; try rfl) rfl ?_
      exact ⟨rfl, ZB⟩

set_option maxRecDepth 100000 in
set_option maxHeartbeats 1600000 in
theorem rUnpay_arg (x : Iv) (n : Int) (w : World) (h : x.Ok) (hn : n < 1) :
    Calls Tryd.prog 12 #[x.val, .int .i64 n] w fun e w' => e = .returned (.tuple #[Iv.zero.val, .int .i64 2]) ∧ Below w.heap.size w w' := by
  have ko := Lib.hid (fun w => ropen_yes x w h)
  have HT := Lib.hid (Bx.two x w)
  clear h
  obtain ⟨a0, a1, a2, a3, a4, a5, a6, a7, a8, a9, a10, af0, af1, af2, af3, af4, af5, af6, af7, af8, af9, af10, alt⟩ := HT.out.1
  go_enter Tryd.func12, Tryd.ntmps12
  unfold Iv.val
  go_wp2_with fail
  refine (ko.out _).mono ?_
  rintro e w1 ⟨rfl, b1⟩
  have D1 := Lib.hid (then_below HT.out.2.2 b1)
  have T1 := Lib.hid (HT.out.2.1.later b1)
  have X1 := Lib.hid (HT.out.1.later b1)
  clear b1 a0 af0 a1 af1 a2 af2 a3 af3 a4 af4 a5 af5 a6 af6 a7 af7 a8 af8 a9 af9 a10 af10 alt
  obtain ⟨c0, c1, c2, c3, c4, c5, c6, c7, c8, c9, c10, cf0, cf1, cf2, cf3, cf4, cf5, cf6, cf7, cf8, cf9, cf10, clt⟩ := T1.out
  obtain ⟨d0, d1, d2, d3, d4, d5, d6, d7, d8, d9, d10, df0, df1, df2, df3, df4, df5, df6, df7, df8, df9, df10, dlt⟩ := X1.out
  go_wp2_with fail
  all_goals
    rw [fold_put]
    refine post_put (x0 := Iv.zero) (b := w.heap.size) (w := w) ?_ ?_ (Nat.le_succ _) ?_
    · exact T1.out
    · exact D1.out
    · intro W Z ZB
      clear c0 cf0 c1 cf1 c2 cf2 c3 cf3 c4 cf4 c5 cf5 c6 cf6 c7 cf7 c8 cf8 c9 cf9 c10 cf10 clt d0 df0 d1 df1 d2 df2 d3 df3 d4 df4 d5 df5 d6 df6 d7 df7 d8 df8 d9 df9 d10 df10 dlt
      obtain ⟨z0, z1, z2, z3, z4, z5, z6, z7, z8, z9, z10, -, -, -, -, -, -, -, -, -, -, -, -⟩ := Z
      refine bodyPost_ret (by simp [results, Tryd.results12, go_sem, z0, z1, z2, z3, z4, z5, z6, z7, z8, z9, z10]; try rfl) rfl ?_
      exact ⟨rfl, ZB⟩

set_option maxRecDepth 100000 in
set_option maxHeartbeats 1600000 in
theorem rUnpay_state (x : Iv) (n : Int) (w : World) (h : x.Ok) (hn : 1 ≤ n) (hc : x.paid < n) :
    Calls Tryd.prog 12 #[x.val, .int .i64 n] w fun e w' => e = .returned (.tuple #[Iv.zero.val, .int .i64 9]) ∧ Below w.heap.size w w' := by
  have ko := Lib.hid (fun w => ropen_yes x w h)
  have HT := Lib.hid (Bx.two x w)
  have l0 := h.left0
  have l1 : x.left < 4611686018427387904 := by have := h.left; have := h.amt; have := h.cred; have := h.paid; have := h.lost; omega
  have p0 : 0 ≤ x.paid := h.paid
  have p1 : x.left + x.paid < 4611686018427387904 := by have := h.left; have := h.amt; have := h.cred; have := h.lost; omega
  have c0' : 0 ≤ x.cred := h.cred
  have c1' : x.left + x.paid + x.cred < 4611686018427387904 := by have := h.left; have := h.amt; have := h.lost; omega
  have s0 : 0 ≤ x.lost := h.lost
  have s1 : x.left + x.lost < 4611686018427387904 := by have := h.left; have := h.amt; have := h.cred; have := h.paid; omega
  have hn' : ¬ n < 1 := by omega
  clear h l0 l1 p0 p1 c0' c1' s0 s1
  obtain ⟨a0, a1, a2, a3, a4, a5, a6, a7, a8, a9, a10, af0, af1, af2, af3, af4, af5, af6, af7, af8, af9, af10, alt⟩ := HT.out.1
  go_enter Tryd.func12, Tryd.ntmps12
  unfold Iv.val
  go_wp2_with fail
  refine (ko.out _).mono ?_
  rintro e w1 ⟨rfl, b1⟩
  have D1 := Lib.hid (then_below HT.out.2.2 b1)
  have T1 := Lib.hid (HT.out.2.1.later b1)
  have X1 := Lib.hid (HT.out.1.later b1)
  clear b1 a0 af0 a1 af1 a2 af2 a3 af3 a4 af4 a5 af5 a6 af6 a7 af7 a8 af8 a9 af9 a10 af10 alt
  obtain ⟨c0, c1, c2, c3, c4, c5, c6, c7, c8, c9, c10, cf0, cf1, cf2, cf3, cf4, cf5, cf6, cf7, cf8, cf9, cf10, clt⟩ := T1.out
  obtain ⟨d0, d1, d2, d3, d4, d5, d6, d7, d8, d9, d10, df0, df1, df2, df3, df4, df5, df6, df7, df8, df9, df10, dlt⟩ := X1.out
  go_wp2_with fail
  all_goals
    rw [fold_put]
    refine post_put (x0 := Iv.zero) (b := w.heap.size) (w := w) ?_ ?_ (Nat.le_succ _) ?_
    · exact T1.out
    · exact D1.out
    · intro W Z ZB
      clear c0 cf0 c1 cf1 c2 cf2 c3 cf3 c4 cf4 c5 cf5 c6 cf6 c7 cf7 c8 cf8 c9 cf9 c10 cf10 clt d0 df0 d1 df1 d2 df2 d3 df3 d4 df4 d5 df5 d6 df6 d7 df7 d8 df8 d9 df9 d10 df10 dlt
      obtain ⟨z0, z1, z2, z3, z4, z5, z6, z7, z8, z9, z10, -, -, -, -, -, -, -, -, -, -, -, -⟩ := Z
      refine bodyPost_ret (by simp [results, Tryd.results12, go_sem, z0, z1, z2, z3, z4, z5, z6, z7, z8, z9, z10]; try rfl) rfl ?_
      exact ⟨rfl, ZB⟩

set_option maxRecDepth 100000 in
set_option maxHeartbeats 1600000 in
theorem rUnpay_ok (x : Iv) (n : Int) (w : World) (h : x.Ok) (hn : 1 ≤ n) (hc : n ≤ x.paid) :
    Calls Tryd.prog 12 #[x.val, .int .i64 n] w fun e w' => e = .returned (.tuple #[(x.unpay n).val, .int .i64 0]) ∧ Below w.heap.size w w' := by
  have ko := Lib.hid (fun w => ropen_yes x w h)
  have HT := Lib.hid (Bx.two x w)
  have l0 := h.left0
  have l1 : x.left < 4611686018427387904 := by have := h.left; have := h.amt; have := h.cred; have := h.paid; have := h.lost; omega
  have p0 : 0 ≤ x.paid := h.paid
  have p1 : x.left + x.paid < 4611686018427387904 := by have := h.left; have := h.amt; have := h.cred; have := h.lost; omega
  have c0' : 0 ≤ x.cred := h.cred
  have c1' : x.left + x.paid + x.cred < 4611686018427387904 := by have := h.left; have := h.amt; have := h.lost; omega
  have s0 : 0 ≤ x.lost := h.lost
  have s1 : x.left + x.lost < 4611686018427387904 := by have := h.left; have := h.amt; have := h.cred; have := h.paid; omega
  have w0 : -9223372036854775808 ≤ x.paid - n ∧ x.paid - n ≤ 9223372036854775807 := by omega
  obtain ⟨w0a, w0b⟩ := w0
  have hn' : ¬ n < 1 := by omega
  clear h l0 l1 p0 p1 c0' c1' s0 s1
  obtain ⟨a0, a1, a2, a3, a4, a5, a6, a7, a8, a9, a10, af0, af1, af2, af3, af4, af5, af6, af7, af8, af9, af10, alt⟩ := HT.out.1
  go_enter Tryd.func12, Tryd.ntmps12
  unfold Iv.val
  go_wp2_with fail
  refine (ko.out _).mono ?_
  rintro e w1 ⟨rfl, b1⟩
  have D1 := Lib.hid (then_below HT.out.2.2 b1)
  have T1 := Lib.hid (HT.out.2.1.later b1)
  have X1 := Lib.hid (HT.out.1.later b1)
  clear b1 a0 af0 a1 af1 a2 af2 a3 af3 a4 af4 a5 af5 a6 af6 a7 af7 a8 af8 a9 af9 a10 af10 alt
  obtain ⟨c0, c1, c2, c3, c4, c5, c6, c7, c8, c9, c10, cf0, cf1, cf2, cf3, cf4, cf5, cf6, cf7, cf8, cf9, cf10, clt⟩ := T1.out
  obtain ⟨d0, d1, d2, d3, d4, d5, d6, d7, d8, d9, d10, df0, df1, df2, df3, df4, df5, df6, df7, df8, df9, df10, dlt⟩ := X1.out
  go_wp2_with fail
  all_goals
    rw [fold_put]
    refine post_put (x0 := Iv.zero) (b := w.heap.size) (w := w) ?_ ?_ (Nat.le_succ _) ?_
    · constructor <;> simp [World.cell?_setCell_far, c0, c1, c2, c3, c4, c5, c6, c7, c8, c9, c10, cf0, cf1, cf2, cf3, cf4, cf5, cf6, cf7, cf8, cf9, cf10]
      omega
    · exact (D1.out.setCell (p := ⟨w.heap.size, 9, none⟩) (Nat.le_refl _) _)
    · intro W Z ZB
      clear c0 cf0 c1 cf1 c2 cf2 c3 cf3 c4 cf4 c5 cf5 c6 cf6 c7 cf7 c8 cf8 c9 cf9 c10 cf10 clt d0 df0 d1 df1 d2 df2 d3 df3 d4 df4 d5 df5 d6 df6 d7 df7 d8 df8 d9 df9 d10 df10 dlt
      obtain ⟨z0, z1, z2, z3, z4, z5, z6, z7, z8, z9, z10, -, -, -, -, -, -, -, -, -, -, -, -⟩ := Z
      refine bodyPost_ret (by simp [results, Tryd.results12, go_sem, z0, z1, z2, z3, z4, z5, z6, z7, z8, z9, z10]; try rfl) rfl ?_
      exact ⟨rfl, ZB⟩

def Iv.unpayR (x : Iv) (n : Int) : Iv × Int := if x.okB = false ∨ n < 1 then (Iv.zero, 2) else if x.paid < n then (Iv.zero, 9) else (x.unpay n, 0)
theorem Unpay_c (x : Iv) (n : Int) (w : World) (hx : x.Fits) : Calls Tryd.prog 11 #[x.val, .int .i64 n] w fun e w' => e = .returned (.tuple #[(x.unpayR n).1.val, .int .i64 (x.unpayR n).2]) ∧ Below w.heap.size w w' := by
  unfold Iv.unpayR
  by_cases ha : x.okB = false ∨ n < 1
  · rw [if_pos ha]
    exact Unpay_err x n 2 w (by omega) fun w => some_no x n _ w hx ha
  · rw [if_neg ha]
    have hk : x.okB = true := by cases h : x.okB with | true => rfl | false => exact absurd (.inl h) ha
    have h := (okB_iff x).1 hk
    have hn : 1 ≤ n := by omega
    by_cases hc : x.paid < n
    · rw [if_pos hc]
      exact Unpay_err x n 9 w (by omega) fun w => (some_paid x n w hx h hn).mono fun e w' ⟨a, b⟩ => ⟨by rw [a, if_pos hc], b⟩
    · rw [if_neg hc]
      exact Unpay_ok x n w (by omega) (by have := h.left0; have := h.left; have := h.amt; have := h.cred; have := h.lost; omega) fun w => (some_paid x n w hx h hn).mono fun e w' ⟨a, b⟩ => ⟨by rw [a, if_neg hc], b⟩

theorem rUnpay_c (x : Iv) (n : Int) (w : World) (hx : x.Fits) : Calls Tryd.prog 12 #[x.val, .int .i64 n] w fun e w' => e = .returned (.tuple #[(x.unpayR n).1.val, .int .i64 (x.unpayR n).2]) ∧ Below w.heap.size w w' := by
  unfold Iv.unpayR
  by_cases ha : x.okB = false ∨ n < 1
  · rw [if_pos ha]
    cases hk : x.okB with
    | false => exact rUnpay_no x n w hx hk
    | true => exact rUnpay_arg x n w ((okB_iff x).1 hk) (by rcases ha with h | h; (rw [hk] at h; cases h); exact h)
  · rw [if_neg ha]
    have hk : x.okB = true := by cases h : x.okB with | true => rfl | false => exact absurd (.inl h) ha
    have h := (okB_iff x).1 hk
    have hn : 1 ≤ n := by omega
    by_cases hc : x.paid < n
    · rw [if_pos hc]
      exact rUnpay_state x n w h hn hc
    · rw [if_neg hc]
      exact rUnpay_ok x n w h hn (by omega)

set_option maxRecDepth 100000 in
set_option maxHeartbeats 1600000 in
theorem rLose_no (x : Iv) (w : World) (hx : x.Fits) (h : x.okB = false) :
    Calls Tryd.prog 14 #[x.val] w fun e w' => e = .returned (.tuple #[Iv.zero.val, .int .i64 0, .int .i64 2]) ∧ Below w.heap.size w w' := by
  have ko := Lib.hid (fun w => ropen_no x w hx h)
  have HT := Lib.hid (Bx.two x w)
  clear hx h
  obtain ⟨a0, a1, a2, a3, a4, a5, a6, a7, a8, a9, a10, af0, af1, af2, af3, af4, af5, af6, af7, af8, af9, af10, alt⟩ := HT.out.1
  go_enter Tryd.func14, Tryd.ntmps14
  unfold Iv.val
  go_wp2_with fail
  refine (ko.out _).mono ?_
  rintro e w1 ⟨rfl, b1⟩
  have D1 := Lib.hid (then_below HT.out.2.2 b1)
  have T1 := Lib.hid (HT.out.2.1.later b1)
  have X1 := Lib.hid (HT.out.1.later b1)
  clear b1 a0 af0 a1 af1 a2 af2 a3 af3 a4 af4 a5 af5 a6 af6 a7 af7 a8 af8 a9 af9 a10 af10 alt
  obtain ⟨c0, c1, c2, c3, c4, c5, c6, c7, c8, c9, c10, cf0, cf1, cf2, cf3, cf4, cf5, cf6, cf7, cf8, cf9, cf10, clt⟩ := T1.out
  obtain ⟨d0, d1, d2, d3, d4, d5, d6, d7, d8, d9, d10, df0, df1, df2, df3, df4, df5, df6, df7, df8, df9, df10, dlt⟩ := X1.out
  go_wp2_with fail
  all_goals
    rw [fold_put]
    refine post_put (x0 := Iv.zero) (b := w.heap.size) (w := w) ?_ ?_ (Nat.le_succ _) ?_
    · exact T1.out
    · exact D1.out
    · intro W Z ZB
      clear c0 cf0 c1 cf1 c2 cf2 c3 cf3 c4 cf4 c5 cf5 c6 cf6 c7 cf7 c8 cf8 c9 cf9 c10 cf10 clt d0 df0 d1 df1 d2 df2 d3 df3 d4 df4 d5 df5 d6 df6 d7 df7 d8 df8 d9 df9 d10 df10 dlt
      obtain ⟨z0, z1, z2, z3, z4, z5, z6, z7, z8, z9, z10, -, -, -, -, -, -, -, -, -, -, -, -⟩ := Z
      refine bodyPost_ret (by simp [results, Tryd.results14, go_sem, z0, z1, z2, z3, z4, z5, z6, z7, z8, z9, z10]; try rfl) rfl ?_
      exact ⟨rfl, ZB⟩

set_option maxRecDepth 100000 in
set_option maxHeartbeats 1600000 in
theorem rLose_state (x : Iv) (w : World) (h : x.Ok) (hc : x.left = 0) :
    Calls Tryd.prog 14 #[x.val] w fun e w' => e = .returned (.tuple #[Iv.zero.val, .int .i64 0, .int .i64 9]) ∧ Below w.heap.size w w' := by
  have ko := Lib.hid (fun w => ropen_yes x w h)
  have HT := Lib.hid (Bx.two x w)
  have l0 := h.left0
  have l1 : x.left < 4611686018427387904 := by have := h.left; have := h.amt; have := h.cred; have := h.paid; have := h.lost; omega
  have p0 : 0 ≤ x.paid := h.paid
  have p1 : x.left + x.paid < 4611686018427387904 := by have := h.left; have := h.amt; have := h.cred; have := h.lost; omega
  have c0' : 0 ≤ x.cred := h.cred
  have c1' : x.left + x.paid + x.cred < 4611686018427387904 := by have := h.left; have := h.amt; have := h.lost; omega
  have s0 : 0 ≤ x.lost := h.lost
  have s1 : x.left + x.lost < 4611686018427387904 := by have := h.left; have := h.amt; have := h.cred; have := h.paid; omega
  have hz : (x.left == 0) = true := by simp; exact hc
  clear h l0 l1 p0 p1 c0' c1' s0 s1 hc
  obtain ⟨a0, a1, a2, a3, a4, a5, a6, a7, a8, a9, a10, af0, af1, af2, af3, af4, af5, af6, af7, af8, af9, af10, alt⟩ := HT.out.1
  go_enter Tryd.func14, Tryd.ntmps14
  unfold Iv.val
  go_wp2_with fail
  refine (ko.out _).mono ?_
  rintro e w1 ⟨rfl, b1⟩
  have D1 := Lib.hid (then_below HT.out.2.2 b1)
  have T1 := Lib.hid (HT.out.2.1.later b1)
  have X1 := Lib.hid (HT.out.1.later b1)
  clear b1 a0 af0 a1 af1 a2 af2 a3 af3 a4 af4 a5 af5 a6 af6 a7 af7 a8 af8 a9 af9 a10 af10 alt
  obtain ⟨c0, c1, c2, c3, c4, c5, c6, c7, c8, c9, c10, cf0, cf1, cf2, cf3, cf4, cf5, cf6, cf7, cf8, cf9, cf10, clt⟩ := T1.out
  obtain ⟨d0, d1, d2, d3, d4, d5, d6, d7, d8, d9, d10, df0, df1, df2, df3, df4, df5, df6, df7, df8, df9, df10, dlt⟩ := X1.out
  go_wp2_with fail
  all_goals
    rw [fold_put]
    refine post_put (x0 := Iv.zero) (b := w.heap.size) (w := w) ?_ ?_ (Nat.le_succ _) ?_
    · exact T1.out
    · exact D1.out
    · intro W Z ZB
      clear c0 cf0 c1 cf1 c2 cf2 c3 cf3 c4 cf4 c5 cf5 c6 cf6 c7 cf7 c8 cf8 c9 cf9 c10 cf10 clt d0 df0 d1 df1 d2 df2 d3 df3 d4 df4 d5 df5 d6 df6 d7 df7 d8 df8 d9 df9 d10 df10 dlt
      obtain ⟨z0, z1, z2, z3, z4, z5, z6, z7, z8, z9, z10, -, -, -, -, -, -, -, -, -, -, -, -⟩ := Z
      refine bodyPost_ret (by simp [results, Tryd.results14, go_sem, z0, z1, z2, z3, z4, z5, z6, z7, z8, z9, z10]; try rfl) rfl ?_
      exact ⟨rfl, ZB⟩

set_option maxRecDepth 100000 in
set_option maxHeartbeats 1600000 in
theorem rLose_ok (x : Iv) (w : World) (h : x.Ok) (hc : ¬ x.left = 0) :
    Calls Tryd.prog 14 #[x.val] w fun e w' => e = .returned (.tuple #[x.lose.val, .int .i64 x.left, .int .i64 0]) ∧ Below w.heap.size w w' := by
  have ko := Lib.hid (fun w => ropen_yes x w h)
  have HT := Lib.hid (Bx.two x w)
  have l0 := h.left0
  have l1 : x.left < 4611686018427387904 := by have := h.left; have := h.amt; have := h.cred; have := h.paid; have := h.lost; omega
  have p0 : 0 ≤ x.paid := h.paid
  have p1 : x.left + x.paid < 4611686018427387904 := by have := h.left; have := h.amt; have := h.cred; have := h.lost; omega
  have c0' : 0 ≤ x.cred := h.cred
  have c1' : x.left + x.paid + x.cred < 4611686018427387904 := by have := h.left; have := h.amt; have := h.lost; omega
  have s0 : 0 ≤ x.lost := h.lost
  have s1 : x.left + x.lost < 4611686018427387904 := by have := h.left; have := h.amt; have := h.cred; have := h.paid; omega
  have w0 : -9223372036854775808 ≤ x.lost + x.left ∧ x.lost + x.left ≤ 9223372036854775807 := by omega
  obtain ⟨w0a, w0b⟩ := w0
  have hz : (x.left == 0) = false := by simp; exact hc
  clear h l0 l1 p0 p1 c0' c1' s0 s1 hc
  obtain ⟨a0, a1, a2, a3, a4, a5, a6, a7, a8, a9, a10, af0, af1, af2, af3, af4, af5, af6, af7, af8, af9, af10, alt⟩ := HT.out.1
  go_enter Tryd.func14, Tryd.ntmps14
  unfold Iv.val
  go_wp2_with fail
  refine (ko.out _).mono ?_
  rintro e w1 ⟨rfl, b1⟩
  have D1 := Lib.hid (then_below HT.out.2.2 b1)
  have T1 := Lib.hid (HT.out.2.1.later b1)
  have X1 := Lib.hid (HT.out.1.later b1)
  clear b1 a0 af0 a1 af1 a2 af2 a3 af3 a4 af4 a5 af5 a6 af6 a7 af7 a8 af8 a9 af9 a10 af10 alt
  obtain ⟨c0, c1, c2, c3, c4, c5, c6, c7, c8, c9, c10, cf0, cf1, cf2, cf3, cf4, cf5, cf6, cf7, cf8, cf9, cf10, clt⟩ := T1.out
  obtain ⟨d0, d1, d2, d3, d4, d5, d6, d7, d8, d9, d10, df0, df1, df2, df3, df4, df5, df6, df7, df8, df9, df10, dlt⟩ := X1.out
  go_wp2_with fail
  all_goals
    rw [fold_put]
    refine post_put (x0 := Iv.zero) (b := w.heap.size) (w := w) ?_ ?_ (Nat.le_succ _) ?_
    · constructor <;> simp [World.cell?_setCell_far, c0, c1, c2, c3, c4, c5, c6, c7, c8, c9, c10, cf0, cf1, cf2, cf3, cf4, cf5, cf6, cf7, cf8, cf9, cf10]
      omega
    · exact (D1.out.setCell (p := ⟨w.heap.size, 10, none⟩) (Nat.le_refl _) _)
    · intro W Z ZB
      clear c0 cf0 c1 cf1 c2 cf2 c3 cf3 c4 cf4 c5 cf5 c6 cf6 c7 cf7 c8 cf8 c9 cf9 c10 cf10 clt d0 df0 d1 df1 d2 df2 d3 df3 d4 df4 d5 df5 d6 df6 d7 df7 d8 df8 d9 df9 d10 df10 dlt
      obtain ⟨z0, z1, z2, z3, z4, z5, z6, z7, z8, z9, z10, -, -, -, -, -, -, -, -, -, -, -, -⟩ := Z
      refine bodyPost_ret (by simp [results, Tryd.results14, go_sem, z0, z1, z2, z3, z4, z5, z6, z7, z8, z9, z10]; try rfl) rfl ?_
      exact ⟨rfl, ZB⟩

def Iv.loseR (x : Iv) : Iv × Int × Int := if x.okB = false then (Iv.zero, 0, 2) else if x.left = 0 then (Iv.zero, 0, 9) else (x.lose, x.left, 0)
theorem Lose_c (x : Iv) (w : World) (hx : x.Fits) : Calls Tryd.prog 13 #[x.val] w fun e w' => e = .returned (.tuple #[(x.loseR).1.val, .int .i64 (x.loseR).2.1, .int .i64 (x.loseR).2.2]) ∧ Below w.heap.size w w' := by
  unfold Iv.loseR
  cases hk : x.okB with
  | false => exact Lose_err x 2 w (by omega) fun w => some_no x 1 _ w hx (.inl hk)
  | true =>
    have h := (okB_iff x).1 hk
    by_cases hc : x.left = 0
    · rw [if_neg (by simp), if_pos hc]; exact Lose_err x 9 w (by omega) fun w => (some_left x 1 w hx h (by omega)).mono fun e w' ⟨a, b⟩ => ⟨by rw [a, if_pos (by omega)], b⟩
    · rw [if_neg (by simp), if_neg hc]; exact Lose_ok x w hx h fun w => (some_left x 1 w hx h (by omega)).mono fun e w' ⟨a, b⟩ => ⟨by rw [a, if_neg (by have := h.left0; omega)], b⟩

theorem rLose_c (x : Iv) (w : World) (hx : x.Fits) : Calls Tryd.prog 14 #[x.val] w fun e w' => e = .returned (.tuple #[(x.loseR).1.val, .int .i64 (x.loseR).2.1, .int .i64 (x.loseR).2.2]) ∧ Below w.heap.size w w' := by
  unfold Iv.loseR
  cases hk : x.okB with
  | false => exact rLose_no x w hx hk
  | true =>
    have h := (okB_iff x).1 hk
    by_cases hc : x.left = 0
    · rw [if_neg (by simp), if_pos hc]; exact rLose_state x w h hc
    · rw [if_neg (by simp), if_neg hc]; exact rLose_ok x w h hc
end Go.Proofs.YtaidijbjpogpeaaDoor.Inv
