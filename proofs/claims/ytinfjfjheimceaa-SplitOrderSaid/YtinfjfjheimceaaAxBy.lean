/- The contract of package arith's division of 128 bits by a number. -/
import Derived.Test.YtinfjfjheimceaaAxWalks
import Derived.Test.YtinfjfjheimceaaArMath2
import Derived.RegionTactic
import Derived.Lib.Zigzag
import Derived.ChangeAlike
namespace Go.Proofs.Ytinfjfjheimceaa
open Go.RowKit

set_option maxHeartbeats 400000 in
theorem by_low (l c : Int) (w : World) (l0 : 0 ≤ l) (l1 : l < 18446744073709551616) (c0 : 1 ≤ c) (c1 : c < 9223372036854775808) :
    Calls Try.prog 29 #[.agg #[.int .u64 0, .int .u64 l], .int .u64 c] w fun e w' =>
      e = .returned (.tuple #[.agg #[.int .u64 0, .int .u64 (l / c)], .int .u64 (l % c)]) ∧ Below w.heap.size w w' := by
  go_enter Try.func29, Try.ntmps29
  go_wp2
  go_region
  all_goals go_wp2
  all_goals exact bodyPost_ret (v := .tuple #[.agg #[.int .u64 0, .int .u64 (l / c)], .int .u64 (l % c)]) (by simp [results, Try.results29, go_sem]) rfl ⟨rfl, by repeat (first | exact Below.refl _ _ | refine Below.drew ?_ | refine Below.alloc ?_ (by simp) _)⟩

theorem inv_start' (h l c : Int) (c0 : 1 ≤ c) (l0 : 0 ≤ l) (l1 : l < 18446744073709551616) : Ar.Inv h l c ((63 : Int) + 1).toNat 0 (h % c) := Ar.inv_start h l c c0 l0 l1
set_option maxHeartbeats 800000 in
theorem by_high (h l c : Int) (w : World) (h0 : 1 ≤ h) (h1 : h < 18446744073709551616) (l0 : 0 ≤ l) (l1 : l < 18446744073709551616) (c0 : 1 ≤ c) (c1 : c < 9223372036854775808) :
    Calls Try.prog 29 #[.agg #[.int .u64 h, .int .u64 l], .int .u64 c] w fun e w' =>
      e = .returned (.tuple #[.agg #[.int .u64 ((h * 18446744073709551616 + l) / c / 18446744073709551616), .int .u64 ((h * 18446744073709551616 + l) / c % 18446744073709551616)], .int .u64 ((h * 18446744073709551616 + l) % c)]) ∧ Below w.heap.size w w' := by
  go_enter Try.func29, Try.ntmps29
  go_wp2
  go_region
  go_wp2
  have hs0 := inv_start' h l c c0 l0 l1
  go_loopw [5, 6] (fun s5 s6 wr => ∃ (i r Q : Int), -1 ≤ i ∧ i ≤ 63 ∧ s6 = .int .i64 i ∧ s5 = .int .u64 r ∧ Ar.Inv h l c (i + 1).toNat Q r ∧
      wr.cell? ⟨w.heap.size, 1, none⟩ = some (.int .u64 l) ∧ wr.cell? ⟨w.heap.size + 1, 0, none⟩ = some (.int .u64 (h / c)) ∧ wr.cell? ⟨w.heap.size + 1, 1, none⟩ = some (.int .u64 (Q * 2 ^ (i + 1).toNat)) ∧
      wr.frozen? ⟨w.heap.size + 1, 0, none⟩ = false ∧ wr.frozen? ⟨w.heap.size + 1, 1, none⟩ = false ∧ w.heap.size + 1 < wr.heap.size ∧ Below w.heap.size w wr) (fun _ s6 _ => (intOf s6 + 1).toNat)
  case atStart => exact ⟨63, h % c, 0, by omega, by omega, rfl, rfl, hs0, by simp [go_sem], by simp [go_sem], by simp [go_sem], by simp [go_sem], by simp [go_sem], by simp, by repeat (first | exact Below.refl _ _ | refine Below.drew ?_ | refine Below.alloc ?_ (by simp) _)⟩
  case round =>
    obtain ⟨i, r, Q, i1, i2, rfl, rfl, HI, f1, f2, f3, f4, f5, f6, hb⟩ := hrel
    clear hs0
    by_cases hi : 0 ≤ i
    · obtain ⟨k, rfl⟩ := Int.eq_ofNat_of_zero_le hi
      obtain ⟨q0, q1, q2, q3, q4, q5, q6⟩ := Ar.inv_bits h l c k Q r (by omega) HI
      obtain ⟨s1, s2⟩ := Ar.inv_step h l c k Q r (by omega) HI
      obtain ⟨_, r0, r1, _, _⟩ := id HI
      have b0 : 0 ≤ l / 2 ^ k := Int.ediv_nonneg l0 (by omega)
      have b1 : l / 2 ^ k < 18446744073709551616 := Int.lt_of_le_of_lt (Int.ediv_le_self _ l0) l1
      have e1 := Lib.u64_and1 (l / 2 ^ k) b0 b1
      have e2 := u64_join 1 (r * 2) (l / 2 ^ k % 2) (by omega) (by omega) (by omega) (by omega) (by omega) (by omega)
      have e3 := u64_join (k + 1) (Q * 2 ^ (k + 1)) (2 ^ k) q0 (by omega) q2 (by omega) q4 (by omega)
      have f3' : wr.cell? ⟨w.heap.size + 1, 1, none⟩ = some (.int .u64 (Q * 2 ^ (k + 1))) := f3
      obtain ⟨bit, hbit⟩ : ∃ bit, bit = l / 2 ^ k % 2 := ⟨_, rfl⟩
      have t0 : 0 ≤ bit := by omega
      have t1 : bit ≤ 1 := by omega
      rw [← hbit] at e1 e2 s1 s2
      clear HI f3 hbit
      have t2 : (0 : Int) ≤ 2 ^ k := by omega
      have t3 : (2 : Int) ^ k < 18446744073709551616 := by omega
      generalize Q * 2 ^ (k + 1) = q at *
      by_cases hc : c ≤ r * 2 + bit
      · have S1 := Lib.hid (s1 (by omega))
        have Q6 := Lib.hid q6
        clear s1 s2 q2 q5 q6
        have hk : ((k : Int) - 1 + 1).toNat = k := by omega
        have HK := Lib.hid hk
        clear hk
        go_wp2
        go_region
        go_wp2
        have hk := HK.out
        exact ⟨⟨(k : Int) - 1, 2 * r + bit - c, 2 * Q + 1, by omega, by omega, rfl, by rw [show r * 2 + bit - c = 2 * r + bit - c by omega], by rw [hk]; exact S1.out, by simp [go_sem, f1], by simp [go_sem, f2], by rw [hk, Q6.out]; simp [go_sem, f3'],
          by simp [go_sem, f4], by simp [go_sem, f5], by simp [go_sem, f6], (hb.setCell (by simp) _).drew⟩, by simp [intOf]⟩
      · have S2 := Lib.hid (s2 (by omega))
        have Q5 := Lib.hid q5
        have hk : ((k : Int) - 1 + 1).toNat = k := by omega
        have HK := Lib.hid hk
        clear s1 s2 q2 q5 q6 e3 hk
        go_wp2
        have hk := HK.out
        exact ⟨⟨(k : Int) - 1, 2 * r + bit, 2 * Q, by omega, by omega, rfl, by rw [show r * 2 + bit = 2 * r + bit by omega], by rw [hk]; exact S2.out, f1, f2, by rw [hk, Q5.out]; exact f3', f4, f5, f6, hb⟩, by simp [intOf]⟩
    · obtain rfl : i = -1 := by omega
      have E := Lib.hid (Ar.inv_end h l c Q r c0 HI)
      have f3' : wr.cell? ⟨w.heap.size + 1, 1, none⟩ = some (.int .u64 Q) := by simpa using f3
      clear f3 HI
      go_wp2
      exact bodyPost_ret (v := .tuple #[.agg #[.int .u64 ((h * 18446744073709551616 + l) / c / 18446744073709551616), .int .u64 ((h * 18446744073709551616 + l) / c % 18446744073709551616)], .int .u64 ((h * 18446744073709551616 + l) % c)])
        (by simp [results, Try.results29, go_sem, f2, f3', E.out.1, E.out.2.1, E.out.2.2]) rfl ⟨rfl, (hb.setCell (by simp) _).setCell (by simp) _⟩

/-- Division by a number that is from 1 on and below 2^63. -/
theorem by_c (h l c : Int) (w : World) (h0 : 0 ≤ h) (h1 : h < 18446744073709551616) (l0 : 0 ≤ l) (l1 : l < 18446744073709551616) (c0 : 1 ≤ c) (c1 : c < 9223372036854775808) :
    Calls Try.prog 29 #[.agg #[.int .u64 h, .int .u64 l], .int .u64 c] w fun e w' =>
      e = .returned (.tuple #[.agg #[.int .u64 ((h * 18446744073709551616 + l) / c / 18446744073709551616), .int .u64 ((h * 18446744073709551616 + l) / c % 18446744073709551616)], .int .u64 ((h * 18446744073709551616 + l) % c)]) ∧ Below w.heap.size w w' := by
  by_cases hh : 1 ≤ h
  · exact by_high h l c w hh h1 l0 l1 c0 c1
  · obtain rfl : h = 0 := by omega
    have d0 : 0 ≤ l / c := Int.ediv_nonneg l0 (by omega)
    have d1 : l / c < 18446744073709551616 := Int.lt_of_le_of_lt (Int.ediv_le_self _ l0) l1
    have := by_low l c w l0 l1 c0 c1
    rwa [show (0 : Int) * 18446744073709551616 + l = l by omega, show l / c / 18446744073709551616 = 0 by omega, show l / c % 18446744073709551616 = l / c by omega]
end Go.Proofs.Ytinfjfjheimceaa
