/- Package tally: its law of sides. -/
import Derived.Test.YtehofpmkplkaaaaTaHead
namespace Go.Proofs.Ytehofpmkplkaaaa.Tal
open Go.RowKit
theorem num_part (n k : Nat) (h : k < (Ta.num n).length) : ((Ta.num n)[k].toNat < 128) ↔ k + 1 = (Ta.num n).length := by
  have hl : (Ta.num n).length = (Ta.up (n / 128)).length + 1 := by simp [Ta.num]
  by_cases hk : k < (Ta.up (n / 128)).length
  · have h1 : (Ta.num n)[k] = (Ta.up (n / 128))[k] := by simp only [Ta.num]; rw [List.getElem_append_left hk]
    have := Ta.up_high (n / 128) _ (List.getElem_mem hk)
    rw [h1]; omega
  · have h1 : (Ta.num n)[k] = UInt8.ofNat (n % 128) := by simp only [Ta.num]; rw [List.getElem_append_right (by omega)]; simp
    rw [h1]; simp; omega
theorem sides_a (t : Nat) (ht : t ≤ 9223372036854775807) (w : World) : Calls Try.prog 18 #[.int .i64 t] w (PutRes (Ta.num (2 * t)) w) := by
  have := int_c t w (by omega) (by omega)
  rwa [show zig (t : Int) = 2 * t by unfold zig; rw [if_neg (by omega)]; omega] at this
theorem sides_b (t : Nat) (ht : t ≤ 9223372036854775807) (w : World) : Calls Try.prog 16 #[.int .u64 (2 * (t : Int))] w (PutRes (Ta.num (2 * t)) w) := by
  have := num_c (2 * t) w (by omega)
  rwa [show ((2 * t : Nat) : Int) = 2 * (t : Int) by omega] at this
theorem sides_c (t : Nat) (ht : t ≤ 9223372036854775807) (w : World) : Calls Try.prog 18 #[.int .i64 (-(t : Int) - 1)] w (PutRes (Ta.num (2 * t + 1)) w) := by
  have := int_c (-(t : Int) - 1) w (by omega) (by omega)
  rwa [show zig (-(t : Int) - 1) = 2 * t + 1 by unfold zig; rw [if_pos (by omega)]; omega] at this
theorem sides_d (t : Nat) (ht : t ≤ 9223372036854775807) (w : World) : Calls Try.prog 16 #[.int .u64 (2 * (t : Int) + 1)] w (PutRes (Ta.num (2 * t + 1)) w) := by
  have := num_c (2 * t + 1) w (by omega)
  rwa [show ((2 * t + 1 : Nat) : Int) = 2 * (t : Int) + 1 by omega] at this
set_option maxRecDepth 100000 in
set_option maxHeartbeats 1600000 in
theorem sides_lt (a b : Nat) (n : Int) (w : World) (ha : a < 18446744073709551616) (hb : b < 18446744073709551616) (n0 : -9223372036854775808 ≤ n) (n1 : n ≤ 9223372036854775807) (h : a < b) :
    Calls Try.prog 8 #[.int .u64 a, .int .u64 b, .int .i64 n] w fun e w' => e = .returned (.bool true) ∧ Below w.heap.size w w' := by
  have hl := Ta.num_len b hb
  have hl1 := hl.1
  have hl2 := hl.2
  have hp := Lib.hid (num_part b)
  obtain ⟨L, hL⟩ : ∃ L, Ta.num b = L := ⟨_, rfl⟩
  obtain ⟨m, hmm⟩ : ∃ m, (Ta.num a).length = m := ⟨_, rfl⟩
  have k1 := Lib.hid (fun w => hL ▸ num_c b w hb)
  have k2 := Lib.hid (fun w => hmm ▸ long_c a w ha)
  have k3 := Lib.hid (fun w => hL ▸ long_c b w hb)
  have hm : m ≤ L.length := by rw [← hmm, ← hL]; exact Ta.num_mono a b (by omega)
  rw [hL] at hl1 hl2
  have hd1 : ¬ L.length < m := by omega
  have hd2 : ¬ (10 : Int) < (L.length : Int) := by omega
  have hd3 : ((L.length : Int) == 0) = false := beq_eq_false_iff_ne.2 (by omega)
  go_enter Try.func8, Try.ntmps8
  go_wp2_with fail
  refine (k1.out w).mono ?_
  rintro e w1 ⟨rfl, b1⟩
  go_wp2_with fail
  refine (k2.out w1).mono ?_
  rintro e w2 ⟨rfl, b2⟩
  go_wp2_with fail
  refine (k3.out w2).mono ?_
  rintro e w3 ⟨rfl, b3⟩
  go_wp2_with fail
  refine (k3.out w3).mono ?_
  rintro e w4 ⟨rfl, b4⟩
  go_wp2_with fail
  rw [hL] at hp
  clear hd1 hd2 hd3 hl hm
  go_loop [10] (fun s10 => ∃ k : Nat, k ≤ L.length ∧ s10 = .int .i64 k) (fun s10 => L.length - (intOf s10).toNat)
  case atStart => exact ⟨0, by omega, rfl⟩
  case round =>
    obtain ⟨k, hk, rfl⟩ := hrel
    by_cases hlt : k < L.length
    · have hpk := hp.out k hlt
      by_cases hc : k + 1 = L.length
      · have hcc : (L[k].toNat : Int) < 128 := by have := hpk.2 hc; omega
        have hx : decide ((((⟨L.toArray⟩ : ByteArray)[k]'(show k < L.length from hlt)).toNat : Int) < 128) = true := decide_eq_true hcc
        have hy : ((k : Int) == (L.length : Int) - 1) = true := beq_iff_eq.2 (by omega)
        go_wp2_with fail
        exact ⟨⟨k + 1, by omega, by simp⟩, by simp [intOf]; omega⟩
      · have hcc : ¬ (L[k].toNat : Int) < 128 := by have := mt hpk.1 hc; omega
        have hx : decide ((((⟨L.toArray⟩ : ByteArray)[k]'(show k < L.length from hlt)).toNat : Int) < 128) = false := decide_eq_false hcc
        have hy : ((k : Int) == (L.length : Int) - 1) = false := beq_eq_false_iff_ne.2 (by omega)
        go_wp2_with fail
        exact ⟨⟨k + 1, by omega, by simp⟩, by simp [intOf]; omega⟩
    · obtain rfl : k = L.length := by omega
      by_cases hn : n < 0
      · skip
        obtain ⟨t, rfl⟩ : ∃ t : Nat, n = -(t : Int) - 1 := ⟨(-n - 1).toNat, by omega⟩
        have ht : t ≤ 9223372036854775807 := by omega
        have kA := Lib.hid (sides_a t ht)
        have kB := Lib.hid (sides_b t ht)
        have kC := Lib.hid (sides_c t ht)
        have kD := Lib.hid (sides_d t ht)
        go_wp2_with fail
        refine (kA.out w4).mono ?_
        rintro e w5 ⟨rfl, b5⟩
        go_wp2_with fail
        refine (kB.out w5).mono ?_
        rintro e w6 ⟨rfl, b6⟩
        go_wp2_with fail
        refine (kC.out w6).mono ?_
        rintro e w7 ⟨rfl, b7⟩
        go_wp2_with fail
        refine (kD.out w7).mono ?_
        rintro e w8 ⟨rfl, b8⟩
        go_wp2_with fail
        refine (head_c w8).mono ?_
        rintro e w9 ⟨rfl, b9⟩
        go_wp2_with fail
        go_ret
        exact ⟨rfl, then_below (then_below (then_below (then_below (then_below (then_below (then_below (then_below b1 b2) b3) b4) b5) b6) b7) b8) b9⟩
      · skip
        obtain ⟨t, rfl⟩ : ∃ t : Nat, n = (t : Int) := ⟨n.toNat, by omega⟩
        have ht : t ≤ 9223372036854775807 := by omega
        have kA := Lib.hid (sides_a t ht)
        have kB := Lib.hid (sides_b t ht)
        have kC := Lib.hid (sides_c t ht)
        have kD := Lib.hid (sides_d t ht)
        go_wp2_with fail
        refine (kA.out w4).mono ?_
        rintro e w5 ⟨rfl, b5⟩
        go_wp2_with fail
        refine (kB.out w5).mono ?_
        rintro e w6 ⟨rfl, b6⟩
        go_wp2_with fail
        refine (kC.out w6).mono ?_
        rintro e w7 ⟨rfl, b7⟩
        go_wp2_with fail
        refine (kD.out w7).mono ?_
        rintro e w8 ⟨rfl, b8⟩
        go_wp2_with fail
        refine (head_c w8).mono ?_
        rintro e w9 ⟨rfl, b9⟩
        go_wp2_with fail
        go_ret
        exact ⟨rfl, then_below (then_below (then_below (then_below (then_below (then_below (then_below (then_below b1 b2) b3) b4) b5) b6) b7) b8) b9⟩
set_option maxRecDepth 100000 in
set_option maxHeartbeats 1600000 in
theorem sides_gt (a b : Nat) (n : Int) (w : World) (hb : b < 18446744073709551616) (ha : a < 18446744073709551616) (n0 : -9223372036854775808 ≤ n) (n1 : n ≤ 9223372036854775807) (h : b < a) :
    Calls Try.prog 8 #[.int .u64 a, .int .u64 b, .int .i64 n] w fun e w' => e = .returned (.bool true) ∧ Below w.heap.size w w' := by
  have hl := Ta.num_len a ha
  have hl1 := hl.1
  have hl2 := hl.2
  have hp := Lib.hid (num_part a)
  obtain ⟨L, hL⟩ : ∃ L, Ta.num a = L := ⟨_, rfl⟩
  obtain ⟨m, hmm⟩ : ∃ m, (Ta.num b).length = m := ⟨_, rfl⟩
  have k1 := Lib.hid (fun w => hL ▸ num_c a w ha)
  have k2 := Lib.hid (fun w => hmm ▸ long_c b w hb)
  have k3 := Lib.hid (fun w => hL ▸ long_c a w ha)
  have hm : m ≤ L.length := by rw [← hmm, ← hL]; exact Ta.num_mono b a (by omega)
  rw [hL] at hl1 hl2
  have hd1 : ¬ L.length < m := by omega
  have hd2 : ¬ (10 : Int) < (L.length : Int) := by omega
  have hd3 : ((L.length : Int) == 0) = false := beq_eq_false_iff_ne.2 (by omega)
  go_enter Try.func8, Try.ntmps8
  go_wp2_with fail
  refine (k1.out w).mono ?_
  rintro e w1 ⟨rfl, b1⟩
  go_wp2_with fail
  refine (k2.out w1).mono ?_
  rintro e w2 ⟨rfl, b2⟩
  go_wp2_with fail
  refine (k3.out w2).mono ?_
  rintro e w3 ⟨rfl, b3⟩
  go_wp2_with fail
  refine (k3.out w3).mono ?_
  rintro e w4 ⟨rfl, b4⟩
  go_wp2_with fail
  rw [hL] at hp
  clear hd1 hd2 hd3 hl hm
  go_loop [10] (fun s10 => ∃ k : Nat, k ≤ L.length ∧ s10 = .int .i64 k) (fun s10 => L.length - (intOf s10).toNat)
  case atStart => exact ⟨0, by omega, rfl⟩
  case round =>
    obtain ⟨k, hk, rfl⟩ := hrel
    by_cases hlt : k < L.length
    · have hpk := hp.out k hlt
      by_cases hc : k + 1 = L.length
      · have hcc : (L[k].toNat : Int) < 128 := by have := hpk.2 hc; omega
        have hx : decide ((((⟨L.toArray⟩ : ByteArray)[k]'(show k < L.length from hlt)).toNat : Int) < 128) = true := decide_eq_true hcc
        have hy : ((k : Int) == (L.length : Int) - 1) = true := beq_iff_eq.2 (by omega)
        go_wp2_with fail
        exact ⟨⟨k + 1, by omega, by simp⟩, by simp [intOf]; omega⟩
      · have hcc : ¬ (L[k].toNat : Int) < 128 := by have := mt hpk.1 hc; omega
        have hx : decide ((((⟨L.toArray⟩ : ByteArray)[k]'(show k < L.length from hlt)).toNat : Int) < 128) = false := decide_eq_false hcc
        have hy : ((k : Int) == (L.length : Int) - 1) = false := beq_eq_false_iff_ne.2 (by omega)
        go_wp2_with fail
        exact ⟨⟨k + 1, by omega, by simp⟩, by simp [intOf]; omega⟩
    · obtain rfl : k = L.length := by omega
      by_cases hn : n < 0
      · skip
        obtain ⟨t, rfl⟩ : ∃ t : Nat, n = -(t : Int) - 1 := ⟨(-n - 1).toNat, by omega⟩
        have ht : t ≤ 9223372036854775807 := by omega
        have kA := Lib.hid (sides_a t ht)
        have kB := Lib.hid (sides_b t ht)
        have kC := Lib.hid (sides_c t ht)
        have kD := Lib.hid (sides_d t ht)
        go_wp2_with fail
        refine (kA.out w4).mono ?_
        rintro e w5 ⟨rfl, b5⟩
        go_wp2_with fail
        refine (kB.out w5).mono ?_
        rintro e w6 ⟨rfl, b6⟩
        go_wp2_with fail
        refine (kC.out w6).mono ?_
        rintro e w7 ⟨rfl, b7⟩
        go_wp2_with fail
        refine (kD.out w7).mono ?_
        rintro e w8 ⟨rfl, b8⟩
        go_wp2_with fail
        refine (head_c w8).mono ?_
        rintro e w9 ⟨rfl, b9⟩
        go_wp2_with fail
        go_ret
        exact ⟨rfl, then_below (then_below (then_below (then_below (then_below (then_below (then_below (then_below b1 b2) b3) b4) b5) b6) b7) b8) b9⟩
      · skip
        obtain ⟨t, rfl⟩ : ∃ t : Nat, n = (t : Int) := ⟨n.toNat, by omega⟩
        have ht : t ≤ 9223372036854775807 := by omega
        have kA := Lib.hid (sides_a t ht)
        have kB := Lib.hid (sides_b t ht)
        have kC := Lib.hid (sides_c t ht)
        have kD := Lib.hid (sides_d t ht)
        go_wp2_with fail
        refine (kA.out w4).mono ?_
        rintro e w5 ⟨rfl, b5⟩
        go_wp2_with fail
        refine (kB.out w5).mono ?_
        rintro e w6 ⟨rfl, b6⟩
        go_wp2_with fail
        refine (kC.out w6).mono ?_
        rintro e w7 ⟨rfl, b7⟩
        go_wp2_with fail
        refine (kD.out w7).mono ?_
        rintro e w8 ⟨rfl, b8⟩
        go_wp2_with fail
        refine (head_c w8).mono ?_
        rintro e w9 ⟨rfl, b9⟩
        go_wp2_with fail
        go_ret
        exact ⟨rfl, then_below (then_below (then_below (then_below (then_below (then_below (then_below (then_below b1 b2) b3) b4) b5) b6) b7) b8) b9⟩
set_option maxRecDepth 100000 in
set_option maxHeartbeats 1600000 in
theorem sides_eq (a : Nat) (n : Int) (w : World) (ha : a < 18446744073709551616)  (n0 : -9223372036854775808 ≤ n) (n1 : n ≤ 9223372036854775807)  :
    Calls Try.prog 8 #[.int .u64 a, .int .u64 a, .int .i64 n] w fun e w' => e = .returned (.bool true) ∧ Below w.heap.size w w' := by
  have hl := Ta.num_len a ha
  have hl1 := hl.1
  have hl2 := hl.2
  have hp := Lib.hid (num_part a)
  obtain ⟨L, hL⟩ : ∃ L, Ta.num a = L := ⟨_, rfl⟩
  obtain ⟨m, hmm⟩ : ∃ m, (Ta.num a).length = m := ⟨_, rfl⟩
  have k1 := Lib.hid (fun w => hL ▸ num_c a w ha)
  have k2 := Lib.hid (fun w => hmm ▸ long_c a w ha)
  have k3 := Lib.hid (fun w => hL ▸ long_c a w ha)
  have hm : m ≤ L.length := by rw [← hmm, ← hL]; exact Ta.num_mono a a (by omega)
  rw [hL] at hl1 hl2
  have hd1 : ¬ L.length < m := by omega
  have hd2 : ¬ (10 : Int) < (L.length : Int) := by omega
  have hd3 : ((L.length : Int) == 0) = false := beq_eq_false_iff_ne.2 (by omega)
  go_enter Try.func8, Try.ntmps8
  go_wp2_with fail
  refine (k1.out w).mono ?_
  rintro e w1 ⟨rfl, b1⟩
  go_wp2_with fail
  refine (k2.out w1).mono ?_
  rintro e w2 ⟨rfl, b2⟩
  go_wp2_with fail
  refine (k3.out w2).mono ?_
  rintro e w3 ⟨rfl, b3⟩
  go_wp2_with fail
  refine (k3.out w3).mono ?_
  rintro e w4 ⟨rfl, b4⟩
  go_wp2_with fail
  rw [hL] at hp
  clear hd1 hd2 hd3 hl hm
  go_loop [10] (fun s10 => ∃ k : Nat, k ≤ L.length ∧ s10 = .int .i64 k) (fun s10 => L.length - (intOf s10).toNat)
  case atStart => exact ⟨0, by omega, rfl⟩
  case round =>
    obtain ⟨k, hk, rfl⟩ := hrel
    by_cases hlt : k < L.length
    · have hpk := hp.out k hlt
      by_cases hc : k + 1 = L.length
      · have hcc : (L[k].toNat : Int) < 128 := by have := hpk.2 hc; omega
        have hx : decide ((((⟨L.toArray⟩ : ByteArray)[k]'(show k < L.length from hlt)).toNat : Int) < 128) = true := decide_eq_true hcc
        have hy : ((k : Int) == (L.length : Int) - 1) = true := beq_iff_eq.2 (by omega)
        go_wp2_with fail
        exact ⟨⟨k + 1, by omega, by simp⟩, by simp [intOf]; omega⟩
      · have hcc : ¬ (L[k].toNat : Int) < 128 := by have := mt hpk.1 hc; omega
        have hx : decide ((((⟨L.toArray⟩ : ByteArray)[k]'(show k < L.length from hlt)).toNat : Int) < 128) = false := decide_eq_false hcc
        have hy : ((k : Int) == (L.length : Int) - 1) = false := beq_eq_false_iff_ne.2 (by omega)
        go_wp2_with fail
        exact ⟨⟨k + 1, by omega, by simp⟩, by simp [intOf]; omega⟩
    · obtain rfl : k = L.length := by omega
      by_cases hn : n < 0
      · skip
        obtain ⟨t, rfl⟩ : ∃ t : Nat, n = -(t : Int) - 1 := ⟨(-n - 1).toNat, by omega⟩
        have ht : t ≤ 9223372036854775807 := by omega
        have kA := Lib.hid (sides_a t ht)
        have kB := Lib.hid (sides_b t ht)
        have kC := Lib.hid (sides_c t ht)
        have kD := Lib.hid (sides_d t ht)
        go_wp2_with fail
        refine (kA.out w4).mono ?_
        rintro e w5 ⟨rfl, b5⟩
        go_wp2_with fail
        refine (kB.out w5).mono ?_
        rintro e w6 ⟨rfl, b6⟩
        go_wp2_with fail
        refine (kC.out w6).mono ?_
        rintro e w7 ⟨rfl, b7⟩
        go_wp2_with fail
        refine (kD.out w7).mono ?_
        rintro e w8 ⟨rfl, b8⟩
        go_wp2_with fail
        refine (head_c w8).mono ?_
        rintro e w9 ⟨rfl, b9⟩
        go_wp2_with fail
        go_ret
        exact ⟨rfl, then_below (then_below (then_below (then_below (then_below (then_below (then_below (then_below b1 b2) b3) b4) b5) b6) b7) b8) b9⟩
      · skip
        obtain ⟨t, rfl⟩ : ∃ t : Nat, n = (t : Int) := ⟨n.toNat, by omega⟩
        have ht : t ≤ 9223372036854775807 := by omega
        have kA := Lib.hid (sides_a t ht)
        have kB := Lib.hid (sides_b t ht)
        have kC := Lib.hid (sides_c t ht)
        have kD := Lib.hid (sides_d t ht)
        go_wp2_with fail
        refine (kA.out w4).mono ?_
        rintro e w5 ⟨rfl, b5⟩
        go_wp2_with fail
        refine (kB.out w5).mono ?_
        rintro e w6 ⟨rfl, b6⟩
        go_wp2_with fail
        refine (kC.out w6).mono ?_
        rintro e w7 ⟨rfl, b7⟩
        go_wp2_with fail
        refine (kD.out w7).mono ?_
        rintro e w8 ⟨rfl, b8⟩
        go_wp2_with fail
        refine (head_c w8).mono ?_
        rintro e w9 ⟨rfl, b9⟩
        go_wp2_with fail
        go_ret
        exact ⟨rfl, then_below (then_below (then_below (then_below (then_below (then_below (then_below (then_below b1 b2) b3) b4) b5) b6) b7) b8) b9⟩
theorem sides_law (a b n : Int) (w : World) (ha : 0 ≤ a ∧ a ≤ 18446744073709551615) (hb : 0 ≤ b ∧ b ≤ 18446744073709551615) (hn : -9223372036854775808 ≤ n ∧ n ≤ 9223372036854775807) :
    Calls Try.prog 8 #[.int .u64 a, .int .u64 b, .int .i64 n] w fun e w' => e = .returned (.bool true) ∧ Below w.heap.size w w' := by
  obtain ⟨a, rfl⟩ : ∃ m : Nat, a = m := ⟨a.toNat, by omega⟩
  obtain ⟨b, rfl⟩ : ∃ m : Nat, b = m := ⟨b.toNat, by omega⟩
  by_cases h : a < b
  · exact sides_lt a b n w (by omega) (by omega) hn.1 hn.2 h
  · by_cases h' : b < a
    · exact sides_gt a b n w (by omega) (by omega) hn.1 hn.2 h'
    · obtain rfl : a = b := by omega
      exact sides_eq a n w (by omega) hn.1 hn.2
end Go.Proofs.Ytehofpmkplkaaaa.Tal
