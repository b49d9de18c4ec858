/- Package order: addInteger, addString. -/
import Derived.Test.YtialjglgkfcdmaaOrNum
namespace Go.Proofs.Ytialjglgkfcdmaa.Or
open Go.RowKit Cm
theorem xor255_nat : ∀ a : Fin 256, a.val ^^^ 255 = 255 - a.val := by decide +kernel
theorem xor255 (c : UInt8) : bits .xor .u8 (c.toNat : Int) 255 = ((cpl c).toNat : Int) := by
  have h := u8_xor_nat c.toNat 255 c.toNat_lt (by omega)
  have e2 := xor255_nat ⟨c.toNat, c.toNat_lt⟩
  simp only at e2
  rw [e2] at h
  rw [show ((255 : Nat) : Int) = 255 from rfl] at h
  rw [h, cpl_nat]
theorem not_neg (a : Nat) (ha : a < 9223372036854775808) : bits .xor .i64 (-1) (-(a : Int) - 1) = (a : Int) := by
  show IntKind.i64.wrap ((BitVec.ofInt 64 (-1) ^^^ BitVec.ofInt 64 (-(a : Int) - 1)).toNat : Int) = _
  have h1 : BitVec.ofInt 64 (-1) = BitVec.allOnes 64 := by decide
  rw [h1, BitVec.allOnes_xor, BitVec.toNat_not, BitVec.toNat_ofInt]
  simp [IntKind.wrap, IntKind.bits, IntKind.signed]
  omega
set_option maxRecDepth 100000 in
set_option maxHeartbeats 1600000 in
theorem addInteger_c (base : Nat) (v : Value) (bs : List UInt8) (n : Int) (w : World) (hbase : base ≤ w.heap.size) (hown : OwnB base w v bs) (h0 : -9223372036854775808 ≤ n) (h1 : n < 9223372036854775808) (hlen : bs.length ≤ 100000) :
    Calls Try.prog 68 #[v, .int .i64 n] w (AddRes base w (bs ++ if n < 0 then (numL 128 (-n - 1).toNat).map cpl else numL 128 n.toNat)) := by
  have HO := Lib.hid hown
  obtain ⟨av, cv, rfl⟩ := hown.shape
  clear hown
  by_cases hn : n < 0
  · obtain ⟨m, rfl⟩ : ∃ m : Nat, n = -(m : Int) - 1 := ⟨(-n - 1).toNat, by omega⟩
    have hm9 : m < 9223372036854775808 := by omega
    have K := Lib.hid (addNumber_c base _ bs 128 m w hbase HO.out (by omega) (by omega) hlen)
    have HR := Lib.hid (show (if -(m : Int) - 1 < 0 then (numL 128 (-(-(m : Int) - 1) - 1).toNat).map cpl else numL 128 (-(m : Int) - 1).toNat) = (numL 128 m).map cpl by rw [if_pos hn]; congr 2; omega)
    rw [HR.out]
    have q1 : ¬ (0 : Int) ≤ -(m : Int) - 1 := by omega
    have q2 := not_neg m hm9
    have q3 : ¬ 1 ≤ -(m : Int) := by omega
    have q4 : IntKind.u64.wrap (m : Int) = (m : Int) := by rw [IntKind.wrap_u64]; omega
    have hl9 : (numL 128 m).length ≤ 9 := by unfold numL; have := short8 (n := m) (by omega); simpa using this
    obtain ⟨X, hX⟩ : ∃ X, numL 128 m = X := ⟨_, rfl⟩
    rw [hX] at hl9 K ⊢
    clear hn h0 h1 HR hX
    go_enter Try.func68, Try.ntmps68
    go_wp2_with fail
    refine K.out.mono ?_
    rintro e w1 ⟨v1, rfl, ho, hb⟩
    have HB1 := Lib.hid hb
    have HZ := Lib.hid ho
    obtain ⟨a1, c1, rfl⟩ := ho.shape
    clear ho hb
    go_wp2_with fail
    go_loopw [6] (fun s6 wr => ∃ k : Nat, k ≤ X.length ∧ s6 = .int .i64 ((bs.length + k : Nat) : Int) ∧ OwnB base wr (.slice a1 (bs ++ X).length c1) (bs ++ mix cpl (fun c => c) X k) ∧ Below base w wr) (fun s6 _ => bs.length + X.length - (intOf s6).toNat)
    case atStart => exact ⟨0, by omega, rfl, by rw [mix_zero]; simpa using HZ.out, HB1.out⟩
    case round =>
      obtain ⟨k, hk, rfl, hown, hB⟩ := hrel
      have HW := Lib.hid hown
      have HB := Lib.hid hB
      by_cases hlt : k < X.length
      · have q5 : ((bs.length + k : Nat) : Int) < (bs.length : Int) + (X.length : Int) := by omega
        have q6 : (0 : Int) ≤ ((bs.length + k : Nat) : Int) := by omega
        obtain ⟨g, c2, hv, hg, hg2⟩ := hown.form (by simp [mix_len]; omega)
        have hml : (bs ++ mix cpl (fun c => c) X k).length = (bs ++ X).length := by simp [mix_len]
        simp only [Value.slice.injEq] at hv
        obtain ⟨rfl, -, rfl⟩ := hv
        have hc := hown.cell (bs.length + k) (by rw [hml]; simp; omega)
        have hat : (bs ++ mix cpl (fun c => c) X k)[bs.length + k]'(by rw [hml]; simp; omega) = X[k] := by
          rw [List.getElem_append_right (by omega)]
          simp only [Nat.add_sub_cancel_left]
          exact mix_at _ _ _ _ hlt
        rw [hat] at hc
        have hfr := hown.free (bs.length + k)
        have hx := xor255 X[k]
        have hset := hown.set (bs.length + k) (cpl X[k]) ((cpl X[k]).toNat : Int) rfl
        have hms : (bs ++ mix cpl (fun c => c) X k).set (bs.length + k) (cpl X[k]) = bs ++ mix cpl (fun c => c) X (k + 1) := by
          rw [List.set_append_right _ _ (by omega), Nat.add_sub_cancel_left, mix_set _ _ _ _ hlt]
        rw [hms] at hset
        have HS := Lib.hid hset
        have B2 := Lib.hid (hB.setCell (p := ⟨g, bs.length + k, none⟩) hg (.int .u8 ((cpl X[k]).toNat : Int)))
        obtain ⟨y, hy⟩ : ∃ y, X[k] = y := ⟨_, rfl⟩
        obtain ⟨z, hz⟩ : ∃ z, (cpl y).toNat = z := ⟨_, rfl⟩
        obtain ⟨j, hj⟩ : ∃ j, bs.length + k = j := ⟨_, rfl⟩
        have HJ := Lib.hid hj
        rw [hy, hz, hj] at HS B2
        rw [hy, hj] at hc
        rw [hy, hz] at hx
        rw [hj] at hfr q5 q6 ⊢
        clear hown hB hset hms hat hml hg hy hz hj
        go_wp2_with fail
        exact ⟨⟨k + 1, by omega, by rw [← HJ.out]; rfl, HS.out, B2.out⟩, by simp [intOf]; omega⟩
      · obtain rfl : k = X.length := by omega
        have HE := Lib.hid (mix_all cpl (fun c => c) X X.length (Nat.le_refl _))
        clear hown hB
        go_wp2_with fail
        go_ret
        exact ⟨_, rfl, by have := HW.out; rw [HE.out] at this; simpa using this, HB.out⟩
  · obtain ⟨m, rfl⟩ : ∃ m : Nat, n = (m : Int) := ⟨n.toNat, by omega⟩
    have K := Lib.hid (addNumber_c base _ bs 128 m w hbase HO.out (by omega) (by omega) hlen)
    have HR := Lib.hid (show (if (m : Int) < 0 then (numL 128 (-(m : Int) - 1).toNat).map cpl else numL 128 (m : Int).toNat) = numL 128 m by rw [if_neg hn]; rfl)
    rw [HR.out]
    have q1 : (0 : Int) ≤ (m : Int) := by omega
    clear hn h0 HR
    go_enter Try.func68, Try.ntmps68
    go_wp2_with fail
    refine K.out.mono ?_
    rintro e w1 ⟨v1, rfl, ho, hb⟩
    go_wp2_with fail
    go_ret
    exact ⟨_, rfl, ho, hb⟩
theorem esc_next (S : List UInt8) (k : Nat) (hk : k < S.length) : escL (S.take (k + 1)) = escL (S.take k) ++ if S[k] = 0 then [0, 255] else [S[k]] := by
  unfold escL
  rw [List.take_succ_eq_append_getElem hk, List.flatMap_append, List.flatMap_singleton]
theorem esc_len (S : List UInt8) : (escL S).length ≤ 2 * S.length := by
  induction S with
  | nil => simp [escL]
  | cons c t ih =>
    have : escL (c :: t) = (if c = 0 then [0, 255] else [c]) ++ escL t := by simp [escL]
    rw [this, List.length_append]
    split <;> simp <;> omega
set_option maxRecDepth 100000 in
set_option maxHeartbeats 1600000 in
theorem addString_c (base : Nat) (v : Value) (bs : List UInt8) (s : ByteArray) (w : World) (hbase : base ≤ w.heap.size) (hown : OwnB base w v bs) (hs : s.size ≤ 100000) (hlen : bs.length ≤ 100000) :
    Calls Try.prog 69 #[v, .string s] w (AddRes base w (bs ++ (escL s.data.toList ++ [0, 0]))) := by
  have HO := Lib.hid hown
  clear hown
  have hsl : s.data.toList.length = s.size := by simp
  have HSL := Lib.hid hsl
  clear hsl
  go_enter Try.func69, Try.ntmps69
  go_wp2_with fail
  go_loopw [0, 5, 8] (fun s0 _ s8 wr => ∃ k : Nat, k ≤ s.size ∧ s8 = .int .i64 (k : Int) ∧ OwnB base wr s0 (bs ++ escL (s.data.toList.take k)) ∧ Below base w wr) (fun _ _ s8 _ => s.size - (intOf s8).toNat)
  case atStart => exact ⟨0, by omega, rfl, by simpa [escL] using HO.out, Below.refl _ _⟩
  case round =>
    obtain ⟨k, hk, rfl, hown, hB⟩ := hrel
    have HW := Lib.hid hown
    have HB := Lib.hid hB
    have hbr : base ≤ wr.heap.size := Nat.le_trans hbase hB.size
    have hel := esc_len (s.data.toList.take k)
    rw [List.length_take] at hel
    by_cases hlt : k < s.size
    · have q0 : (0 : Int) ≤ (k : Int) := by omega
      have q1 : (k : Int) < (s.size : Int) := by omega
      have HBY := Lib.hid (byte_at s k hlt)
      have HN := Lib.hid (esc_next s.data.toList k (by rw [HSL.out]; exact hlt))
      have hml : (bs ++ escL (s.data.toList.take k)).length ≤ 300000 := by rw [List.length_append]; omega
      rw [HBY.out] at HN
      obtain ⟨c, hc⟩ : ∃ c, s[k] = c := ⟨_, rfl⟩
      obtain ⟨M, hM⟩ : ∃ M, bs ++ escL (s.data.toList.take k) = M := ⟨_, rfl⟩
      have HC := Lib.hid hc
      rw [hM] at HW hml
      rw [hc] at HN
      have HWA := Lib.hid (HW.out.later ((Below.refl _ wr).alloc (Nat.le_refl _) (.cells #[.int .u8 (c.toNat : Int)] 5)))
      have HE := Lib.hid (show bs ++ escL (s.data.toList.take (k + 1)) = M ++ if c = 0 then [0, 255] else [c] by rw [HN.out, ← hM, List.append_assoc])
      clear hown hB hM hel HN
      by_cases hz : c = 0
      · have hz2 : (c.toNat : Int) = 0 := by rw [hz]; rfl
        have q2 : ((c.toNat : Int) == 0) = true := beq_iff_eq.2 hz2
        have HE2 := Lib.hid (show bs ++ escL (s.data.toList.take (k + 1)) = M ++ [c] ++ [255] by rw [HE.out, if_pos hz, hz]; simp)
        clear hz hz2 HE
        have hcc : s[k] = c := HC.out
        go_wp2_with (at_builtin; refine app_bytes rfl _ _ rfl base _ M [c] rfl wr.heap.size 0 1 1 rfl HWA.out rfl (one_new wr _ _ rfl _) (by omega) (by simp; omega) ?_)
        intro v2 w2 h2 b2
        have B2 := Lib.hid (HB.out.trans (((Below.refl base wr).alloc hbr _).trans b2))
        have hb2 : base ≤ w2.heap.size := Nat.le_trans hbase B2.out.size
        have H2 := Lib.hid (OwnB.later h2 ((Below.refl _ w2).alloc (Nat.le_refl _) (.cells #[.int .u8 255] 5)))
        clear h2 b2
        go_wp2_with (at_builtin; refine app_bytes rfl _ _ rfl base _ (M ++ [c]) [255] rfl w2.heap.size 0 1 1 rfl H2.out rfl (one_new w2 255 255 rfl _) (by simp; omega) (by simp; omega) ?_)
        intro v3 w3 h3 b3
        have B3 := Lib.hid (B2.out.trans (((Below.refl base w2).alloc hb2 _).trans b3))
        have H3 := Lib.hid h3
        clear h3 b3
        go_wp2_with fail
        exact ⟨⟨k + 1, by omega, by simp, by rw [HE2.out]; simpa using H3.out, B3.out⟩, by simp [intOf]; omega⟩
      · have hz2 : (c.toNat : Int) ≠ 0 := fun h => hz (UInt8.toNat_inj.1 (by simpa using h))
        have q2 : ((c.toNat : Int) == 0) = false := beq_eq_false_iff_ne.2 hz2
        have HE2 := Lib.hid (show bs ++ escL (s.data.toList.take (k + 1)) = M ++ [c] by rw [HE.out, if_neg hz])
        clear hz hz2 HE
        have hcc : s[k] = c := HC.out
        go_wp2_with (at_builtin; refine app_bytes rfl _ _ rfl base _ M [c] rfl wr.heap.size 0 1 1 rfl HWA.out rfl (one_new wr _ _ rfl _) (by omega) (by simp; omega) ?_)
        intro v2 w2 h2 b2
        have B2 := Lib.hid (HB.out.trans (((Below.refl base wr).alloc hbr _).trans b2))
        have H2 := Lib.hid h2
        clear h2 b2
        go_wp2_with fail
        exact ⟨⟨k + 1, by omega, by simp, by rw [HE2.out]; simpa using H2.out, B2.out⟩, by simp [intOf]; omega⟩
    · obtain rfl : k = s.size := by omega
      have HT := Lib.hid (show s.data.toList.take s.size = s.data.toList from List.take_of_length_le (by rw [HSL.out]; exact Nat.le_refl _))
      obtain ⟨M, hM⟩ : ∃ M, bs ++ escL s.data.toList = M := ⟨_, rfl⟩
      rw [HT.out] at HW hel
      rw [hM] at HW
      have hml : M.length ≤ 300000 := by rw [← hM, List.length_append]; omega
      have HM := Lib.hid hM
      have HWA := Lib.hid (HW.out.later ((Below.refl _ wr).alloc (Nat.le_refl _) (.cells #[.int .u8 0, .int .u8 0] 5)))
      clear hown hB hel hM
      go_wp2_with (at_builtin; refine app_bytes rfl _ _ rfl base _ M [0, 0] rfl wr.heap.size 0 2 2 rfl HWA.out rfl (two_new wr _) (by omega) (by simp; omega) ?_)
      intro v2 w2 h2 b2
      have B2 := Lib.hid (HB.out.trans (((Below.refl base wr).alloc hbr _).trans b2))
      have H2 := Lib.hid h2
      clear h2 b2
      go_wp2_with fail
      go_ret
      exact ⟨_, rfl, by rw [← List.append_assoc, HM.out]; exact H2.out, B2.out⟩
end Go.Proofs.Ytialjglgkfcdmaa.Or
