/- Package order: addNumber. -/
import Derived.Test.YtialjglgkfcdmaaOrApp
namespace Go.Proofs.Ytialjglgkfcdmaa.Or
open Go.RowKit Cm
theorem shr_p (n p : Nat) : (n : Int) / 2 ^ (8 * p) = ((n / 256 ^ p : Nat) : Int) := by
  rw [Int.natCast_ediv]
  congr 1
  have : (256 : Nat) ^ p = 2 ^ (8 * p) := by rw [Nat.pow_mul]
  rw [this]
  norm_cast
theorem step_p (n p : Nat) : n / 256 ^ (p + 1) = (n / 256 ^ p) / 256 := by rw [Nat.pow_succ, Nat.div_div_eq_div_mul]
theorem lt7 (n p : Nat) (h : n < 18446744073709551616) : n / 256 ^ p / 256 < 256 ^ 7 := by
  have : n / 256 ^ p ≤ n := Nat.div_le_self _ _
  omega
theorem next_num (bs : List UInt8) (bb q : Nat) (h : 0 < q) : ((bs ++ numL bb (q / 256)) ++ [UInt8.ofNat (q % 256)]).set bs.length (UInt8.ofNat (bb + (shortL (q / 256)).length + 1)) = bs ++ numL bb q := by
  unfold numL
  rw [short_pos h, List.append_assoc, List.set_append_right _ _ (Nat.le_refl _)]
  simp [Nat.add_assoc]
set_option maxRecDepth 100000 in
set_option maxHeartbeats 1600000 in
theorem addNumber_c (base : Nat) (v : Value) (bs : List UInt8) (bb n : Nat) (w : World) (hbase : base ≤ w.heap.size) (hown : OwnB base w v bs) (hb : bb ≤ 128) (hn : n < 18446744073709551616) (hlen : bs.length ≤ 100000) :
    Calls Try.prog 67 #[v, .int .u8 (bb : Int), .int .u64 (n : Int)] w (AddRes base w (bs ++ numL bb n)) := by
  have HO := Lib.hid hown
  have HN := Lib.hid hn
  have HO1 := Lib.hid (hown.later ((Below.refl _ w).alloc (Nat.le_refl _) (.cells #[.int .u8 (bb : Int)] 5)))
  have hbb : (bb : Int) = ((UInt8.ofNat bb).toNat : Int) := by simp; omega
  have HBB := Lib.hid hbb
  obtain ⟨av, cv, rfl⟩ := hown.shape
  clear hown hn hbb
  go_enter Try.func67, Try.ntmps67
  go_wp2_with (at_builtin; refine app_bytes rfl _ _ rfl base _ bs [UInt8.ofNat bb] rfl w.heap.size 0 1 1 rfl HO1.out rfl (one_new w _ _ HBB.out _) (by omega) (by simp; omega) ?_)
  intro v1 w1 h1 b1
  have H1 := Lib.hid h1
  have B1 := Lib.hid (((Below.refl base w).alloc hbase _).trans b1)
  clear h1 b1 HO1
  go_wp2_with fail
  go_loopw [0, 8] (fun s0 s8 wr => ∃ i : Nat, i ≤ 8 ∧ s8 = .int .i64 ((i : Int) - 1) ∧ OwnB base wr s0 (bs ++ numL bb (n / 256 ^ i)) ∧ Below base w wr) (fun _ s8 _ => (intOf s8 + 1).toNat)
  case atStart =>
    refine ⟨8, by omega, rfl, ?_, B1.out⟩
    have : n / 256 ^ 8 = 0 := by have := HN.out; omega
    rw [this]
    unfold numL
    rw [short_zero]
    exact H1.out
  case round =>
    obtain ⟨i, hi, rfl, hown, hB⟩ := hrel
    have HW := Lib.hid hown
    have HB := Lib.hid hB
    rcases Nat.eq_zero_or_pos i with h0 | h0
    · have q1 : ¬ ((0 : Int) ≤ (i : Int) - 1) := by omega
      have HE := Lib.hid (show n / 256 ^ i = n by rw [h0]; simp)
      clear h0 hown hB
      go_wp2_with fail
      go_ret
      exact ⟨_, rfl, by rw [← HE.out]; exact HW.out, HB.out⟩
    · obtain ⟨p, rfl⟩ : ∃ p, i = p + 1 := ⟨i - 1, by omega⟩
      have hsh := shr_p n p
      have e1 : ((p + 1 : Nat) : Int) - 1 = (p : Int) := by omega
      rw [e1]
      obtain ⟨q, hq⟩ : ∃ q, n / 256 ^ p = q := ⟨_, rfl⟩
      have hstep := step_p n p
      rw [hq] at hsh hstep
      rw [hstep] at HW hown
      obtain ⟨g, cap, hv, hg, hg2⟩ := hown.form (by simp [numL]; omega)
      subst hv
      have HQ := Lib.hid hq
      have HSTEP := Lib.hid hstep
      have q0 : (0 : Int) ≤ (p : Int) := by omega
      clear hown hB hq hstep h0 e1
      rcases Nat.eq_zero_or_pos q with h0 | h0
      · have q1 : ¬ ((0 : Int) < (q : Int)) := by omega
        have HE := Lib.hid (show bs ++ numL bb (q / 256) = bs ++ numL bb (n / 256 ^ p) by rw [HQ.out, h0])
        clear h0
        go_wp2_with fail
        exact ⟨⟨p, by omega, rfl, by rw [← HE.out]; exact HW.out, HB.out⟩, by simp [intOf]⟩
      · have q1 : ((0 : Int) < (q : Int)) := by omega
        have Q2 := Lib.hid (show (q : Int) % 256 = ((UInt8.ofNat (q % 256)).toNat : Int) by simp)
        have HWA := Lib.hid (HW.out.later ((Below.refl _ wr).alloc (Nat.le_refl _) (.cells #[.int .u8 ((q : Int) % 256)] 5)))
        have hs8 : (shortL (q / 256)).length ≤ 7 := short_le 7 _ (by have := HN.out; rw [← HQ.out] ; exact lt7 n p this)
        have HL := Lib.hid (next_num bs bb q h0)
        have hl9 : (bs ++ numL bb (q / 256)).length ≤ 100010 := by unfold numL; simp; omega
        have hbr : base ≤ wr.heap.size := Nat.le_trans hbase HB.out.size
        go_wp2_with (at_builtin; refine app_bytes rfl _ _ rfl base _ _ [UInt8.ofNat (q % 256)] rfl wr.heap.size 0 1 1 rfl HWA.out rfl (one_new wr _ _ Q2.out _) (by omega) (by simp; omega) ?_)
        intro v2 w2 h2 b2
        obtain ⟨M, hM⟩ : ∃ M, bs ++ (numL bb (q / 256) ++ [UInt8.ofNat (q % 256)]) = M := ⟨_, rfl⟩
        have hMl : M.length = bs.length + (shortL (q / 256)).length + 2 := by rw [← hM]; simp [numL]; omega
        have hMb : ∃ h : bs.length < M.length, M[bs.length] = UInt8.ofNat (bb + (shortL (q / 256)).length) := ⟨by omega, by subst hM; simp [numL]⟩
        have HL2 := Lib.hid (show M.set bs.length (UInt8.ofNat (bb + (shortL (q / 256)).length + 1)) = bs ++ numL bb q by rw [← hM, ← List.append_assoc]; exact HL.out)
        rw [hM] at h2
        obtain ⟨g2, c2, hv2, hg3, hg4⟩ := h2.form (by omega)
        subst hv2
        obtain ⟨hlt, hMb⟩ := hMb
        have hc := h2.cell bs.length hlt
        rw [hMb] at hc
        have hfr := h2.free bs.length
        obtain ⟨m, hm⟩ : ∃ m, (UInt8.ofNat (bb + (shortL (q / 256)).length)).toNat = m := ⟨_, rfl⟩
        have hm2 : m = bb + (shortL (q / 256)).length := by rw [← hm]; simp; omega
        rw [hm] at hc
        have hset := h2.set bs.length (UInt8.ofNat (bb + (shortL (q / 256)).length + 1)) ((m : Int) + 1) (by simp; omega)
        rw [HL2.out] at hset
        have HS := Lib.hid hset
        have B2 := Lib.hid ((HB.out.trans (((Below.refl base wr).alloc hbr _).trans b2)).setCell (p := ⟨g2, bs.length, none⟩) hg3 (.int .u8 ((m : Int) + 1)))
        have hm9 : (m : Int) ≤ 136 := by omega
        have hlt2 : (bs.length : Int) < (M.length : Int) := by omega
        clear hset hMb hM hMl hm hm2 h2 b2
        go_wp2_with fail
        exact ⟨⟨p, by omega, rfl, by rw [HQ.out]; exact HS.out, B2.out⟩, by simp [intOf]⟩
end Go.Proofs.Ytialjglgkfcdmaa.Or
