/- The document's bounds, month by month. -/
import Derived.Test.YtjchecjonkmhgaaDoorAoRef
namespace Go.Proofs.YtjchecjonkmhgaaDoor.An
open Go.RowKit Pr Rf
/-- Where the next bound's month is, as from the start's. -/
structure Nx (c : Cy) (m : Int) (n : Nat) (i : Int) : Prop where
  lo : i ≤ fst c m - m + (n : Int) * c.e
  hi : fst c m - m + (n : Int) * c.e ≤ i + c.e
  z : (fst c m - m + (n : Int) * c.e) % c.e = 0
  far : fst c m - m + (n : Int) * c.e = i + c.e → i = 0 ∧ atv m c.a ≤ c.s
theorem Nx.start {c : Cy} {m : Int} (h : c.Ok) : Nx c m 0 0 := by
  have he := h.e0
  by_cases hat : atv m c.a ≤ c.s
  · have hf : fst c m = m + c.e := if_pos hat
    have e1 : fst c m - m + ((0 : Nat) : Int) * c.e = c.e := by rw [hf]; simp; omega
    refine ⟨?_, ?_, ?_, ?_⟩ <;> rw [e1]
    · omega
    · omega
    · exact Int.emod_self
    · exact fun _ => ⟨rfl, hat⟩
  · have hf : fst c m = m := if_neg hat
    have e1 : fst c m - m + ((0 : Nat) : Int) * c.e = 0 := by rw [hf]; simp
    refine ⟨?_, ?_, ?_, ?_⟩ <;> rw [e1]
    · omega
    · omega
    · exact Int.zero_emod _
    · omega
/-- A month is passed over. -/
theorem Nx.skip {c : Cy} {m : Int} {n : Nat} {i : Int} (_h : c.Ok) (_hi : 0 ≤ i) (k : Nx c m n i) (hz : fst c m - m + (n : Int) * c.e ≠ i) : Nx c m n (i + 1) := by
  have a := k.lo; have b := k.hi
  exact ⟨by omega, by omega, k.z, fun e => by omega⟩
/-- A bound is told. -/
theorem Nx.take {c : Cy} {m : Int} {n : Nat} {i : Int} (h : c.Ok) (k : Nx c m n i) (hz : fst c m - m + (n : Int) * c.e = i) : Nx c m (n + 1) (i + 1) := by
  have he := h.e0
  have e1 : ((n + 1 : Nat) : Int) * c.e = (n : Int) * c.e + c.e := by rw [show ((n + 1 : Nat) : Int) = (n : Int) + 1 by omega, Int.add_mul, Int.one_mul]
  have hzz := k.z
  refine ⟨by rw [e1]; omega, by rw [e1]; omega, ?_, fun e => by rw [e1] at e; omega⟩
  rw [e1, ← Int.add_assoc, Int.add_emod, hzz, Int.emod_self]
  simp
/-- Whether the month has the next bound. -/
theorem Nx.is {c : Cy} {m : Int} {n : Nat} {i : Int} (h : c.Ok) (hin : In m c.s) (hi : 0 ≤ i) (k : Nx c m n i) : (i % c.e = 0 ∧ c.s < atv (m + i) c.a) ↔ fst c m - m + (n : Int) * c.e = i := by
  have he := h.e0
  constructor
  · rintro ⟨h1, h2⟩
    rcases mult_case i _ c.e k.z k.lo k.hi h1 with hc | hc
    · exact hc
    · obtain ⟨rfl, h3⟩ := k.far hc
      rw [Int.add_zero] at h2
      omega
  · intro hz
    refine ⟨by rw [← hz]; exact k.z, ?_⟩
    rcases Int.lt_or_le 0 i with hp | hp
    · have h1 := (atv_bd (m + i) c.a h.a0).1
      have h2 := hin.b
      have h3 : E m ≤ B (m + i) := B_mono (by omega)
      omega
    · obtain rfl : i = 0 := by omega
      rw [Int.add_zero]
      by_cases hat : atv m c.a ≤ c.s
      · have hf : fst c m = m + c.e := if_pos hat
        have : 0 ≤ (n : Int) * c.e := Int.mul_nonneg (by omega) (by omega)
        rw [hf] at hz
        omega
      · omega
theorem bnd_nx {c : Cy} {m : Int} {n : Nat} {i : Int} (hz : fst c m - m + (n : Int) * c.e = i) : bnd c m (n + 1) = atv (m + i) c.a := by
  rw [bnd_s, ← hz]
  congr 1
  omega
theorem cb_grown {W w1 : World} {n0 e size k : Nat} {v : Value} {xs : List Value} {tmp : Obj} {b : Nat} {c : Cy} (hc : Cb b c W) (hrow : W.ownsRow n0 e size v k xs) (hb : b < n0) (hg : (W.alloc tmp).grownBy w1 v.ownBlock) : Cb b c w1 := by
  have h1 : w1.heap[b]? = W.heap[b]? := (hg.block b (by have := hc.lt; simp; omega) (own_ne hrow hb)).trans (Below.heap_alloc _ _ _ hc.lt)
  have hs := hg.size
  simp at hs
  exact ⟨(World.cell?_of_block h1).trans hc.c0, (World.cell?_of_block h1).trans hc.c1, (World.cell?_of_block h1).trans hc.c2, by have := hc.lt; omega⟩
set_option maxRecDepth 100000 in
set_option maxHeartbeats 4000000 in
theorem rbounds_c (c : Cy) (m day : Int) (most : Nat) (w : World) (h : c.Ok) (hin : In m c.s) (hm : 1 ≤ most) (hm2 : (most : Int) ≤ 200000) :
    Calls Tryd.prog 29 #[c.val, .int .i64 day, .int .i64 (most : Int)] w (BsRes c m day most w) := by
  have KO := Lib.hid (rof_in hin)
  have KD := Lib.hid (fun w => rdays_in m w hin.lo hin.hi)
  obtain ⟨i0, hi, hz0, hz1, hz2⟩ := info_parts infoInt
  obtain ⟨q, hq⟩ : ∃ q : Int, (most : Int) = q := ⟨_, rfl⟩
  have hq1 : 1 ≤ q := by omega
  rw [hq] at hm2
  have HQ := Lib.hid hq
  rw [hq]
  have hml := hin.lo
  have hmh := hin.hi
  have ha0 := h.a0
  have ha1 := h.a1
  have he0 := h.e0
  have he1 := h.e1
  have hBx := Lib.hid (Cb.box c w)
  have D0 := Lib.hid ((Below.refl _ w).alloc (Nat.le_refl _) (.cells #[.int .i64 c.s, .int .i64 c.a, .int .i64 c.e] 24))
  have hon := own_one (w.alloc (.cells #[.int .i64 c.s, .int .i64 c.a, .int .i64 c.e] 24)) (.int .i64 c.s) 3 (w.heap.size + 1) (by simp)
  rw [World.size_alloc] at hon
  have HON := Lib.hid hon
  clear hq hon hm
  go_enter Tryd.func29, Tryd.ntmps29
  unfold Cy.val
  go_wp2_with fail
  refine (KO.out _).mono ?_
  rintro e w' ⟨rfl, rfl⟩
  go_wp2_with fail
  refine (KD.out _).mono ?_
  rintro e w' ⟨rfl, rfl⟩
  go_wp2_with fail
  go_loopw [7, 8, 10, 13, 14, 15] (fun v mo f n _ _ wr => ∃ (k : Nat) (i : Int) (g cap : Nat), v = .slice (some ⟨g, 0, none⟩) (k + 1) cap ∧ mo = .int .i64 (m + i) ∧ f = .int .i64 (B (m + i) + 1) ∧ n = .int .i64 i ∧ 0 ≤ i ∧ m + i ≤ 119989 ∧ Nx c m k i ∧
      wr.ownsRow (w.heap.size + 1) 3 1 (.slice (some ⟨g, 0, none⟩) (k + 1) cap) (k + 1) (BL c m (k + 1)) ∧ (k : Int) < q ∧ (k : Int) ≤ i ∧ Has c m k ∧ (∀ j, j < k → bnd c m j ≤ day) ∧ Cb w.heap.size c wr ∧ Below w.heap.size w wr) (fun _ _ _ n _ _ _ => (200000 - intOf n).toNat)
  case atStart => exact ⟨0, 0, _, 1, rfl, by simp, by simp, rfl, by omega, by omega, Nx.start h, by simpa [BL, bnd_0] using HON.out, by omega, by omega, Or.inl rfl, fun j hj => absurd hj (by omega), hBx.out.alloc _, D0.out.alloc D0.out.size _⟩
  case round =>
    obtain ⟨k, i, g, cap, rfl, rfl, rfl, rfl, hi0, hi1, hnx, hrow, hkq, hki, hhas, hall, hcb, hB⟩ := hrel
    have HN := Lib.hid hnx
    have HR := Lib.hid hrow
    have HH := Lib.hid hhas
    have HA := Lib.hid hall
    have HC := Lib.hid hcb
    have HB := Lib.hid hB
    have hsz : w.heap.size + 1 ≤ wr.heap.size := hcb.lt
    obtain ⟨a0, a1, a2, alt⟩ := hcb
    have cell := (own_cell hrow).2 k _ (BL_at c m (k + 1) k (by omega))
    have k0 : (0 : Int) ≤ (k : Int) := by omega
    clear hnx hhas hall hB KO KD hBx D0 HON
    obtain ⟨bk, hbk⟩ : ∃ bk, bnd c m k = bk := ⟨_, rfl⟩
    rw [hbk] at cell
    have HBK := Lib.hid hbk
    clear hbk
    by_cases hA : m + i ≤ 119988
    case neg =>
      have HW := Lib.hid (show ¬ Has c m (k + 1) by rw [has_s]; have := HN.out.lo; omega)
      go_wp2_with fail
      go_ret
      exact ⟨k, g, cap, rfl, own_lower HR.out (Nat.le_succ _), by have := HQ.out; omega, HH.out, HA.out, Or.inl HW.out, HB.out⟩
    by_cases hle : bk ≤ day
    case neg =>
      have HW := Lib.hid (show day < bnd c m k by rw [HBK.out]; omega)
      go_wp2_with fail
      go_ret
      exact ⟨k, g, cap, rfl, own_lower HR.out (Nat.le_succ _), by have := HQ.out; omega, HH.out, HA.out, Or.inr (Or.inl HW.out), HB.out⟩
    by_cases hlt : (k : Int) + 1 < q
    case neg =>
      have HW := Lib.hid (show k + 1 = most by have := HQ.out; omega)
      go_wp2_with fail
      go_ret
      exact ⟨k, g, cap, rfl, own_lower HR.out (Nat.le_succ _), by have := HQ.out; omega, HH.out, HA.out, Or.inr (Or.inr HW.out), HB.out⟩
    obtain ⟨f0, hf0⟩ : ∃ f0, B (m + i) = f0 := ⟨_, rfl⟩
    obtain ⟨ln, hln⟩ : ∃ ln, E (m + i) - B (m + i) = ln := ⟨_, rfl⟩
    have hbe := BE (m + i)
    have hbl := B_lo (m + i) (by omega)
    have heh := E_hi (m + i) hA
    have KL := Lib.hid (fun w => long_at (m + i) w (by omega) hA ln hln)
    have HF := Lib.hid (show f0 + 1 + ln = B (m + (i + 1)) + 1 by rw [← hf0, ← Int.add_assoc, B_succ]; omega)
    have hE : E (m + i) = f0 + ln := by omega
    rw [hf0] at hbe hbl
    have l1 : 28 ≤ ln := by omega
    have l2 : ln ≤ 31 := by omega
    have l3 : f0 ≤ 3652059 := by omega
    have l4 : f0 + ln ≤ 3652059 := by omega
    clear hln hbe heh
    by_cases hmin : c.a ≤ ln
    · obtain ⟨bv, hbv⟩ : ∃ bv, f0 + 1 + c.a - 1 = bv := ⟨_, rfl⟩
      have hbv1 : 0 ≤ bv ∧ bv ≤ 3652060 := by omega
      obtain ⟨hbv1, hbv2⟩ := hbv1
      have HV := Lib.hid (show atv (m + i) c.a = bv by unfold atv; rw [hf0]; rw [if_pos (by omega)]; omega)
      by_cases hz : fst c m - m + (k : Int) * c.e = i
      · have hnxt := (Nx.is h hin hi0 HN.out).2 hz
        rw [HV.out] at hnxt
        obtain ⟨hn1, hn2⟩ := hnxt
        have hn3 : (i % c.e == 0) = true := by simpa using hn1
        have HT := Lib.hid (HN.out.take h hz)
        have HBN := Lib.hid (show bnd c m (k + 1) = bv by rw [bnd_nx hz]; exact HV.out)
        have HHS := Lib.hid (show Has c m (k + 1) by rw [has_s]; omega)
        clear hz hn1 hE
        go_wp2_with (first | (go_at_call 53; refine (KL.out _).mono ?_; rintro e w' ⟨rfl, rfl⟩) | (at_builtin; refine wpList_append_own _ rfl _ _ 72 rfl (w.heap.size + 1) 3 i0 (.int .i64 0) 1 8 Tryd.underlying72 hi hz0 hz1 hz2 rfl (by decide) _ _ _ rfl (hrow.alloc _) ⟨wr.heap.size, 0, none⟩ 1 1 [.int .i64 bv] rfl rfl (one_new _ _ _) (by simp [Value.oneCell']) (by unfold maxLen; omega) (by omega) (by simp; omega) ?_; intro v' w1' hown' hgrow _; obtain ⟨g', cap', rfl⟩ := own_form hown' (by omega)))
        have hb2 : Below w.heap.size wr w1' := (grown_below HR.out hsz hgrow).mono (Nat.le_succ _)
        exact ⟨⟨k + 1, i + 1, g', cap', rfl, by rw [Int.add_assoc], by rw [HF.out], rfl, by omega, by omega, HT.out, by rw [BL_succ, HBN.out]; exact hown', by omega, by omega, HHS.out, fun j hj => by rcases Nat.lt_or_eq_of_le (Nat.le_of_lt_succ hj) with h1 | rfl; exact HA.out j h1; rw [HBK.out]; exact hle, cb_grown HC.out HR.out (Nat.lt_succ_self _) hgrow, HB.out.trans hb2⟩, by simp [intOf]; omega⟩
      · have hno : ¬ (i % c.e = 0 ∧ c.s < bv) := fun hh => hz ((Nx.is h hin hi0 HN.out).1 (by rw [HV.out]; exact hh))
        have HT := Lib.hid (HN.out.skip h hi0 hz)
        clear hz
        by_cases hz2 : i % c.e = 0
        · have hn2 : ¬ c.s < bv := fun hh => hno ⟨hz2, hh⟩
          have hn3 : (i % c.e == 0) = true := by simpa using hz2
          clear hno hz2 hE
          go_wp2_with (go_at_call 53; refine (KL.out _).mono ?_; rintro e w' ⟨rfl, rfl⟩)
          exact ⟨⟨k, i + 1, g, cap, rfl, by rw [Int.add_assoc], by rw [HF.out], rfl, by omega, by omega, HT.out, HR.out, by omega, by omega, HH.out, HA.out, HC.out, HB.out⟩, by simp [intOf]; omega⟩
        · have hn3 : (i % c.e == 0) = false := by simpa using hz2
          clear hno hz2 hE
          go_wp2_with (go_at_call 53; refine (KL.out _).mono ?_; rintro e w' ⟨rfl, rfl⟩)
          exact ⟨⟨k, i + 1, g, cap, rfl, by rw [Int.add_assoc], by rw [HF.out], rfl, by omega, by omega, HT.out, HR.out, by omega, by omega, HH.out, HA.out, HC.out, HB.out⟩, by simp [intOf]; omega⟩
    · obtain ⟨bv, hbv⟩ : ∃ bv, f0 + 1 + ln - 1 = bv := ⟨_, rfl⟩
      have hbv1 : 0 ≤ bv ∧ bv ≤ 3652060 := by omega
      obtain ⟨hbv1, hbv2⟩ := hbv1
      have HV := Lib.hid (show atv (m + i) c.a = bv by unfold atv; rw [hf0]; rw [if_neg (by omega)]; omega)
      by_cases hz : fst c m - m + (k : Int) * c.e = i
      · have hnxt := (Nx.is h hin hi0 HN.out).2 hz
        rw [HV.out] at hnxt
        obtain ⟨hn1, hn2⟩ := hnxt
        have hn3 : (i % c.e == 0) = true := by simpa using hn1
        have HT := Lib.hid (HN.out.take h hz)
        have HBN := Lib.hid (show bnd c m (k + 1) = bv by rw [bnd_nx hz]; exact HV.out)
        have HHS := Lib.hid (show Has c m (k + 1) by rw [has_s]; omega)
        clear hz hn1 hE
        go_wp2_with (first | (go_at_call 53; refine (KL.out _).mono ?_; rintro e w' ⟨rfl, rfl⟩) | (at_builtin; refine wpList_append_own _ rfl _ _ 72 rfl (w.heap.size + 1) 3 i0 (.int .i64 0) 1 8 Tryd.underlying72 hi hz0 hz1 hz2 rfl (by decide) _ _ _ rfl (hrow.alloc _) ⟨wr.heap.size, 0, none⟩ 1 1 [.int .i64 bv] rfl rfl (one_new _ _ _) (by simp [Value.oneCell']) (by unfold maxLen; omega) (by omega) (by simp; omega) ?_; intro v' w1' hown' hgrow _; obtain ⟨g', cap', rfl⟩ := own_form hown' (by omega)))
        have hb2 : Below w.heap.size wr w1' := (grown_below HR.out hsz hgrow).mono (Nat.le_succ _)
        exact ⟨⟨k + 1, i + 1, g', cap', rfl, by rw [Int.add_assoc], by rw [HF.out], rfl, by omega, by omega, HT.out, by rw [BL_succ, HBN.out]; exact hown', by omega, by omega, HHS.out, fun j hj => by rcases Nat.lt_or_eq_of_le (Nat.le_of_lt_succ hj) with h1 | rfl; exact HA.out j h1; rw [HBK.out]; exact hle, cb_grown HC.out HR.out (Nat.lt_succ_self _) hgrow, HB.out.trans hb2⟩, by simp [intOf]; omega⟩
      · have hno : ¬ (i % c.e = 0 ∧ c.s < bv) := fun hh => hz ((Nx.is h hin hi0 HN.out).1 (by rw [HV.out]; exact hh))
        have HT := Lib.hid (HN.out.skip h hi0 hz)
        clear hz
        by_cases hz2 : i % c.e = 0
        · have hn2 : ¬ c.s < bv := fun hh => hno ⟨hz2, hh⟩
          have hn3 : (i % c.e == 0) = true := by simpa using hz2
          clear hno hz2 hE
          go_wp2_with (go_at_call 53; refine (KL.out _).mono ?_; rintro e w' ⟨rfl, rfl⟩)
          exact ⟨⟨k, i + 1, g, cap, rfl, by rw [Int.add_assoc], by rw [HF.out], rfl, by omega, by omega, HT.out, HR.out, by omega, by omega, HH.out, HA.out, HC.out, HB.out⟩, by simp [intOf]; omega⟩
        · have hn3 : (i % c.e == 0) = false := by simpa using hz2
          clear hno hz2 hE
          go_wp2_with (go_at_call 53; refine (KL.out _).mono ?_; rintro e w' ⟨rfl, rfl⟩)
          exact ⟨⟨k, i + 1, g, cap, rfl, by rw [Int.add_assoc], by rw [HF.out], rfl, by omega, by omega, HT.out, HR.out, by omega, by omega, HH.out, HA.out, HC.out, HB.out⟩, by simp [intOf]; omega⟩
end Go.Proofs.YtjchecjonkmhgaaDoor.An
