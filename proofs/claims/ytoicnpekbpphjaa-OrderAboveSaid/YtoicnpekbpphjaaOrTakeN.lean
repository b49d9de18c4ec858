/- Package order: takeNumber and its closure. -/
import Derived.Test.YtoicnpekbpphjaaOrTake
import Derived.Test.YtoicnpekbpphjaaOrRow
import Derived.Deep.QuietTactic
import Derived.BigQuiet
namespace Go.Proofs.Ytoicnpekbpphjaa.Or
open Go.RowKit Cm
def flv (b : Bool) : Int := if b then 255 else 0
theorem xor_fl (b : Bool) (c : UInt8) : bits .xor .u8 (c.toNat : Int) (flv b) = ((fl b c).toNat : Int) := by
  cases b with
  | true => exact xor255 c
  | false =>
    have h := u8_xor_nat c.toNat 0 c.toNat_lt (by omega)
    rw [show ((0 : Nat) : Int) = 0 from rfl, Nat.xor_zero] at h
    exact h
/-- The two boxes that the closure reads. -/
structure Bx2 (w : World) (A B : Nat) (F : ByteArray) (b : Bool) : Prop where
  s : w.cell? ⟨A, 0, none⟩ = some (.string F)
  f : w.cell? ⟨B, 0, none⟩ = some (.int .u8 (flv b))
  la : A < w.heap.size
  lb : B < w.heap.size
theorem Bx2.later {w w' : World} {A B : Nat} {F : ByteArray} {b : Bool} (h : Bx2 w A B F b) (hb : Below w.heap.size w w') : Bx2 w' A B F b :=
  ⟨(hb.cell (p := ⟨A, 0, none⟩) h.la).trans h.s, (hb.cell (p := ⟨B, 0, none⟩) h.lb).trans h.f, Nat.lt_of_lt_of_le h.la hb.size, Nat.lt_of_lt_of_le h.lb hb.size⟩
set_option maxRecDepth 100000 in
theorem read_c (A B : Nat) (F : ByteArray) (b : Bool) (i : Nat) (w : World) (h : Bx2 w A B F b) (hi : i < F.size) : Calls Try.prog 42 #[.int .i64 (i : Int), .pointer (some ⟨A, 0, none⟩), .pointer (some ⟨B, 0, none⟩)] w fun e w' => e = .returned (.int .u8 ((fl b F[i]).toNat : Int)) ∧ Below w.heap.size w w' := by
  obtain ⟨h1, h2, h3, h4⟩ := h
  have p0 : (0 : Int) ≤ (i : Int) := by omega
  have p1 : (i : Int) < (F.size : Int) := by omega
  have hx := xor_fl b F[i]
  obtain ⟨z, hz⟩ : ∃ z, F[i] = z := ⟨_, rfl⟩
  rw [hz] at hx ⊢
  obtain ⟨y, hy⟩ : ∃ y, (fl b z).toNat = y := ⟨_, rfl⟩
  rw [hy] at hx ⊢
  clear h3 h4 hy
  go_enter Try.func42, Try.ntmps42
  go_wp2_with fail
  go_quiet (fail)
  go_wp2_with fail
  go_ret
  exact ⟨rfl, below_drewN (Below.refl _ w) _⟩
def outN : Option (Nat × List UInt8) → Value
  | none => .tuple #[.int .u64 0, .string ⟨#[]⟩, .bool false]
  | some (n, r) => .tuple #[.int .u64 (n : Int), .string ⟨r.toArray⟩, .bool true]
theorem or_byte (n : Nat) (c : UInt8) (h : n < 72057594037927936) : bits .or .u64 ((n : Int) * 256) (c.toNat : Int) = ((256 * n + c.toNat : Nat) : Int) := by
  have hc := c.toNat_lt
  have := u64_or_nat (n * 256) c.toNat (by omega) (by omega)
  rw [nat_join8 (n * 256) c.toNat (by omega) hc] at this
  rw [show ((n * 256 : Nat) : Int) = (n : Int) * 256 by omega] at this
  rw [this]
  congr 1
  omega
theorem val_next (l : List UInt8) (k : Nat) (hk : k < l.length) : valL (l.take (k + 1)) = 256 * valL (l.take k) + l[k].toNat := by
  rw [List.take_succ_eq_append_getElem hk, val_snoc]
theorem ext_drop (s : ByteArray) (k : Nat) : s.extract k s.size = ⟨(s.data.toList.drop k).toArray⟩ := by
  apply ByteArray.ext
  apply Array.ext'
  have e : s.data.toList.length = s.size := by simp
  simp only [ByteArray.data_extract, Array.toList_extract, List.extract_eq_take_drop]
  rw [List.take_of_length_le (by rw [List.length_drop]; omega)]
theorem two_boxes (w : World) (F : ByteArray) (b : Bool) : Bx2 ((w.alloc (.cells #[.string F] 9)).alloc (.cells #[.int .u8 (flv b)] 5)) w.heap.size (w.heap.size + 1) F b := by
  refine ⟨?_, ?_, by simp; omega, by simp⟩
  · have h1 : (w.alloc (.cells #[.string F] 9)).cell? ⟨w.heap.size, 0, none⟩ = some (.string F) := by rw [World.cell?_alloc_at _ _ _ _ rfl]; rfl
    exact (((Below.refl (w.alloc (.cells #[.string F] 9)).heap.size _).alloc (Nat.le_refl _) _).cell (p := ⟨w.heap.size, 0, none⟩) (by simp)).trans h1
  · rw [World.cell?_alloc_at _ _ _ _ (by simp)]; rfl
set_option maxRecDepth 100000 in
set_option maxHeartbeats 3200000 in
theorem takeNumber_c (F : ByteArray) (base : Nat) (b : Bool) (w : World) (hb : base ≤ 128) (hF : 0 < F.size) (hF9 : F.size ≤ 100000) : Calls Try.prog 39 #[.string F, .int .u8 (base : Int), .int .u8 (flv b)] w fun e w' => e = .returned (outN (tnum base b F.data.toList)) ∧ Below w.heap.size w w' := by
  obtain ⟨L, hL⟩ : ∃ L, F.data.toList = L := ⟨_, rfl⟩
  have hLs : L.length = F.size := by rw [← hL]; simp
  have hat : ∀ j (h : j < F.size) (h' : j < L.length), F[j] = L[j] := fun j h h' => by subst hL; exact (byte_at F j h).symm
  have HAT := Lib.hid hat
  have HF := Lib.hid hL
  have HLS := Lib.hid hLs
  obtain ⟨M, hM⟩ : ∃ M, manyL base b L = M := ⟨_, rfl⟩
  have HM := Lib.hid hM
  have hM9 : M < 256 := by rw [← hM]; unfold manyL; omega
  have h0 : L.getD 0 0 = F[0] := by rw [hat 0 hF (by omega)]; simp [List.getD, show 0 < L.length by omega]
  have hw : IntKind.u8.wrap (((fl b F[0]).toNat : Int) - (base : Int)) = (M : Int) := by
    rw [IntKind.wrap_u8, ← hM]
    unfold manyL
    rw [h0]
    have := (fl b F[0]).toNat_lt
    omega
  have HT := Lib.hid (show tnum base b L = if 8 < M then none else if L.length ≤ M then none else if 0 < M ∧ fl b (L.getD 1 0) = 0 then none else some (valL (((L.drop 1).take M).map (fl b)), L.drop (1 + M)) by unfold tnum; rw [hM])
  have HB2 := Lib.hid (show Bx2 ((w.alloc (.cells #[.string F] 9)).alloc (.cells #[.int .u8 (flv b)] 5)) w.heap.size (w.heap.size + 1) F b from two_boxes w F b)
  have HB := Lib.hid (below2 w (.cells #[.string F] 9) (.cells #[.int .u8 (flv b)] 5))
  have KR := Lib.hid (fun i w' h hi => read_c w.heap.size (w.heap.size + 1) F b i w' h hi)
  rw [hL]
  clear hL hLs hat hM h0
  go_enter Try.func39, Try.ntmps39
  go_wp2_with fail
  refine (KR.out 0 _ HB2.out hF).mono ?_
  rintro e w2 ⟨rfl, b2⟩
  have X2 := Lib.hid (HB2.out.later b2)
  have B2 := Lib.hid (HB.out.trans (b2.mono HB.out.size))
  obtain ⟨z0, hz0⟩ : ∃ z, (fl b F[0]).toNat = z := ⟨_, rfl⟩
  rw [hz0] at hw ⊢
  clear b2 hz0 HB HB2
  by_cases h8 : 8 < M
  · have HT2 := Lib.hid (show tnum base b L = none by rw [HT.out, if_pos h8])
    have q1 : (8 : Int) < (M : Int) := by omega
    go_wp2_with fail
    go_ret3
    exact ⟨by rw [HT2.out]; rfl, B2.out⟩
  · have q1 : (M : Int) ≤ 8 := by omega
    have x1 := X2.out.s
    by_cases hl : L.length ≤ M
    · have HT2 := Lib.hid (show tnum base b L = none by rw [HT.out, if_neg h8, if_pos hl])
      have q2 : (F.size : Int) ≤ (M : Int) := by have := HLS.out; omega
      go_wp2_with fail
      go_ret3
      exact ⟨by rw [HT2.out]; rfl, B2.out⟩
    · have q2 : (M : Int) < (F.size : Int) := by have := HLS.out; omega
      have g1 : decide ((8 : Int) < (M : Int)) = false := decide_eq_false (by omega)
      have g2 : decide (F.size ≤ M) = false := decide_eq_false (by omega)
      obtain ⟨D, hD⟩ : ∃ D, ((L.drop 1).take M).map (fl b) = D := ⟨_, rfl⟩
      have HDL := Lib.hid (show D.length = M by rw [← hD, List.length_map, List.length_take, List.length_drop]; omega)
      have HDK := Lib.hid (show ∀ j (hj : j < M) (h1 : j < D.length) (h2 : 1 + j < F.size), D[j] = fl b F[1 + j] by
        intro j hj h1 h2
        subst hD
        rw [List.getElem_map, HAT.out (1 + j) h2 (by omega)]
        congr 1
        rw [List.getElem_take, List.getElem_drop])
      have HT2 := Lib.hid (show tnum base b L = if 0 < M ∧ fl b (L.getD 1 0) = 0 then none else some (valL D, L.drop (1 + M)) by rw [HT.out, if_neg h8, if_neg hl, hD])
      clear hD
      rcases Nat.eq_zero_or_pos M with hm0 | hm0
      · have HT3 := Lib.hid (show tnum base b L = some (valL D, L.drop (1 + M)) by rw [HT2.out, if_neg (by omega)])
        have q3 : ¬ (0 : Int) < (M : Int) := by omega
        have XS := X2
        have BS := B2
        clear hm0
        go_wp2_with fail
        go_loopw [6, 11, 36] (fun s6 _ s36 wr => ∃ k : Nat, k ≤ M ∧ s6 = .int .u64 (valL (D.take k) : Int) ∧ s36 = .int .i64 (k : Int) ∧ Bx2 wr w.heap.size (w.heap.size + 1) F b ∧ Below w.heap.size w wr) (fun _ _ s36 _ => M - (intOf s36).toNat)
        case atStart => exact ⟨0, by omega, rfl, rfl, XS.out, BS.out⟩
        case round =>
          obtain ⟨k, hk, rfl, rfl, hX, hB⟩ := hrel
          have X4 := Lib.hid hX
          have B4 := Lib.hid hB
          clear hX hB
          by_cases hlt : k < M
          · have p1 : (k : Int) < (M : Int) := by omega
            have p2 : (1 : Int) + (k : Int) = ((1 + k : Nat) : Int) := by omega
            have hnx := val_next D k (by rw [HDL.out]; exact hlt)
            rw [HDK.out k hlt (by rw [HDL.out]; exact hlt) (by omega)] at hnx
            have hv := val_lt k (D.take k) (by rw [List.length_take]; omega)
            have hv2 : valL (D.take k) < 72057594037927936 := Nat.lt_of_lt_of_le hv (by have : (256 : Nat) ^ k ≤ 256 ^ 7 := Nat.pow_le_pow_right (by omega) (by omega); omega)
            have HNX := Lib.hid hnx
            obtain ⟨v, hvv⟩ : ∃ v, valL (D.take k) = v := ⟨_, rfl⟩
            rw [hvv] at HNX hv2 ⊢
            have hor := or_byte v (fl b (F[1 + k]'(by omega))) hv2
            have hsh : IntKind.u64.wrap ((v : Int) * 256) = (v : Int) * 256 := by rw [IntKind.wrap_u64]; omega
            obtain ⟨z, hz⟩ : ∃ z, (fl b (F[1 + k]'(by omega))) = z := ⟨_, rfl⟩
            have K1 := Lib.hid (fun w3 h => hz ▸ KR.out (1 + k) w3 h (by omega))
            rw [hz] at HNX hor
            have hwz : IntKind.u64.wrap (z.toNat : Int) = (z.toNat : Int) := by rw [IntKind.wrap_u64]; have := z.toNat_lt; omega
            obtain ⟨y, hy⟩ : ∃ y, 256 * v + z.toNat = y := ⟨_, rfl⟩
            rw [hy] at HNX hor
            clear hv hv2 hvv hnx hz hy
            rw [← p2] at K1
            clear p2
            go_wp2_with fail
            refine (K1.out _ X4.out).mono ?_
            rintro e w5 ⟨rfl, b5⟩
            have X5 := Lib.hid (X4.out.later b5)
            have B5 := Lib.hid (B4.out.trans (b5.mono B4.out.size))
            clear b5
            go_wp2_with fail
            exact ⟨⟨k + 1, by omega, by rw [HNX.out], by simp, X5.out, B5.out⟩, by simp [intOf]; omega⟩
          · obtain rfl : k = M := by omega
            have HV := Lib.hid (show D.take k = D from List.take_of_length_le (by rw [HDL.out]; exact Nat.le_refl _))
            rw [HV.out]
            obtain ⟨x1, x2, x3, x4⟩ := X4.out
            have p2 : (1 : Int) + (k : Int) ≤ (F.size : Int) := by omega
            have p3 : (0 : Int) ≤ 1 + (k : Int) := by omega
            have p4 : (1 + (k : Int)).toNat = 1 + k := by omega
            have hw1 : IntKind.i64.wrap (1 + (k : Int)) = 1 + (k : Int) := IntWalk.i64_in _ (by omega)
            have HE := Lib.hid (show F.extract (1 + k) F.size = ⟨(L.drop (1 + k)).toArray⟩ by rw [ext_drop, HF.out])
            clear x2 x3 x4
            go_wp2_with fail
            go_quiet (fail)
            go_wp2_with fail
            go_ret3
            exact ⟨by rw [HT3.out]; show _ = Ending.returned (.tuple #[_, _, _]); rw [← HE.out]; rfl, below_drewN B4.out _⟩
      · have h1F : 1 < F.size := by omega
        have hq : L.getD 1 0 = F[1] := by rw [HAT.out 1 h1F (by omega)]; simp [List.getD, show 1 < L.length by omega]
        have q3 : (0 : Int) < (M : Int) := by omega
        go_wp2_with fail
        refine (KR.out 1 _ X2.out h1F).mono ?_
        rintro e w3 ⟨rfl, b3⟩
        have XS := Lib.hid (X2.out.later b3)
        have BS := Lib.hid (B2.out.trans (b3.mono B2.out.size))
        clear b3
        by_cases hz : fl b F[1] = 0
        · have HT3 := Lib.hid (show tnum base b L = none by rw [HT2.out, if_pos ⟨hm0, by rw [hq]; exact hz⟩])
          have q4 : (((fl b F[1]).toNat : Int) == 0) = true := by rw [hz]; rfl
          obtain ⟨y, hy⟩ : ∃ y, (fl b F[1]).toNat = y := ⟨_, rfl⟩
          rw [hy] at q4 ⊢
          clear hz hy
          go_wp2_with fail
          go_ret3
          exact ⟨by rw [HT3.out]; rfl, BS.out⟩
        · have HT3 := Lib.hid (show tnum base b L = some (valL D, L.drop (1 + M)) by rw [HT2.out, if_neg (fun h => hz (by rw [← hq]; exact h.2))])
          have q4 : (((fl b F[1]).toNat : Int) == 0) = false := beq_eq_false_iff_ne.2 (fun h => hz (UInt8.toNat_inj.1 (by simpa using h)))
          obtain ⟨y, hy⟩ : ∃ y, (fl b F[1]).toNat = y := ⟨_, rfl⟩
          rw [hy] at q4 ⊢
          clear hz hy
          go_wp2_with fail
          go_loopw [6, 11, 36] (fun s6 _ s36 wr => ∃ k : Nat, k ≤ M ∧ s6 = .int .u64 (valL (D.take k) : Int) ∧ s36 = .int .i64 (k : Int) ∧ Bx2 wr w.heap.size (w.heap.size + 1) F b ∧ Below w.heap.size w wr) (fun _ _ s36 _ => M - (intOf s36).toNat)
          case atStart => exact ⟨0, by omega, rfl, rfl, XS.out, BS.out⟩
          case round =>
            obtain ⟨k, hk, rfl, rfl, hX, hB⟩ := hrel
            have X4 := Lib.hid hX
            have B4 := Lib.hid hB
            clear hX hB
            by_cases hlt : k < M
            · have p1 : (k : Int) < (M : Int) := by omega
              have p2 : (1 : Int) + (k : Int) = ((1 + k : Nat) : Int) := by omega
              have hnx := val_next D k (by rw [HDL.out]; exact hlt)
              rw [HDK.out k hlt (by rw [HDL.out]; exact hlt) (by omega)] at hnx
              have hv := val_lt k (D.take k) (by rw [List.length_take]; omega)
              have hv2 : valL (D.take k) < 72057594037927936 := Nat.lt_of_lt_of_le hv (by have : (256 : Nat) ^ k ≤ 256 ^ 7 := Nat.pow_le_pow_right (by omega) (by omega); omega)
              have HNX := Lib.hid hnx
              obtain ⟨v, hvv⟩ : ∃ v, valL (D.take k) = v := ⟨_, rfl⟩
              rw [hvv] at HNX hv2 ⊢
              have hor := or_byte v (fl b (F[1 + k]'(by omega))) hv2
              have hsh : IntKind.u64.wrap ((v : Int) * 256) = (v : Int) * 256 := by rw [IntKind.wrap_u64]; omega
              obtain ⟨z, hz⟩ : ∃ z, (fl b (F[1 + k]'(by omega))) = z := ⟨_, rfl⟩
              have K1 := Lib.hid (fun w3 h => hz ▸ KR.out (1 + k) w3 h (by omega))
              rw [hz] at HNX hor
              have hwz : IntKind.u64.wrap (z.toNat : Int) = (z.toNat : Int) := by rw [IntKind.wrap_u64]; have := z.toNat_lt; omega
              obtain ⟨y, hy⟩ : ∃ y, 256 * v + z.toNat = y := ⟨_, rfl⟩
              rw [hy] at HNX hor
              clear hv hv2 hvv hnx hz hy
              rw [← p2] at K1
              clear p2
              go_wp2_with fail
              refine (K1.out _ X4.out).mono ?_
              rintro e w5 ⟨rfl, b5⟩
              have X5 := Lib.hid (X4.out.later b5)
              have B5 := Lib.hid (B4.out.trans (b5.mono B4.out.size))
              clear b5
              go_wp2_with fail
              exact ⟨⟨k + 1, by omega, by rw [HNX.out], by simp, X5.out, B5.out⟩, by simp [intOf]; omega⟩
            · obtain rfl : k = M := by omega
              have HV := Lib.hid (show D.take k = D from List.take_of_length_le (by rw [HDL.out]; exact Nat.le_refl _))
              rw [HV.out]
              obtain ⟨x1, x2, x3, x4⟩ := X4.out
              have p2 : (1 : Int) + (k : Int) ≤ (F.size : Int) := by omega
              have p3 : (0 : Int) ≤ 1 + (k : Int) := by omega
              have p4 : (1 + (k : Int)).toNat = 1 + k := by omega
              have hw1 : IntKind.i64.wrap (1 + (k : Int)) = 1 + (k : Int) := IntWalk.i64_in _ (by omega)
              have HE := Lib.hid (show F.extract (1 + k) F.size = ⟨(L.drop (1 + k)).toArray⟩ by rw [ext_drop, HF.out])
              clear x2 x3 x4
              go_wp2_with fail
              go_quiet (fail)
              go_wp2_with fail
              go_ret3
              exact ⟨by rw [HT3.out]; show _ = Ending.returned (.tuple #[_, _, _]); rw [← HE.out]; rfl, below_drewN B4.out _⟩
end Go.Proofs.Ytoicnpekbpphjaa.Or
