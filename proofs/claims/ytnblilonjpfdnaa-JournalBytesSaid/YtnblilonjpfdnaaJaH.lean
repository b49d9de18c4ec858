/- Joined: TaRef2 TaRef3. -/
import Derived.Test.YtnblilonjpfdnaaJaG
import Derived.Deep.RegionHeld3
section
namespace Go.Proofs.Ytnblilonjpfdnaa.Tal
open Go.RowKit Cm
/-- How far the document's way has come: j bytes, all high; what they say; what the register holds. -/
def Far (b : List UInt8) (j acc : Nat) (nv : Nat) : Prop := Ta.up acc = b.take j ∧ nv < 18446744073709551616 ∧ (j = 0 → nv = 0 ∧ acc = 0) ∧ (j ≠ 0 → acc % 18446744073709551616 = (nv + 1) % 18446744073709551616)
def nextN (j nv c : Nat) : Nat := if j = 0 then c % 128 else (128 * ((nv + 1) % 18446744073709551616) % 18446744073709551616 + c % 128) % 18446744073709551616
theorem nextN_0 (j nv c : Nat) (h : j = 0) : nextN j nv c = c % 128 := by unfold nextN; rw [if_pos h]
theorem nextN_1 (j nv c : Nat) (h : j ≠ 0) : ((nextN j nv c : Nat) : Int) = IntKind.u64.wrap (IntKind.u64.wrap (128 * IntKind.u64.wrap ((nv : Int) + 1)) + (c : Int) % 128) := by
  unfold nextN; rw [if_neg h, IntKind.wrap_u64, IntKind.wrap_u64, IntKind.wrap_u64]; omega
theorem nextN_lt (j nv c : Nat) : nextN j nv c < 18446744073709551616 := by unfold nextN; split <;> omega
theorem far_next (b : List UInt8) (j acc nv : Nat) (h : Far b j acc nv) (hj : j < b.length) (hc : ¬ b[j].toNat < 128) : Far b (j + 1) (acc * 128 + (b[j].toNat - 128) + 1) (nextN j nv b[j].toNat) := by
  obtain ⟨h1, h2, h3, h4⟩ := h
  have := b[j].toNat_lt
  refine ⟨Ta.up_more b acc j h1 hj hc, nextN_lt _ _ _, fun e => by omega, fun _ => ?_⟩
  unfold nextN
  split
  · rename_i h0
    have := h3 h0
    omega
  · rename_i h0
    have := h4 h0
    omega
theorem far_low (b : List UInt8) (j acc nv : Nat) (h : Far b j acc nv) (hc : b[j]!.toNat < 128) : nextN j nv b[j]!.toNat = (acc * 128 + b[j]!.toNat) % 18446744073709551616 := by
  obtain ⟨h1, h2, h3, h4⟩ := h
  unfold nextN
  split
  · rename_i h0
    have := h3 h0
    omega
  · rename_i h0
    have := h4 h0
    omega
/-- What the document's way does at a low byte: it holds the number's bytes against those that it read. -/
theorem low_yes (b : List UInt8) (j nv c : Nat) (hN : Ta.num (nextN j nv c) = b.take (j + 1)) : Ta.take 0 b = some (nextN j nv c, b.drop (j + 1)) := by
  have h2 := Ta.take_back (nextN j nv c) (b.drop (j + 1)) (nextN_lt _ _ _)
  rw [hN, List.take_append_drop] at h2
  exact h2
theorem low_no (b : List UInt8) (j acc nv : Nat) {c' : UInt8} (h : Far b j acc nv) (hj : j < b.length) (e : b[j] = c') (hc : c'.toNat < 128) (hN : Ta.num (nextN j nv c'.toNat) ≠ b.take (j + 1)) : Ta.take 0 b = none := by
  subst e
  refine Ta.take_not b acc j h.1 hj hc (fun hm => hN ?_)
  have h1 := far_low b j acc nv h (by rw [getElem!_pos b j hj]; exact hc)
  rw [getElem!_pos b j hj] at h1
  rw [h1, Nat.mod_eq_of_lt hm]
  exact Ta.num_more b acc j h.1 hj hc
theorem str_eq (N : Nat) (s : ByteArray) (k : Nat) (h : Ta.num N = s.data.toList.take k) : (⟨(Ta.num N).toArray⟩ : ByteArray) = s.extract 0 k := by
  rw [h]
  apply ByteArray.ext
  apply Array.ext'
  simp
theorem ext_list (s : ByteArray) (k : Nat) : (s.extract 0 k).toList = s.data.toList.take k := by
  have e : s.extract 0 k = ⟨(s.data.toList.take k).toArray⟩ := by
    apply ByteArray.ext
    apply Array.ext'
    simp
  rw [e]
  exact ByteArray.toList_mk _
theorem str_neq (N : Nat) (s : ByteArray) (k : Nat) (h : Ta.num N ≠ s.data.toList.take k) : (Ta.num N == (s.extract 0 k).toList) = false := by
  rw [ext_list]
  exact beq_eq_false_iff_ne.2 h
theorem drop_str (s : ByteArray) (k : Nat) : s.extract k s.size = ⟨(s.data.toList.drop k).toArray⟩ := ext_drop s k
set_option maxRecDepth 100000 in
set_option maxHeartbeats 1600000 in
theorem refTakeNum_c (s : ByteArray) (w : World) (hs : s.size ≤ 4611686018427387904) :
    Calls Try.prog 87 #[.string s] w (NumRes (Ta.take 0 s.data.toList) w) := by
  go_enter Try.func87, Try.ntmps87
  go_wp2_with fail
  go_loopw [5, 6] (fun n k wr => ∃ (j acc nv : Nat), j ≤ s.size ∧ j ≤ 10 ∧ k = .int .i64 ((j : Int) + 1) ∧ n = .int .u64 nv ∧ Far s.data.toList j acc nv ∧ Below w.heap.size w wr) (fun _ k _ => 11 - (intOf k).toNat)
  case atStart => exact ⟨0, 0, 0, by omega, by omega, rfl, rfl, ⟨by rw [Ta.up_zero]; simp, by omega, fun _ => ⟨rfl, rfl⟩, fun h => absurd rfl h⟩, Below.refl _ _⟩
  case round =>
    obtain ⟨j, acc, nv, hj, hj10, rfl, rfl, hf0, hB0⟩ := hrel
    have HF := Lib.hid hf0
    have HB := Lib.hid hB0
    clear hf0 hB0
    by_cases hlt : j < s.size
    · by_cases h10 : j < 10
      · have hb : s[j].toNat < 256 := s[j].toNat_lt
        have q0 : (0 : Int) ≤ (j : Int) + 1 := by omega
        have q1 : (j : Int) + 1 ≤ (s.size : Int) := by omega
        have HL := Lib.hid (show j < s.data.toList.length by simpa using hlt)
        have HC := Lib.hid (show s.data.toList[j]'(by simpa using hlt) = s[j] by simp; rfl)
        rcases Nat.eq_zero_or_pos j with rfl | h0
        · obtain ⟨rfl, rfl⟩ := HF.out.2.2.1 rfl
          by_cases hc : (s[0].toNat : Int) < 128
          · obtain ⟨acc, HA⟩ : ∃ acc, Hid (acc = 0) := ⟨0, rfl⟩
            obtain ⟨nv, HV⟩ : ∃ nv, Hid (nv = 0) := ⟨0, rfl⟩
            have HF := Lib.hid (show Far s.data.toList 0 acc nv by rw [HA.out, HV.out]; exact HF.out)
            obtain ⟨N, HG⟩ : ∃ N, Hid (N = nextN 0 nv s[0].toNat) := ⟨_, Lib.hid rfl⟩
            have HN := Lib.hid (show (s[0].toNat : Int) % 128 = (N : Int) by rw [HG.out, nextN_0 _ _ _ rfl]; omega)
            have K := Lib.hid (fun (z : Int) w (h : z = (N : Int)) => h ▸ refNum_c N w (by rw [HG.out]; exact nextN_lt _ _ _))
            by_cases hq : Ta.num N = s.data.toList.take 1
            · have he := str_eq N s 1 hq
              have HX := Lib.hid (low_yes s.data.toList 0 nv s[0].toNat (by rw [HG.out] at hq; exact hq))
              have HD := Lib.hid (drop_str s 1)
              have HG2 := Lib.hid (show N < 18446744073709551616 by rw [HG.out]; exact nextN_lt _ _ _)
              clear hq
              go_wp2_with fail
              go_region_held3 (fun u => Below w.heap.size w u) (first | exact HB.out | exact HB.out.drew | exact D1 | assumption)
                (first | (go_at_call 64; refine (K.out _ _ ?_).mono ?_; exact HN.out; rintro e u1 ⟨rfl, b1⟩; have D1 := Below.trans (by assumption) (b1.mono (Below.size (by assumption)))))
              go_wp2_with fail
              go_quiet (fail)
              go_wp2_with fail
              go_ret3
              rw [HX.out]
              exact ⟨ret_isb (by rw [← HG.out]; exact HN.out) HD.out rfl, ⟨D1.os, D1.tape, D1.output, D1.size, D1.block⟩⟩
            · have he := str_neq N s 1 hq
              have HX := Lib.hid (low_no s.data.toList 0 acc nv HF.out HL.out HC.out (by omega) (by rw [HG.out] at hq; exact hq))
              clear hq
              go_wp2_with fail
              go_region_held3 (fun u => Below w.heap.size w u) (first | exact HB.out | exact HB.out.drew | exact D1 | assumption)
                (first | (go_at_call 64; refine (K.out _ _ ?_).mono ?_; exact HN.out; rintro e u1 ⟨rfl, b1⟩; have D1 := Below.trans (by assumption) (b1.mono (Below.size (by assumption)))))
              go_wp2_with fail
              go_ret3
              rw [HX.out]
              exact ⟨rfl, D1⟩
          · have HF2 := Lib.hid (far_next s.data.toList 0 0 0 HF.out HL.out (by rw [HC.out]; omega))
            rw [HC.out, nextN_0 _ _ _ rfl] at HF2
            go_wp2_with fail
            exact ⟨⟨1, _, s[0].toNat % 128, by omega, by omega, rfl, congrArg (Value.int .u64) (by omega), HF2.out, HB.out⟩, by simp [intOf]⟩
        · by_cases hc : (s[j].toNat : Int) < 128
          · obtain ⟨N, HG⟩ : ∃ N, Hid (N = nextN j nv s[j].toNat) := ⟨_, Lib.hid rfl⟩
            have HN := Lib.hid (show IntKind.u64.wrap (IntKind.u64.wrap (128 * IntKind.u64.wrap ((nv : Int) + 1)) + (s[j].toNat : Int) % 128) = (N : Int) by rw [HG.out, nextN_1 _ _ _ (by omega)])
            have K := Lib.hid (fun (z : Int) w (h : z = (N : Int)) => h ▸ refNum_c N w (by rw [HG.out]; exact nextN_lt _ _ _))
            by_cases hq : Ta.num N = s.data.toList.take (j + 1)
            · have he := str_eq N s (j + 1) hq
              have HX := Lib.hid (low_yes s.data.toList j nv s[j].toNat (by rw [HG.out] at hq; exact hq))
              have HD := Lib.hid (drop_str s (j + 1))
              have HG2 := Lib.hid (show N < 18446744073709551616 by rw [HG.out]; exact nextN_lt _ _ _)
              clear hq
              go_wp2_with fail
              go_region_held3 (fun u => Below w.heap.size w u) (first | exact HB.out | exact HB.out.drew | exact D1 | assumption)
                (first | (go_at_call 64; refine (K.out _ _ ?_).mono ?_; exact HN.out; rintro e u1 ⟨rfl, b1⟩; have D1 := Below.trans (by assumption) (b1.mono (Below.size (by assumption)))))
              go_wp2_with fail
              go_quiet (fail)
              go_wp2_with fail
              go_ret3
              rw [HX.out]
              exact ⟨ret_isb (by rw [← HG.out]; exact HN.out) HD.out rfl, ⟨D1.os, D1.tape, D1.output, D1.size, D1.block⟩⟩
            · have he := str_neq N s (j + 1) hq
              have HX := Lib.hid (low_no s.data.toList j acc nv HF.out HL.out HC.out (by omega) (by rw [HG.out] at hq; exact hq))
              clear hq
              go_wp2_with fail
              go_region_held3 (fun u => Below w.heap.size w u) (first | exact HB.out | exact HB.out.drew | exact D1 | assumption)
                (first | (go_at_call 64; refine (K.out _ _ ?_).mono ?_; exact HN.out; rintro e u1 ⟨rfl, b1⟩; have D1 := Below.trans (by assumption) (b1.mono (Below.size (by assumption)))))
              go_wp2_with fail
              go_ret3
              rw [HX.out]
              exact ⟨rfl, D1⟩
          · have HF2 := Lib.hid (far_next s.data.toList j acc nv HF.out HL.out (by rw [HC.out]; omega))
            have HN := Lib.hid (nextN_1 j nv s[j].toNat (by omega))
            rw [HC.out] at HF2
            go_wp2_with fail
            exact ⟨⟨j + 1, _, nextN j nv s[j].toNat, by omega, by omega, by simp, congrArg (Value.int .u64) HN.out.symm, HF2.out, HB.out⟩, by simp [intOf]; omega⟩
      · have HX := Lib.hid (Ta.take_hi s.data.toList acc j HF.out.1 (.inr (by omega)))
        go_wp2_with fail
        go_ret3
        rw [HX.out]
        exact ⟨rfl, HB.out⟩
    · have HX := Lib.hid (Ta.take_hi s.data.toList acc j HF.out.1 (.inl (by simp; omega)))
      go_wp2_with fail
      go_ret3
      rw [HX.out]
      exact ⟨rfl, HB.out⟩
end Go.Proofs.Ytnblilonjpfdnaa.Tal
end
section
namespace Go.Proofs.Ytnblilonjpfdnaa.Tal
open Go.RowKit Cm
set_option maxRecDepth 100000 in
set_option maxHeartbeats 800000 in
theorem refTakeInt_c (s : ByteArray) (w : World) (hs : s.size ≤ 4611686018427387904) :
    Calls Try.prog 71 #[.string s] w (IntRes (Ta.take 0 s.data.toList) w) := by
  cases hT : Ta.take 0 s.data.toList with
  | none =>
    have K := Lib.hid (hT ▸ refTakeNum_c s w hs)
    clear hT hs
    go_enter Try.func71, Try.ntmps71
    go_wp2_with fail
    refine K.out.mono ?_
    rintro e w1 ⟨rfl, b1⟩
    go_wp2_with fail
    go_ret3
    exact ⟨rfl, b1⟩
  | some x =>
    obtain ⟨n, r⟩ := x
    have hn := (Ta.take_bound _ _ _ _ hT).1
    have K := Lib.hid (hT ▸ refTakeNum_c s w hs)
    by_cases hp : n % 2 = 0
    · have a2 : ((n : Int) % 2 == 0) = true := beq_iff_eq.2 (by omega)
      have HU := Lib.hid (show unz n = (n / 2 : Nat) by unfold unz; rw [if_pos hp])
      clear hT hs hp
      go_enter Try.func71, Try.ntmps71
      go_wp2_with fail
      refine K.out.mono ?_
      rintro e w1 ⟨rfl, b1⟩
      go_wp2_with fail
      go_ret3
      exact ⟨ret_isb (by show _ = unz n; rw [HU.out]; omega) rfl rfl, b1⟩
    · have a2 : ((n : Int) % 2 == 0) = false := beq_eq_false_iff_ne.2 (by omega)
      have HU := Lib.hid (show unz n = -((n / 2 : Nat) : Int) - 1 by unfold unz; rw [if_neg hp])
      clear hT hs hp
      go_enter Try.func71, Try.ntmps71
      go_wp2_with fail
      refine K.out.mono ?_
      rintro e w1 ⟨rfl, b1⟩
      go_wp2_with fail
      go_ret3
      exact ⟨ret_isb (by show _ = unz n; rw [HU.out]; omega) rfl rfl, b1⟩
end Go.Proofs.Ytnblilonjpfdnaa.Tal
end
