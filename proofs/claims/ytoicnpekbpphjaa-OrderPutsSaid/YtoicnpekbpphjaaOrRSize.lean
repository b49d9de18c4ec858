/- Package quittanceref12: number, size. -/
import Derived.Test.YtoicnpekbpphjaaOrTakeS
namespace Go.Proofs.Ytoicnpekbpphjaa.Or
open Go.RowKit Cm
set_option maxRecDepth 100000 in
set_option maxHeartbeats 1600000 in
theorem number_c (F : ByteArray) (b : Bool) (w : World) (hF : F.size ≤ 8) : Calls Try.prog 38 #[.string F, .bool b] w fun e w' => e = .returned (.int .u64 (valL (F.data.toList.map (fl b)) : Int)) ∧ w = w' := by
  obtain ⟨L, hL⟩ : ∃ L, F.data.toList = L := ⟨_, rfl⟩
  have hLs : L.length = F.size := by rw [← hL]; simp
  have hat : ∀ j (h : j < F.size) (h' : j < L.length), F[j] = L[j] := fun j h h' => by subst hL; exact (byte_at F j h).symm
  have HAT := Lib.hid hat
  have HLS := Lib.hid hLs
  rw [hL]
  clear hL hLs hat
  go_enter Try.func38, Try.ntmps38
  go_wp2_with fail
  go_loop [5, 6, 7] (fun s5 s6 _ => ∃ k : Nat, k ≤ F.size ∧ s5 = .int .u64 (valL ((L.map (fl b)).take k) : Int) ∧ s6 = .int .i64 (k : Int)) (fun _ s6 _ => F.size - (intOf s6).toNat)
  case atStart => exact ⟨0, by omega, rfl, rfl⟩
  case round =>
    obtain ⟨k, hk, rfl, rfl⟩ := hrel
    by_cases hlt : k < F.size
    · have p0 : (0 : Int) ≤ (k : Int) := by omega
      have p1 : (k : Int) < (F.size : Int) := by omega
      have hml : k < (L.map (fl b)).length := by rw [List.length_map, HLS.out]; exact hlt
      have hnx := val_next (L.map (fl b)) k hml
      rw [List.getElem_map, ← HAT.out k hlt (by rw [HLS.out]; exact hlt)] at hnx
      have hv := val_lt k ((L.map (fl b)).take k) (by rw [List.length_take]; omega)
      have hv2 : valL ((L.map (fl b)).take k) < 72057594037927936 := Nat.lt_of_lt_of_le hv (by have : (256 : Nat) ^ k ≤ 256 ^ 7 := Nat.pow_le_pow_right (by omega) (by omega); omega)
      have HNX := Lib.hid hnx
      obtain ⟨v, hvv⟩ : ∃ v, valL ((L.map (fl b)).take k) = v := ⟨_, rfl⟩
      rw [hvv] at HNX hv2 ⊢
      obtain ⟨z, hz⟩ : ∃ z, F[k] = z := ⟨_, rfl⟩
      rw [hz] at HNX
      have hFz : F[k] = z := hz
      have hz9 := z.toNat_lt
      have e1 : IntKind.u64.wrap (z.toNat : Int) = (z.toNat : Int) := by rw [IntKind.wrap_u64]; omega
      have e2 : IntKind.u64.wrap (256 * (v : Int)) = 256 * (v : Int) := by rw [IntKind.wrap_u64]; omega
      cases b with
      | true =>
        have HC := Lib.hid (cpl_nat z)
        have e3 : IntKind.u64.wrap (255 - (z.toNat : Int)) = 255 - (z.toNat : Int) := by rw [IntKind.wrap_u64]; omega
        have e4 : IntKind.u64.wrap (256 * (v : Int) + (255 - (z.toNat : Int))) = ((256 * v + (255 - z.toNat) : Nat) : Int) := by rw [IntKind.wrap_u64]; omega
        have HNY := Lib.hid (show valL ((L.map (fl true)).take (k + 1)) = 256 * v + (255 - z.toNat) by rw [HNX.out]; show 256 * v + (cpl z).toNat = _; rw [HC.out])
        obtain ⟨y, hy⟩ : ∃ y, 256 * v + (255 - z.toNat) = y := ⟨_, rfl⟩
        rw [hy] at HNY e4
        clear hv hv2 hvv hnx hz hz9 hy
        go_wp2_with fail
        exact ⟨⟨k + 1, by omega, by rw [HNY.out], by simp⟩, by simp [intOf]; omega⟩
      | false =>
        have e4 : IntKind.u64.wrap (256 * (v : Int) + (z.toNat : Int)) = ((256 * v + z.toNat : Nat) : Int) := by rw [IntKind.wrap_u64]; omega
        have HNY := Lib.hid (show valL ((L.map (fl false)).take (k + 1)) = 256 * v + z.toNat from HNX.out)
        obtain ⟨y, hy⟩ : ∃ y, 256 * v + z.toNat = y := ⟨_, rfl⟩
        rw [hy] at HNY e4
        clear hv hv2 hvv hnx hz hz9 hy
        go_wp2_with fail
        exact ⟨⟨k + 1, by omega, by rw [HNY.out], by simp⟩, by simp [intOf]; omega⟩
    · obtain rfl : k = F.size := by omega
      have HV := Lib.hid (show (L.map (fl b)).take F.size = L.map (fl b) from List.take_of_length_le (by rw [List.length_map, HLS.out]; exact Nat.le_refl _))
      rw [HV.out]
      cases b with
      | true =>
        go_wp2_with fail
        go_ret
        exact ⟨rfl, rfl⟩
      | false =>
        go_wp2_with fail
        go_ret
        exact ⟨rfl, rfl⟩
theorem takeS_dec {L : List UInt8} {at_ : Nat} (F : ByteArray) (hL : F.data.toList = L) (hlt : at_ + 1 < F.size) : L.drop at_ = F[at_] :: F[at_ + 1] :: L.drop (at_ + 2) := by
  subst hL
  have hl : F.data.toList.length = F.size := by simp
  rw [List.drop_eq_getElem_cons (by omega), List.drop_eq_getElem_cons (by omega), byte_at F at_ (by omega), byte_at F (at_ + 1) (by omega)]
theorem take_n_len {L r : List UInt8} {n : Nat} (base : Nat) (b : Bool) (_hb : base ≤ 128) (h : tnum base b L = some (n, r)) (_hL : L ≠ []) : L.length = 1 + manyL base b L + r.length := by
  have hr : r = L.drop (1 + manyL base b L) ∧ ¬ L.length ≤ manyL base b L := by
    unfold tnum at h
    split at h
    · cases h
    · split at h
      · cases h
      · split at h
        · cases h
        · rename_i h1 h2 h3
          exact ⟨(Prod.mk.inj (Option.some.inj h)).2.symm, h2⟩
  rw [hr.1, List.length_drop]
  omega
theorem takeI_num {L r : List UInt8} {i : Int} (h : takeI L = some (i, r)) : ∃ n, tnum 128 (negB L) L = some (n, r) ∧ n < 9223372036854775808 ∧ i = if negB L then -(n : Int) - 1 else (n : Int) := by
  unfold takeI at h
  split at h
  · cases h
  · rename_i n r' ht
    split at h
    · cases h
    · rename_i hn
      obtain ⟨hi, rfl⟩ := Prod.mk.inj (Option.some.inj h)
      exact ⟨n, ht, by omega, hi.symm⟩
theorem negB_is (F : ByteArray) (hF : 0 < F.size) : negB F.data.toList = decide (F[0].toNat < 128) ∧ F.data.toList.getD 0 0 = F[0] := by
  have h : F.data.toList.getD 0 0 = F[0] := by
    have := byte_at F 0 hF
    rw [← this]
    have hl : 0 < F.data.toList.length := by simpa using hF
    simp only [List.getD, List.getElem?_eq_getElem hl, Option.getD_some]
  exact ⟨by unfold negB; rw [h], h⟩
def SizeRes (c : UInt8) (L : List UInt8) (w : World) (e : Ending) (w' : World) : Prop :=
  ∃ k : Int, e = .returned (.int .i64 k) ∧ 1 ≤ k ∧ k ≤ 100000 ∧ (∀ f r, takeF c L = some (f, r) → k = (L.length : Int) - (r.length : Int)) ∧ w = w'
set_option maxRecDepth 100000 in
set_option maxHeartbeats 1600000 in
theorem size_c (c : UInt8) (F : ByteArray) (w : World) (hc : Letter c) (hF : 0 < F.size) (hF9 : F.size ≤ 5000) : Calls Try.prog 31 #[.int .u8 (c.toNat : Int), .string F] w (SizeRes c F.data.toList w) := by
  obtain ⟨hneg, hz0⟩ := negB_is F hF
  have hne : F.data.toList ≠ [] := by intro h; have e : F.data.toList.length = F.size := by simp
                                      rw [h] at e; simp at e; omega
  have hz9 := F[0].toNat_lt
  have hpos : (0 : Int) < (F.size : Int) := by omega
  rcases hc with hc | hc | hc
  · have d1 : ((c.toNat : Int) == 110) = true := beq_iff_eq.2 (by omega)
    have HT := Lib.hid (show ∀ f r, takeF c F.data.toList = some (f, r) → (1 + (F[0].toNat : Int)) = (F.data.toList.length : Int) - (r.length : Int) by
      intro f r h
      unfold takeF at h
      rw [if_pos hc] at h
      cases ht : tnum 0 false F.data.toList with
      | none => rw [ht] at h; cases h
      | some x =>
        rw [ht] at h
        obtain ⟨rfl, rfl⟩ := Prod.mk.inj (Option.some.inj h)
        have hl := take_n_len 0 false (by omega) ht hne
        have hm : manyL 0 false F.data.toList = F[0].toNat := by unfold manyL; rw [hz0]; show (F[0].toNat + 256 - 0) % 256 = _; omega
        rw [hm] at hl
        omega)
    obtain ⟨L, hL⟩ : ∃ L, F.data.toList = L := ⟨_, rfl⟩
    rw [hL] at HT ⊢
    obtain ⟨z, hz⟩ : ∃ z, F[0].toNat = z := ⟨_, rfl⟩
    rw [hz] at HT hz9
    clear hc hneg hz0 hne hL
    go_enter Try.func31, Try.ntmps31
    go_wp2_with fail
    go_ret
    exact ⟨_, rfl, by omega, by omega, HT.out, rfl⟩
  · have d1 : ((c.toNat : Int) == 110) = false := beq_eq_false_iff_ne.2 (by omega)
    have d2 : ((c.toNat : Int) == 105) = true := beq_iff_eq.2 (by omega)
    have key : ∀ f r, takeF c F.data.toList = some (f, r) → ((F.data.toList.length : Int) - (r.length : Int)) = 1 + (manyL 128 (negB F.data.toList) F.data.toList : Int) := by
      intro f r h
      unfold takeF at h
      rw [if_neg (by omega), if_pos hc] at h
      cases ht : takeI F.data.toList with
      | none => rw [ht] at h; cases h
      | some x =>
        rw [ht] at h
        obtain ⟨rfl, rfl⟩ := Prod.mk.inj (Option.some.inj h)
        obtain ⟨n, hn, _⟩ := takeI_num ht
        have hl := take_n_len 128 _ (by omega) hn hne
        omega
    by_cases hlo : F[0].toNat < 128
    · have HT := Lib.hid (show ∀ f r, takeF c F.data.toList = some (f, r) → (128 - (F[0].toNat : Int)) = (F.data.toList.length : Int) - (r.length : Int) by
        intro f r h
        rw [key f r h, hneg, decide_eq_true hlo]
        have hm : manyL 128 true F.data.toList = 127 - F[0].toNat := by unfold manyL; rw [hz0]; show ((cpl F[0]).toNat + 256 - 128) % 256 = _; rw [cpl_nat]; omega
        rw [hm]
        omega)
      obtain ⟨L, hL⟩ : ∃ L, F.data.toList = L := ⟨_, rfl⟩
      rw [hL] at HT ⊢
      obtain ⟨z, hz⟩ : ∃ z, F[0].toNat = z := ⟨_, rfl⟩
      rw [hz] at HT hz9 hlo
      have q1 : ¬ (128 : Int) ≤ (z : Int) := by omega
      clear hc hneg hz0 hne hL key
      go_enter Try.func31, Try.ntmps31
      go_wp2_with fail
      go_ret
      exact ⟨_, rfl, by omega, by omega, HT.out, rfl⟩
    · have HT := Lib.hid (show ∀ f r, takeF c F.data.toList = some (f, r) → (1 + (F[0].toNat : Int) - 128) = (F.data.toList.length : Int) - (r.length : Int) by
        intro f r h
        rw [key f r h, hneg, decide_eq_false hlo]
        have hm : manyL 128 false F.data.toList = F[0].toNat - 128 := by unfold manyL; rw [hz0]; show (F[0].toNat + 256 - 128) % 256 = _; omega
        rw [hm]
        omega)
      obtain ⟨L, hL⟩ : ∃ L, F.data.toList = L := ⟨_, rfl⟩
      rw [hL] at HT ⊢
      obtain ⟨z, hz⟩ : ∃ z, F[0].toNat = z := ⟨_, rfl⟩
      rw [hz] at HT hz9 hlo
      have q1 : (128 : Int) ≤ (z : Int) := by omega
      clear hc hneg hz0 hne hL key
      go_enter Try.func31, Try.ntmps31
      go_wp2_with fail
      go_ret
      exact ⟨_, rfl, by omega, by omega, HT.out, rfl⟩
  · have d1 : ((c.toNat : Int) == 110) = false := beq_eq_false_iff_ne.2 (by omega)
    have d2 : ((c.toNat : Int) == 105) = false := beq_eq_false_iff_ne.2 (by omega)
    have HT := Lib.hid (show ∀ f r, takeF c F.data.toList = some (f, r) → ∃ l, takeS F.data.toList = some (l, r) by
      intro f r h
      unfold takeF at h
      rw [if_neg (by omega), if_neg (by omega)] at h
      cases ht : takeS F.data.toList with
      | none => rw [ht] at h; cases h
      | some x =>
        rw [ht] at h
        obtain ⟨rfl, rfl⟩ := Prod.mk.inj (Option.some.inj h)
        exact ⟨x.1, rfl⟩)
    have HDEC := Lib.hid (fun at_ L h1 h2 => takeS_dec (L := L) (at_ := at_) F h1 h2)
    obtain ⟨L, hL⟩ : ∃ L, F.data.toList = L := ⟨_, rfl⟩
    have hLs : L.length = F.size := by rw [← hL]; simp
    have HLS := Lib.hid hLs
    have HL := Lib.hid hL
    rw [hL] at HT ⊢
    obtain ⟨z, hz⟩ : ∃ z, F[0].toNat = z := ⟨_, rfl⟩
    rw [hz] at hz9
    clear hc hneg hz0 hne hL hLs
    go_enter Try.func31, Try.ntmps31
    go_wp2_with fail
    go_loop [6] (fun s6 => ∃ k : Nat, k ≤ F.size ∧ s6 = .int .i64 (k : Int) ∧ (∀ l r, takeS L = some (l, r) → ∃ l', takeS (L.drop k) = some (l', r))) (fun s6 => F.size - (intOf s6).toNat)
    case atStart => exact ⟨0, by omega, rfl, fun l r h => ⟨l, h⟩⟩
    case round =>
      obtain ⟨k, hk, rfl, hinv⟩ := hrel
      have HI := Lib.hid hinv
      clear hinv
      by_cases hlt : k + 1 < F.size
      · have p0 : (0 : Int) ≤ (k : Int) := by omega
        have p1 : (k : Int) + 1 < (F.size : Int) := by omega
        have p2 : (k : Int) < (F.size : Int) := by omega
        have p3 : (0 : Int) ≤ (k : Int) + 1 := by omega
        have p4 : ((k : Int) + 1).toNat = k + 1 := by omega
        have hdec := HDEC.out k L HL.out hlt
        obtain ⟨a, ha⟩ : ∃ a, F[k]'(by omega) = a := ⟨_, rfl⟩
        obtain ⟨d, hd⟩ : ∃ d, F[k + 1] = d := ⟨_, rfl⟩
        rw [ha, hd] at hdec
        have haa : F[k]'(by omega) = a := ha
        have hdd : F[k + 1] = d := hd
        clear ha hd
        by_cases h0 : a = 0
        · have q1 : ((a.toNat : Int) != 0) = false := by rw [h0]; rfl
          have q2 : ((a.toNat : Int) == 0) = true := by rw [h0]; rfl
          by_cases h1 : d = 0
          · have q3 : ((d.toNat : Int) != 0) = false := by rw [h1]; rfl
            have HK := Lib.hid (show ∀ f r, takeF c L = some (f, r) → ((k : Int) + 2) = (L.length : Int) - (r.length : Int) by
              intro f r h
              obtain ⟨l, hl⟩ := HT.out f r h
              obtain ⟨l', hl'⟩ := HI.out l r hl
              rw [hdec, h0, h1, takeS, if_pos rfl, if_pos rfl] at hl'
              have hr := (Prod.mk.inj (Option.some.inj hl')).2
              rw [← hr, List.length_drop, HLS.out]
              omega)
            clear h0 h1 hdec
            go_wp2_with fail
            go_ret
            exact ⟨_, rfl, by omega, by omega, HK.out, rfl⟩
          · have q3 : ((d.toNat : Int) != 0) = true := by rw [bne_iff_ne]; exact fun h => h1 (UInt8.toNat_inj.1 (by simpa using h))
            have HN := Lib.hid (show ∀ l r, takeS L = some (l, r) → ∃ l', takeS (L.drop (k + 2)) = some (l', r) by
              intro l r h
              obtain ⟨l', hl'⟩ := HI.out l r h
              rw [hdec, takeS, if_pos h0, if_neg h1] at hl'
              split at hl'
              · cases h2 : takeS (L.drop (k + 2)) with
                | none => rw [h2] at hl'; cases hl'
                | some x =>
                  rw [h2] at hl'
                  obtain ⟨rfl, rfl⟩ := Prod.mk.inj (Option.some.inj hl')
                  exact ⟨x.1, rfl⟩
              · cases hl')
            clear h0 h1 hdec
            go_wp2_with fail
            exact ⟨⟨k + 2, by omega, by simp; omega, HN.out⟩, by simp [intOf]; omega⟩
        · have q1 : ((a.toNat : Int) != 0) = true := by rw [bne_iff_ne]; exact fun h => h0 (UInt8.toNat_inj.1 (by simpa using h))
          have q2 : ((a.toNat : Int) == 0) = false := beq_eq_false_iff_ne.2 (fun h => h0 (UInt8.toNat_inj.1 (by simpa using h)))
          have HN := Lib.hid (show ∀ l r, takeS L = some (l, r) → ∃ l', takeS (L.drop (k + 1)) = some (l', r) by
            intro l r h
            obtain ⟨l', hl'⟩ := HI.out l r h
            have hd1 : L.drop (k + 1) = d :: L.drop (k + 2) := by
              have := congrArg List.tail hdec
              rw [List.tail_drop] at this
              exact this
            rw [hdec, takeS_cons h0, ← hd1] at hl'
            cases h2 : takeS (L.drop (k + 1)) with
            | none => rw [h2] at hl'; cases hl'
            | some x =>
              rw [h2] at hl'
              obtain ⟨rfl, rfl⟩ := Prod.mk.inj (Option.some.inj hl')
              exact ⟨x.1, rfl⟩)
          clear h0 hdec
          go_wp2_with fail
          exact ⟨⟨k + 1, by omega, by simp, HN.out⟩, by simp [intOf]; omega⟩
      · have q1 : ¬ (k : Int) + 1 < (F.size : Int) := by omega
        have HK := Lib.hid (show ∀ f r, takeF c L = some (f, r) → ((k : Int) + 2) = (L.length : Int) - (r.length : Int) by
          intro f r h
          obtain ⟨l, hl⟩ := HT.out f r h
          obtain ⟨l', hl'⟩ := HI.out l r hl
          rw [takeS_drop (by have := HLS.out; omega)] at hl'
          cases hl')
        go_wp2_with fail
        go_ret
        exact ⟨_, rfl, by omega, by omega, HK.out, rfl⟩
end Go.Proofs.Ytoicnpekbpphjaa.Or
