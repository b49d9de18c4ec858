/- Package quittanceref12: Put. -/
import Derived.Test.YtialjglgkfcdmaaOcRBytes
namespace Go.Proofs.Ytialjglgkfcdmaa.Or
open Go.RowKit Cm
theorem enc_len (c : UInt8) (f : Fd) (hok : f.ok) (hs : f.s.size ≤ 100000) : (enc c f).length ≤ 300000 := by
  obtain ⟨n0, n1, i0, i1⟩ := hok
  unfold enc numL
  split
  · have := short8 (n := f.n.toNat) (by omega)
    simp; omega
  · split
    · split
      · have := short8 (n := (-f.i - 1).toNat) (by omega)
        rw [List.length_map, List.length_cons]; omega
      · have := short8 (n := f.i.toNat) (by omega)
        rw [List.length_cons]; omega
    · have := esc_len f.s.data.toList
      have e : f.s.data.toList.length = f.s.size := by simp
      simp only [List.length_append, List.length_cons, List.length_nil]
      omega
theorem bytes_z (c : UInt8) (f : Fd) (w : World) (hc : c.toNat = 110 ∨ c.toNat = 105 ∨ c.toNat = 115) (hok : f.ok) (hs : f.s.size ≤ 100000) : Calls Try.prog 70 #[.int .u8 (c.toNat : Int), f.val] w fun e w' => ∃ F : ByteArray, e = .returned (.string F) ∧ F.data.toList = enc c f ∧ F.size ≤ 300000 ∧ Below w.heap.size w w' := by
  refine (bytes_c c f w hc hok hs).mono ?_
  rintro e w' ⟨rfl, hb⟩
  exact ⟨_, rfl, rfl, enc_len c f hok hs, hb⟩
set_option maxRecDepth 100000 in
set_option maxHeartbeats 3200000 in
theorem rput_c (s : ByteArray) (w : World) (a : Option Addr) (cap : Nat) (L : List Fd) (hL : Fds w a L) (hf : Fine L) (hs : s.size ≤ 1000000) (hl : L.length ≤ 1000000) :
    Calls Try.prog 51 #[.string s, .slice a L.length cap] w (PutRes s.data.toList L w) := by
  have HL := Lib.hid hL
  have HFI := Lib.hid hf
  have KK := Lib.hid (fun w => rkinds_c s w (by omega))
  have KT := Lib.hid (fun w h => rfit_c s w a cap L h hs hl)
  have hsz : s.data.toList.length = s.size := by simp
  have HSZ := Lib.hid hsz
  clear hL hsz hf
  cases hk : kindsB s.data.toList with
  | false =>
    have HR := Lib.hid (put_kinds (L := L) hk)
    rw [hk] at KK
    clear hk
    go_enter Try.func51, Try.ntmps51
    go_wp2_with fail
    refine (KK.out _).mono ?_
    rintro e w' ⟨rfl, rfl⟩
    go_wp2_with fail
    go_ret2
    exact ⟨by rw [HR.out]; rfl, Below.refl _ _⟩
  | true =>
    cases hft : fitB s.data.toList L with
    | false =>
      have HR := Lib.hid (put_unfit hk hft)
      rw [hk] at KK
      rw [hft] at KT
      clear hk hft
      go_enter Try.func51, Try.ntmps51
      go_wp2_with fail
      refine (KK.out _).mono ?_
      rintro e w' ⟨rfl, rfl⟩
      go_wp2_with fail
      refine (KT.out _ HL.out).mono ?_
      rintro e w1 ⟨rfl, b1⟩
      go_wp2_with fail
      go_ret2
      exact ⟨by rw [HR.out]; rfl, b1⟩
    | true =>
      have HK := Lib.hid hk
      have HT := Lib.hid hft
      have hLK := (fit_len hft).2
      rw [HSZ.out] at hLK
      rw [hk] at KK
      rw [hft] at KT
      clear hk hft
      go_enter Try.func51, Try.ntmps51
      go_wp2_with fail
      refine (KK.out _).mono ?_
      rintro e w' ⟨rfl, rfl⟩
      go_wp2_with fail
      refine (KT.out _ HL.out).mono ?_
      rintro e w1 ⟨rfl, b1⟩
      have HB1 := Lib.hid b1
      clear b1
      go_wp2_with fail
      go_loopw [6, 7] (fun v i wr => ∃ (k : Nat) (T : ByteArray), k ≤ L.length ∧ v = .string T ∧ i = .int .i64 (k : Int) ∧ T.data.toList = encAll s.data.toList (L.take k) ∧ T.size ≤ 300000 * k ∧ Below w.heap.size w wr) (fun _ i _ => L.length - (intOf i).toNat)
      case atStart => exact ⟨0, ⟨#[]⟩, by omega, rfl, rfl, by rw [List.take_zero, encAll_nil], Nat.le_refl _, HB1.out⟩
      case round =>
        obtain ⟨k, T, hk, rfl, rfl, hTT, hTs, hB⟩ := hrel
        have HTL := Lib.hid hTT
        have HB := Lib.hid hB
        clear hB hTT
        by_cases hlt : k < L.length
        · obtain ⟨b, off, rfl, hbl, c0, c1, c2⟩ := HL.out.later HB.out k hlt
          have hks : k < s.size := by omega
          have hks2 : k < s.data.toList.length := by rw [HSZ.out]; exact hks
          have HBY := Lib.hid (byte_at s k hks)
          have hcs := kinds_at HK.out k hks2
          rw [HBY.out] at hcs
          have hnx := encAll_next s.data.toList L k hks2 hlt
          have hfine := HFI.out L[k] (List.getElem_mem hlt)
          rw [HBY.out] at hnx
          obtain ⟨f, hf⟩ : ∃ f, L[k] = f := ⟨_, rfl⟩
          rw [hf] at c0 c1 c2 hnx hfine
          obtain ⟨hok, hsz9⟩ := hfine
          have p0 : (0 : Int) ≤ (k : Int) := by omega
          have p1 : (k : Int) < (L.length : Int) := by omega
          have p2 : (k : Int) < (s.size : Int) := by omega
          have HTS := Lib.hid hTs
          have hts9 : T.size ≤ 300000000000 := by omega
          have KB := Lib.hid (fun w => bytes_z s[k] f w hcs hok hsz9)
          unfold Fd.val at KB
          have HNX := Lib.hid hnx
          clear hf hnx hok hcs hsz9 hbl hTs
          go_wp2_with fail
          go_region_with (first | (go_at_call 70; refine (KB.out _).mono ?_; rintro e w2 ⟨F, rfl, hF, hF9, b2⟩))
          all_goals have B2 := Lib.hid (HB.out.trans ((((Below.refl wr.heap.size wr).drew).trans b2).mono HB.out.size))
          all_goals have HFL := Lib.hid hF
          all_goals clear b2 hF
          all_goals go_wp2_with fail
          all_goals exact ⟨⟨k + 1, T ++ F, by omega, rfl, by simp, by rw [cat_list, HTL.out, HFL.out, HNX.out], by have := HTS.out; rw [ByteArray.size_append]; omega, B2.out⟩, by simp [intOf]; omega⟩
        · obtain rfl : k = L.length := by omega
          have HT2 := Lib.hid (show L.take L.length = L from List.take_length)
          rw [HT2.out] at HTL
          have htl : T.data.toList.length = T.size := by simp
          rw [HTL.out] at htl
          by_cases hlong : T.size ≤ 1024
          · have q1 : (T.size : Int) ≤ 1024 := by omega
            have HR := Lib.hid (put_ok HK.out HT.out (by omega))
            clear htl hTs
            go_wp2_with fail
            go_ret2
            exact ⟨by rw [HR.out, ← HTL.out]; rfl, HB.out⟩
          · have q1 : ¬ (T.size : Int) ≤ 1024 := by omega
            have HR := Lib.hid (put_long HK.out HT.out (by omega))
            clear htl hTs
            go_wp2_with fail
            go_ret2
            exact ⟨by rw [HR.out]; rfl, HB.out⟩
end Go.Proofs.Ytialjglgkfcdmaa.Or
