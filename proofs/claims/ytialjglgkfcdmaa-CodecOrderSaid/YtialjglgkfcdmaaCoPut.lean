/- Package codec: isRecord, Put; package quittanceref15: bytes, Put. -/
import Derived.Test.YtialjglgkfcdmaaCoMath
import Derived.Test.YtialjglgkfcdmaaOrRBytes0
import Derived.Test.YtialjglgkfcdmaaOcRBytes
import Derived.Test.YtialjglgkfcdmaaTcPut3
import Derived.Test.YtialjglgkfcdmaaTcRef
namespace Go.Proofs.Ytialjglgkfcdmaa.Or
open Go.RowKit
theorem below_then' {a b c : World} (h : Below a.heap.size a b) (k : Below b.heap.size b c) : Below a.heap.size a c := h.trans (k.mono h.size)
def StrBy (l : List UInt8) (n : Nat) (w : World) (e : Ending) (w' : World) : Prop := ∃ F : ByteArray, e = .returned (.string F) ∧ F.data.toList = l ∧ F.size ≤ n ∧ Below w.heap.size w w'
theorem strBy_of {l : List UInt8} {n : Nat} {w w' : World} {e : Ending} (h : Tal.PutRes l w e w') (hn : l.length ≤ n) : StrBy l n w e w' := ⟨⟨l.toArray⟩, h.1, rfl, hn, h.2⟩
theorem txt_size (s : ByteArray) (hs : s.size ≤ 100000) : (Tal.txt s.data.toList).length ≤ 10 + s.size := by
  unfold Tal.txt
  have := (Ta.num_len s.data.toList.length (by simp; omega)).1
  simp at this ⊢
  omega
theorem pnum_z (z : Int) (w : World) (h0 : 0 ≤ z) (h1 : z < 18446744073709551616) : Calls Try.prog 33 #[.int .u64 z] w (StrBy (Ta.num z.toNat) 10 w) := by
  obtain ⟨n, rfl⟩ : ∃ n : Nat, z = (n : Int) := ⟨z.toNat, by omega⟩
  exact (Tal.num_c n w (by omega)).mono fun e w' h => strBy_of h (Ta.num_len n (by omega)).1
theorem pint_z (z : Int) (w : World) (h0 : -9223372036854775808 ≤ z) (h1 : z < 9223372036854775808) : Calls Try.prog 34 #[.int .i64 z] w (StrBy (Ta.num (Tal.zig z)) 10 w) :=
  (Tal.int_c z w h0 (by omega)).mono fun e w' h => strBy_of h (Ta.num_len _ (Tal.zig_lt z h0 (by omega))).1
theorem ptext_z (s : ByteArray) (w : World) (hs : s.size ≤ 100000) : Calls Try.prog 35 #[.string s] w (StrBy (Tal.txt s.data.toList) (10 + s.size) w) :=
  (Tal.text_c s w (by omega)).mono fun e w' h => strBy_of h (txt_size s hs)
theorem rnum_z (z : Int) (w : World) (h0 : 0 ≤ z) (h1 : z < 18446744073709551616) : Calls Try.prog 57 #[.int .u64 z] w (StrBy (Ta.num z.toNat) 10 w) := by
  obtain ⟨n, rfl⟩ : ∃ n : Nat, z = (n : Int) := ⟨z.toNat, by omega⟩
  exact (Tal.refNum_c n w (by omega)).mono fun e w' h => strBy_of h (Ta.num_len n (by omega)).1
theorem rint_z (z : Int) (w : World) (h0 : -9223372036854775808 ≤ z) (h1 : z < 9223372036854775808) : Calls Try.prog 58 #[.int .i64 z] w (StrBy (Ta.num (Tal.zig z)) 10 w) :=
  (Tal.refInt_c z w h0 (by omega)).mono fun e w' h => strBy_of h (Ta.num_len _ (Tal.zig_lt z h0 (by omega))).1
theorem rtext_z (s : ByteArray) (w : World) (hs : s.size ≤ 100000) : Calls Try.prog 59 #[.string s] w (StrBy (Tal.txt s.data.toList) (10 + s.size) w) :=
  (Tal.refText_c s w (by omega)).mono fun e w' h => strBy_of h (txt_size s hs)
theorem isrec_c (s : ByteArray) (w : World) (a : Option Addr) (cap : Nat) (L : List Fd) (hL : Fds w a L) (hs : s.size ≤ 1000000) (hl : L.length ≤ 1000000) :
    Calls Try.prog 32 #[.string s, .slice a L.length cap] w fun e w' => e = .returned (.bool (decide (L.length = s.data.toList.length ∧ fitB s.data.toList L = true))) ∧ Below w.heap.size w w' := by
  have KF := Lib.hid (pfit_c s w a cap L hL hs hl)
  have hsz : s.data.toList.length = s.size := by simp
  by_cases h : L.length = s.size
  · have d : ((L.length : Int) == (s.size : Int)) = true := beq_iff_eq.2 (by omega)
    have HD := Lib.hid (show decide (L.length = s.data.toList.length ∧ fitB s.data.toList L = true) = fitB s.data.toList L by simp [h])
    clear hL h hsz
    go_enter Try.func32, Try.ntmps32
    go_wp2_with fail
    refine KF.out.mono ?_
    rintro e w1 ⟨rfl, b1⟩
    go_wp2_with fail
    go_ret
    exact ⟨by rw [HD.out]; rfl, b1⟩
  · have d : ((L.length : Int) == (s.size : Int)) = false := beq_eq_false_iff_ne.2 (by omega)
    have HD := Lib.hid (show decide (L.length = s.data.toList.length ∧ fitB s.data.toList L = true) = false from decide_eq_false (by rintro ⟨h2, -⟩; omega))
    clear hL h hsz
    go_enter Try.func32, Try.ntmps32
    go_wp2_with fail
    go_ret
    exact ⟨by rw [HD.out]; rfl, Below.refl _ _⟩
def CPutRes (K : List UInt8) (L : List Fd) (w : World) (e : Ending) (w' : World) : Prop :=
  e = .returned (.tuple #[.string ⟨(cput K L).1.toArray⟩, .int .i64 (cput K L).2]) ∧ Below w.heap.size w w'
theorem cb_len (c : UInt8) (f : Fd) (hc : Letter c) (hok : f.ok) (hs : f.s.size ≤ 100000) : (cb c f).length ≤ 100010 := by
  obtain ⟨n0, n1, i0, i1⟩ := hok
  rcases hc with hc | hc | hc
  · rw [cb_n hc]; have := (Ta.num_len f.n.toNat (by omega)).1; omega
  · rw [cb_i hc]; have := (Ta.num_len _ (Tal.zig_lt f.i (by omega) (by omega))).1; omega
  · rw [cb_s hc]; have := txt_size f.s hs; omega
set_option maxRecDepth 100000 in
set_option maxHeartbeats 3200000 in
theorem codput_c (s : ByteArray) (w : World) (a : Option Addr) (cap : Nat) (L : List Fd) (hL : Fds w a L) (hf : Fine L) (hs : s.size ≤ 1000) (hl : L.length ≤ 1000) :
    Calls Try.prog 11 #[.string s, .slice a L.length cap] w (CPutRes s.data.toList L w) := by
  have HL := Lib.hid hL
  have HFI := Lib.hid hf
  have hsz : s.data.toList.length = s.size := by simp
  have HSZ := Lib.hid hsz
  have KK := Lib.hid (fun w => kinds_c s w (by omega))
  have KT := Lib.hid (fun w h => isrec_c s w a cap L h (by omega) (by omega))
  clear hL hf
  cases hk : kindsB s.data.toList with
  | false =>
    have HR := Lib.hid (cput_kinds (L := L) hk)
    rw [hk] at KK
    clear hk
    go_enter Try.func11, Try.ntmps11
    go_wp2_with fail
    refine (KK.out _).mono ?_
    rintro e w' ⟨rfl, rfl⟩
    go_wp2_with fail
    go_ret2
    exact ⟨by rw [HR.out]; rfl, Below.refl _ _⟩
  | true =>
  rw [hk] at KK
  by_cases hr : L.length = s.data.toList.length ∧ fitB s.data.toList L = true
  case neg =>
    have HR := Lib.hid (cput_unfit hk hr)
    rw [decide_eq_false hr] at KT
    clear hk hr
    go_enter Try.func11, Try.ntmps11
    go_wp2_with fail
    refine (KK.out _).mono ?_
    rintro e w' ⟨rfl, rfl⟩
    go_wp2_with fail
    refine (KT.out _ HL.out).mono ?_
    rintro e w1 ⟨rfl, b1⟩
    have HB1 := Lib.hid b1
    clear b1
    go_wp2_with fail
    go_ret2
    exact ⟨by rw [HR.out]; rfl, HB1.out⟩
  rw [decide_eq_true hr] at KT
  have HK := Lib.hid hk
  have HLS := Lib.hid (show L.length = s.size by omega)
  have HLO := Lib.hid (fun h => cput_long hk hr.1 hr.2 h)
  have HOK := Lib.hid (fun h => cput_ok hk hr.1 hr.2 h)
  clear hk hr hsz
  go_enter Try.func11, Try.ntmps11
  go_wp2_with fail
  refine (KK.out _).mono ?_
  rintro e w' ⟨rfl, rfl⟩
  go_wp2_with fail
  refine (KT.out _ HL.out).mono ?_
  rintro e w1 ⟨rfl, b1⟩
  have HB1 := Lib.hid b1
  clear b1
  go_wp2_with fail
  go_loopw [6, 7, 8, 18] (fun v _ _ i wr => ∃ (k : Nat) (T : ByteArray), k ≤ L.length ∧ v = .string T ∧ i = .int .i64 (k : Int) ∧ T.data.toList = recAll s.data.toList (L.take k) ∧ T.size ≤ 8192 ∧ Below w.heap.size w wr) (fun _ _ _ i _ => L.length - (intOf i).toNat)
  case atStart => exact ⟨0, ⟨#[]⟩, by omega, rfl, rfl, by rw [List.take_zero, recAll_nil], Nat.zero_le _, HB1.out⟩
  case round =>
    obtain ⟨k, T, hk, rfl, rfl, hTT, hTs, hB⟩ := hrel
    have HTL := Lib.hid hTT
    have HB := Lib.hid hB
    clear hB hTT
    by_cases hlt : k < L.length
    · obtain ⟨b, off, rfl, hbl, c0, c1, c2⟩ := HL.out.later HB.out k hlt
      have hks : k < s.size := by rw [← HLS.out]; exact hlt
      have hks2 : k < s.data.toList.length := by rw [HSZ.out]; exact hks
      have HBY := Lib.hid (byte_at s k hks)
      have hcs := kinds_at HK.out k hks2
      rw [HBY.out] at hcs
      have hnx := recAll_next s.data.toList L k hks2 hlt
      have hle := recAll_le s.data.toList L (k + 1)
      have hfine := HFI.out L[k] (List.getElem_mem hlt)
      rw [HBY.out] at hnx
      obtain ⟨f, hf⟩ : ∃ f, L[k] = f := ⟨_, rfl⟩
      rw [hf] at c0 c1 c2 hnx hfine
      obtain ⟨hok, hsz9⟩ := hfine
      have p0 : (0 : Int) ≤ (k : Int) := by omega
      have p1 : (k : Int) < (L.length : Int) := by omega
      have p2 : (k : Int) < (s.size : Int) := by omega
      obtain ⟨c, hc⟩ : ∃ c, s[k] = c := ⟨_, rfl⟩
      have hcc : s[k] = c := hc
      rw [hc] at hcs hnx
      have HNX := Lib.hid hnx
      have HLE := Lib.hid hle
      have HCB := Lib.hid (cb_len c f hcs hok hsz9)
      have K1 := Lib.hid (fun w => pnum_z f.n w hok.n0 hok.n1)
      have K2 := Lib.hid (fun w => pint_z f.i w hok.i0 hok.i1)
      have K3 := Lib.hid (fun w => ptext_z f.s w hsz9)
      have HBA := Lib.hid (HB.out.alloc HB.out.size (.cells #[.int .u64 f.n, .int .i64 f.i, .string f.s] 59))
      clear hf hok hnx hle hbl hc
      rcases hcs with hcs | hcs | hcs
      · have d1 : ((c.toNat : Int) == 110) = true := beq_iff_eq.2 (by omega)
        have HCE := Lib.hid (cb_n (f := f) hcs)
        clear hcs
        go_wp2_with fail
        refine (K1.out _).mono ?_
        rintro e w2 ⟨F, rfl, hF, hF9, b2⟩
        have B2 := Lib.hid (below_then' HBA.out b2)
        have hTF : (T ++ F).data.toList = recAll s.data.toList (L.take (k + 1)) := by rw [cat_list, HTL.out, hF, HNX.out, HCE.out]
        have HTF := Lib.hid hTF
        have hlen : (recAll s.data.toList (L.take (k + 1))).length = (T ++ F).size := by rw [← hTF]; simp
        rw [ByteArray.size_append] at hlen
        clear b2 hF hTF
        by_cases hbig : 8192 < T.size + F.size
        · have HR := Lib.hid (HLO.out (by have := HLE.out; omega))
          have d9 : (8192 : Int) < (T.size : Int) + (F.size : Int) := by omega
          clear hbig hlen
          go_wp2_with fail
          go_ret2
          exact ⟨by rw [HR.out]; rfl, B2.out⟩
        · have d9 : ¬ (8192 : Int) < (T.size : Int) + (F.size : Int) := by omega
          have HS9 := Lib.hid (show (T ++ F).size ≤ 8192 by rw [ByteArray.size_append]; omega)
          clear hbig hlen
          go_wp2_with fail
          exact ⟨⟨k + 1, T ++ F, by omega, rfl, by simp, HTF.out, HS9.out, B2.out⟩, by simp [intOf]; omega⟩
      · have d1 : ((c.toNat : Int) == 110) = false := beq_eq_false_iff_ne.2 (by omega)
        have d2 : ((c.toNat : Int) == 105) = true := beq_iff_eq.2 (by omega)
        have HCE := Lib.hid (cb_i (f := f) hcs)
        clear hcs
        go_wp2_with fail
        refine (K2.out _).mono ?_
        rintro e w2 ⟨F, rfl, hF, hF9, b2⟩
        have B2 := Lib.hid (below_then' HBA.out b2)
        have hTF : (T ++ F).data.toList = recAll s.data.toList (L.take (k + 1)) := by rw [cat_list, HTL.out, hF, HNX.out, HCE.out]
        have HTF := Lib.hid hTF
        have hlen : (recAll s.data.toList (L.take (k + 1))).length = (T ++ F).size := by rw [← hTF]; simp
        rw [ByteArray.size_append] at hlen
        clear b2 hF hTF
        by_cases hbig : 8192 < T.size + F.size
        · have HR := Lib.hid (HLO.out (by have := HLE.out; omega))
          have d9 : (8192 : Int) < (T.size : Int) + (F.size : Int) := by omega
          clear hbig hlen
          go_wp2_with fail
          go_ret2
          exact ⟨by rw [HR.out]; rfl, B2.out⟩
        · have d9 : ¬ (8192 : Int) < (T.size : Int) + (F.size : Int) := by omega
          have HS9 := Lib.hid (show (T ++ F).size ≤ 8192 by rw [ByteArray.size_append]; omega)
          clear hbig hlen
          go_wp2_with fail
          exact ⟨⟨k + 1, T ++ F, by omega, rfl, by simp, HTF.out, HS9.out, B2.out⟩, by simp [intOf]; omega⟩
      · have d1 : ((c.toNat : Int) == 110) = false := beq_eq_false_iff_ne.2 (by omega)
        have d2 : ((c.toNat : Int) == 105) = false := beq_eq_false_iff_ne.2 (by omega)
        have d3 : ((c.toNat : Int) == 115) = true := beq_iff_eq.2 (by omega)
        have HCE := Lib.hid (cb_s (f := f) hcs)
        clear hcs
        go_wp2_with fail
        refine (K3.out _).mono ?_
        rintro e w2 ⟨F, rfl, hF, hF9, b2⟩
        have B2 := Lib.hid (below_then' HBA.out b2)
        have hTF : (T ++ F).data.toList = recAll s.data.toList (L.take (k + 1)) := by rw [cat_list, HTL.out, hF, HNX.out, HCE.out]
        have HTF := Lib.hid hTF
        have hlen : (recAll s.data.toList (L.take (k + 1))).length = (T ++ F).size := by rw [← hTF]; simp
        rw [ByteArray.size_append] at hlen
        clear b2 hF hTF
        by_cases hbig : 8192 < T.size + F.size
        · have HR := Lib.hid (HLO.out (by have := HLE.out; omega))
          have d9 : (8192 : Int) < (T.size : Int) + (F.size : Int) := by omega
          clear hbig hlen
          go_wp2_with fail
          go_ret2
          exact ⟨by rw [HR.out]; rfl, B2.out⟩
        · have d9 : ¬ (8192 : Int) < (T.size : Int) + (F.size : Int) := by omega
          have HS9 := Lib.hid (show (T ++ F).size ≤ 8192 by rw [ByteArray.size_append]; omega)
          clear hbig hlen
          go_wp2_with fail
          exact ⟨⟨k + 1, T ++ F, by omega, rfl, by simp, HTF.out, HS9.out, B2.out⟩, by simp [intOf]; omega⟩
    · obtain rfl : k = L.length := by omega
      have hT2 := HTL.out
      rw [List.take_length] at hT2
      have htl : T.data.toList.length = T.size := by simp
      rw [hT2] at htl
      have HR := Lib.hid (HOK.out (by omega))
      obtain rfl : T = ⟨(recAll s.data.toList L).toArray⟩ := ByteArray.ext (Array.ext' (by rw [hT2]))
      have q1 : ¬ (L.length : Int) < (L.length : Int) := by omega
      clear hT2 htl hTs HTL
      go_wp2_with fail
      go_ret2
      exact ⟨by rw [HR.out]; rfl, HB.out⟩
set_option maxHeartbeats 800000 in
theorem rcb_c (c : UInt8) (f : Fd) (w : World) (hc : Letter c) (hok : f.ok) (hs : f.s.size ≤ 100000) : Calls Try.prog 38 #[.int .u8 (c.toNat : Int), f.val] w (StrBy (cb c f) 100010 w) := by
  unfold Fd.val
  have K1 := Lib.hid (fun w => rnum_z f.n w hok.n0 hok.n1)
  have K2 := Lib.hid (fun w => rint_z f.i w hok.i0 hok.i1)
  have K3 := Lib.hid (fun w => rtext_z f.s w hs)
  have HB := Lib.hid ((Below.refl w.heap.size w).alloc (Nat.le_refl _) (.cells #[.int .u64 f.n, .int .i64 f.i, .string f.s] 59))
  have HCB := Lib.hid (cb_len c f hc hok hs)
  clear hok
  rcases hc with hc | hc | hc
  · have d1 : ((c.toNat : Int) == 110) = true := beq_iff_eq.2 (by omega)
    have HCE := Lib.hid (cb_n (f := f) hc)
    clear hc
    go_enter Try.func38, Try.ntmps38
    go_wp2_with fail
    refine (K1.out _).mono ?_
    rintro e w2 ⟨F, rfl, hF, hF9, b2⟩
    have B2 := Lib.hid (below_then' HB.out b2)
    have HF := Lib.hid hF
    clear b2 hF
    go_wp2_with fail
    go_ret
    exact ⟨F, rfl, by rw [HF.out, HCE.out], by omega, B2.out⟩
  · have d1 : ((c.toNat : Int) == 110) = false := beq_eq_false_iff_ne.2 (by omega)
    have d2 : ((c.toNat : Int) == 105) = true := beq_iff_eq.2 (by omega)
    have HCE := Lib.hid (cb_i (f := f) hc)
    clear hc
    go_enter Try.func38, Try.ntmps38
    go_wp2_with fail
    refine (K2.out _).mono ?_
    rintro e w2 ⟨F, rfl, hF, hF9, b2⟩
    have B2 := Lib.hid (below_then' HB.out b2)
    have HF := Lib.hid hF
    clear b2 hF
    go_wp2_with fail
    go_ret
    exact ⟨F, rfl, by rw [HF.out, HCE.out], by omega, B2.out⟩
  · have d1 : ((c.toNat : Int) == 110) = false := beq_eq_false_iff_ne.2 (by omega)
    have d2 : ((c.toNat : Int) == 105) = false := beq_eq_false_iff_ne.2 (by omega)
    have HCE := Lib.hid (cb_s (f := f) hc)
    clear hc
    go_enter Try.func38, Try.ntmps38
    go_wp2_with fail
    refine (K3.out _).mono ?_
    rintro e w2 ⟨F, rfl, hF, hF9, b2⟩
    have B2 := Lib.hid (below_then' HB.out b2)
    have HF := Lib.hid hF
    clear b2 hF
    go_wp2_with fail
    go_ret
    exact ⟨F, rfl, by rw [HF.out, HCE.out], by omega, B2.out⟩
set_option maxRecDepth 100000 in
set_option maxHeartbeats 3200000 in
theorem rcodput_c (s : ByteArray) (w : World) (a : Option Addr) (cap : Nat) (L : List Fd) (hL : Fds w a L) (hf : Fine L) (hs : s.size ≤ 1000) (hl : L.length ≤ 1000) :
    Calls Try.prog 12 #[.string s, .slice a L.length cap] w (CPutRes s.data.toList L w) := by
  have HL := Lib.hid hL
  have HFI := Lib.hid hf
  have hsz : s.data.toList.length = s.size := by simp
  have HSZ := Lib.hid hsz
  have KK := Lib.hid (fun w => rkinds_c s w (by omega))
  have KT := Lib.hid (fun w h => rfit_c s w a cap L h (by omega) (by omega))
  clear hL hf
  cases hk : kindsB s.data.toList with
  | false =>
    have HR := Lib.hid (cput_kinds (L := L) hk)
    rw [hk] at KK
    clear hk
    go_enter Try.func12, Try.ntmps12
    go_wp2_with fail
    refine (KK.out _).mono ?_
    rintro e w' ⟨rfl, rfl⟩
    go_wp2_with fail
    go_ret2
    exact ⟨by rw [HR.out]; rfl, Below.refl _ _⟩
  | true =>
  rw [hk] at KK
  by_cases hn : L.length = s.data.toList.length
  case neg =>
    have HR := Lib.hid (cput_unfit hk (L := L) (fun h => hn h.1))
    have d1 : ((L.length : Int) != (s.size : Int)) = true := by rw [bne_iff_ne]; omega
    clear hk hn
    go_enter Try.func12, Try.ntmps12
    go_wp2_with fail
    refine (KK.out _).mono ?_
    rintro e w' ⟨rfl, rfl⟩
    go_wp2_with fail
    go_ret2
    exact ⟨by rw [HR.out]; rfl, Below.refl _ _⟩
  have d1 : ((L.length : Int) != (s.size : Int)) = false := by rw [bne_eq_false_iff_eq]; omega
  cases hft : fitB s.data.toList L with
  | false =>
    have HR := Lib.hid (cput_unfit hk (L := L) (fun h => by rw [hft] at h; exact absurd h.2 (by simp)))
    rw [hft] at KT
    clear hk hn hft
    go_enter Try.func12, Try.ntmps12
    go_wp2_with fail
    refine (KK.out _).mono ?_
    rintro e w' ⟨rfl, rfl⟩
    go_wp2_with fail
    refine (KT.out _ HL.out).mono ?_
    rintro e w1 ⟨rfl, b1⟩
    have HB1 := Lib.hid b1
    clear b1
    go_wp2_with fail
    go_ret2
    exact ⟨by rw [HR.out]; rfl, HB1.out⟩
  | true =>
  rw [hft] at KT
  have HK := Lib.hid hk
  have HLS := Lib.hid (show L.length = s.size by omega)
  have HLO := Lib.hid (fun h => cput_long hk hn hft h)
  have HOK := Lib.hid (fun h => cput_ok hk hn hft h)
  clear hk hft hn hsz
  go_enter Try.func12, Try.ntmps12
  go_wp2_with fail
  refine (KK.out _).mono ?_
  rintro e w' ⟨rfl, rfl⟩
  go_wp2_with fail
  refine (KT.out _ HL.out).mono ?_
  rintro e w1 ⟨rfl, b1⟩
  have HB1 := Lib.hid b1
  clear b1
  go_wp2_with fail
  go_loopw [6, 7] (fun v i wr => ∃ (k : Nat) (T : ByteArray), k ≤ L.length ∧ v = .string T ∧ i = .int .i64 (k : Int) ∧ T.data.toList = recAll s.data.toList (L.take k) ∧ T.size ≤ 100010 * k ∧ Below w.heap.size w wr) (fun _ i _ => L.length - (intOf i).toNat)
  case atStart => exact ⟨0, ⟨#[]⟩, by omega, rfl, rfl, by rw [List.take_zero, recAll_nil], Nat.zero_le _, HB1.out⟩
  case round =>
    obtain ⟨k, T, hk, rfl, rfl, hTT, hTs, hB⟩ := hrel
    have HTL := Lib.hid hTT
    have HB := Lib.hid hB
    clear hB hTT
    by_cases hlt : k < L.length
    · obtain ⟨b, off, rfl, hbl, c0, c1, c2⟩ := HL.out.later HB.out k hlt
      have hks : k < s.size := by rw [← HLS.out]; exact hlt
      have hks2 : k < s.data.toList.length := by rw [HSZ.out]; exact hks
      have HBY := Lib.hid (byte_at s k hks)
      have hcs := kinds_at HK.out k hks2
      rw [HBY.out] at hcs
      have hnx := recAll_next s.data.toList L k hks2 hlt
      have hfine := HFI.out L[k] (List.getElem_mem hlt)
      rw [HBY.out] at hnx
      obtain ⟨f, hf⟩ : ∃ f, L[k] = f := ⟨_, rfl⟩
      rw [hf] at c0 c1 c2 hnx hfine
      obtain ⟨hok, hsz9⟩ := hfine
      have p0 : (0 : Int) ≤ (k : Int) := by omega
      have p1 : (k : Int) < (L.length : Int) := by omega
      have p2 : (k : Int) < (s.size : Int) := by omega
      have HTS := Lib.hid hTs
      have hts9 : T.size ≤ 300000000 := by omega
      have KB := Lib.hid (fun w => rcb_c s[k] f w hcs hok hsz9)
      unfold Fd.val at KB
      have HNX := Lib.hid hnx
      clear hf hnx hok hcs hsz9 hbl hTs
      go_wp2_with fail
      go_region_with (first | (go_at_call 38; refine (KB.out _).mono ?_; rintro e w2 ⟨F, rfl, hF, hF9, b2⟩))
      all_goals have B2 := Lib.hid (HB.out.trans ((((Below.refl wr.heap.size wr).drew).trans b2).mono HB.out.size))
      all_goals have HFL := Lib.hid hF
      all_goals clear b2 hF
      all_goals go_wp2_with fail
      all_goals exact ⟨⟨k + 1, T ++ F, by omega, rfl, by simp, by rw [cat_list, HTL.out, HFL.out, HNX.out], by have := HTS.out; rw [ByteArray.size_append]; omega, B2.out⟩, by simp [intOf]; omega⟩
    · obtain rfl : k = L.length := by omega
      have HT2 := Lib.hid (show L.take L.length = L from List.take_length)
      rw [HT2.out] at HTL
      have htl : T.data.toList.length = T.size := by simp
      rw [HTL.out] at htl
      by_cases hlong : T.size ≤ 8192
      · have q1 : (T.size : Int) ≤ 8192 := by omega
        have HR := Lib.hid (HOK.out (by omega))
        clear htl hTs
        go_wp2_with fail
        go_ret2
        exact ⟨by rw [HR.out, ← HTL.out]; rfl, HB.out⟩
      · have q1 : ¬ (T.size : Int) ≤ 8192 := by omega
        have HR := Lib.hid (HLO.out (by omega))
        clear htl hTs
        go_wp2_with fail
        go_ret2
        exact ⟨by rw [HR.out]; rfl, HB.out⟩
end Go.Proofs.Ytialjglgkfcdmaa.Or
