/- Package quittanceref15: There, Places, Letters, Fields. -/
import Derived.Test.YtialjglgkfcdmaaCoLetters
import Derived.Test.YtialjglgkfcdmaaOcRBytes
namespace Go.Proofs.Ytialjglgkfcdmaa.Or
open Go.RowKit Cm
def IntsRes (zs : List Int) (w : World) (e : Ending) (w' : World) : Prop := ∃ a2 c2, e = .returned (.slice a2 zs.length c2) ∧ Ints w' a2 zs ∧ Below w.heap.size w w'
def FdsRes (L : List Fd) (w : World) (e : Ending) (w' : World) : Prop := ∃ a2 c2, e = .returned (.slice a2 L.length c2) ∧ Fds w' a2 L ∧ Below w.heap.size w w'
set_option maxRecDepth 100000 in
set_option maxHeartbeats 1600000 in
theorem there_c (S : Sch) (n : Int) (w : World) (a : Option Addr) (cap : Nat) (hM : Mat w a S.idx) (hS : SmallS S) :
    Calls Try.prog 28 #[S.val a cap, .int .i64 n] w fun e w' => e = .returned (.bool (thereB S n)) ∧ Below w.heap.size w w' := by
  have SB := Lib.hid (sb_new w S a cap hM 40)
  have KC := Lib.hid (fun w h => rcheck_c S w a cap h hS)
  unfold Sch.val at KC
  unfold Sch.val
  clear hM
  obtain ⟨y0, y1, y2, y3, -, -, -⟩ := SB.out
  cases hc : chkB S with
  | false =>
    have HR := Lib.hid (there_no (n := n) (.inl hc))
    rw [chkE_no hc] at KC
    clear hc
    go_enter Try.func28, Try.ntmps28
    go_wp2_with fail
    refine (KC.out _ SB.out.mat).mono ?_
    rintro e w1 ⟨rfl, b1⟩
    have S1 := Lib.hid (SB.out.later b1)
    clear b1
    go_wp2_with fail
    go_ret
    exact ⟨by rw [HR.out]; rfl, S1.out.below⟩
  | true =>
    rw [chkE_yes hc] at KC
    by_cases h1 : n < -1
    · have HR := Lib.hid (there_no (S := S) (.inr (.inl h1)))
      have q : ¬ -1 ≤ n := by omega
      clear hc h1
      go_enter Try.func28, Try.ntmps28
      go_wp2_with fail
      refine (KC.out _ SB.out.mat).mono ?_
      rintro e w1 ⟨rfl, b1⟩
      have S1 := Lib.hid (SB.out.later b1)
      clear b1
      go_wp2_with fail
      go_ret
      exact ⟨by rw [HR.out]; rfl, S1.out.below⟩
    · have q : -1 ≤ n := by omega
      by_cases h2 : (S.idx.length : Int) ≤ n
      · have HR := Lib.hid (there_no (S := S) (.inr (.inr h2)))
        have q2 : decide (n < (S.idx.length : Int)) = false := decide_eq_false (by omega)
        clear hc h1 h2
        go_enter Try.func28, Try.ntmps28
        go_wp2_with fail
        refine (KC.out _ SB.out.mat).mono ?_
        rintro e w1 ⟨rfl, b1⟩
        have S1 := Lib.hid (SB.out.later b1)
        clear b1 y0 y1 y2 y3
        obtain ⟨y0, y1, y2, y3, -, -, -⟩ := S1.out
        go_wp2_with fail
        go_ret
        exact ⟨by rw [HR.out]; rfl, S1.out.below⟩
      · have HR := Lib.hid (there_yes hc h1 h2)
        have q2 : n < (S.idx.length : Int) := by omega
        clear hc h1 h2
        go_enter Try.func28, Try.ntmps28
        go_wp2_with fail
        refine (KC.out _ SB.out.mat).mono ?_
        rintro e w1 ⟨rfl, b1⟩
        have S1 := Lib.hid (SB.out.later b1)
        clear b1 y0 y1 y2 y3
        obtain ⟨y0, y1, y2, y3, -, -, -⟩ := S1.out
        go_wp2_with fail
        go_ret
        exact ⟨by rw [HR.out]; rfl, S1.out.below⟩
set_option maxRecDepth 100000 in
set_option maxHeartbeats 3200000 in
theorem rplaces_c (S : Sch) (n : Int) (w : World) (a : Option Addr) (cap : Nat) (hM : Mat w a S.idx) (hS : SmallS S) (hT : thereB S n = true) :
    Calls Try.prog 45 #[S.val a cap, .int .i64 n] w (IntsRes (placesF S n) w) := by
  have SB := Lib.hid (sb_new w S a cap hM 40)
  obtain ⟨hc, h1, h2⟩ := there_chk hT
  obtain ⟨-, -, -, h4, h5, -, -⟩ := chk_parts hc
  have hk40 := hS.kinds
  unfold Sch.val
  clear hM hc hT
  obtain ⟨y0, y1, y2, y3, -, -, -⟩ := SB.out
  by_cases h3 : n = -1
  · subst h3
    have HPL := Lib.hid (show placesF S (-1) = (List.range S.key.toNat).map fun (i : Nat) => (i : Int) from rfl)
    obtain ⟨K, hK, hk9⟩ : ∃ K : Nat, S.key = (K : Int) ∧ K ≤ 40 := ⟨S.key.toNat, by omega, by omega⟩
    have HKK := Lib.hid hK
    rw [hK] at y2
    clear hK h4 h5 h1 h2
    go_enter Try.func45, Try.ntmps45
    go_wp2_with fail
    generalize w.alloc (.cells #[.string S.name, .string S.kinds, .int .i64 S.key, .slice a S.idx.length cap] 40) = W0 at SB y0 y1 y2 y3 ⊢
    go_loopw [5, 6] (fun s5 i wr => ∃ k : Nat, k ≤ K ∧ i = .int .i64 k ∧ OwnI W0.heap.size wr s5 ((List.range k).map fun (i : Nat) => (i : Int)) ∧ Below W0.heap.size W0 wr) (fun _ i _ => K - (intOf i).toNat)
    case atStart => exact ⟨0, by omega, rfl, OwnI.nil _ _, Below.refl _ _⟩
    case round =>
      obtain ⟨k, hk, rfl, hO, hB⟩ := hrel
      have HO := Lib.hid hO
      have HB := Lib.hid hB
      obtain ⟨-, -, z2, -, -, -, -⟩ := SB.out.later hB
      rw [HKK.out] at z2
      clear hO hB y0 y1 y2 y3
      by_cases hlt : k < K
      · have q1 : (k : Int) < (K : Int) := by omega
        have HO2 := Lib.hid (OwnI.later HO.out ((Below.refl _ wr).alloc (Nat.le_refl _) (.cells #[.int .i64 (k : Int)] 3)))
        have hcl : (wr.alloc (.cells #[.int .i64 (k : Int)] 3)).cell? ⟨wr.heap.size, 0, none⟩ = some (.int .i64 (k : Int)) := by rw [World.cell?_alloc_at _ _ _ _ rfl]; rfl
        have HCL := Lib.hid hcl
        have hbr : W0.heap.size ≤ wr.heap.size := HB.out.size
        have HE := Lib.hid (show (List.range (k + 1)).map (fun (i : Nat) => (i : Int)) = (List.range k).map (fun (i : Nat) => (i : Int)) ++ [(k : Int)] by rw [List.range_succ, List.map_append]; rfl)
        clear hcl
        go_wp2_with (at_builtin; refine app_ints rfl _ _ rfl W0.heap.size _ _ (k : Int) rfl wr.heap.size 1 rfl HO2.out HCL.out (by simp; omega) (by simp; omega) ?_)
        intro v8 w8 h8 b8
        have H8 := Lib.hid h8
        have B8 := Lib.hid (below_under (HB.out.alloc hbr _) b8)
        clear h8 b8
        go_wp2_with fail
        exact ⟨⟨k + 1, by omega, by simp, by rw [HE.out]; exact H8.out, B8.out⟩, by simp [intOf]; omega⟩
      · obtain rfl : k = K := by omega
        obtain ⟨a', cap', rfl, hi⟩ := HO.out.ints
        have H9 := Lib.hid hi
        have q1 : ¬ (k : Int) < (k : Int) := by omega
        have HB9 := Lib.hid (below_then SB.out.below HB.out)
        clear hi HO
        go_wp2_with fail
        go_ret
        exact ⟨a', cap', by rw [HPL.out, HKK.out]; simp, by rw [HPL.out, HKK.out]; exact H9.out, HB9.out⟩
  · obtain ⟨k, rfl⟩ : ∃ k : Nat, n = (k : Int) := ⟨n.toNat, by omega⟩
    have hk : k < S.idx.length := by omega
    have HPL := Lib.hid (show placesF S (k : Int) = S.idx[k] by unfold placesF; rw [if_neg (by omega)]; simp [hk])
    obtain ⟨b, off, aj, cj, rfl, hb, c, hcj, hi⟩ := SB.out.mat k hk
    have HI := Lib.hid hi
    have q0 : (0 : Int) ≤ (k : Int) := by omega
    have q1 : (k : Int) < (S.idx.length : Int) := by omega
    clear hi h4 h5 h1 h2 h3
    go_enter Try.func45, Try.ntmps45
    go_wp2_with fail
    go_ret
    exact ⟨aj, cj, by rw [HPL.out]; rfl, by rw [HPL.out]; exact HI.out, SB.out.below⟩
theorem sub_of (U : ByteArray) (m : Nat) (h : m < U.size) : (U.extract m (m + 1)).data.toList = [U.data.toList.getD m 0] := by
  rw [ext_one U m h, ← byte_at U m h]
  simp [h]
set_option maxRecDepth 100000 in
set_option maxHeartbeats 3200000 in
theorem rletters_c (S : Sch) (n : Int) (w : World) (a : Option Addr) (cap : Nat) (hM : Mat w a S.idx) (hS : SmallS S) :
    Calls Try.prog 18 #[S.val a cap, .int .i64 n] w (LtRes S n w) := by
  have SB := Lib.hid (sb_new w S a cap hM 40)
  have KT := Lib.hid (fun w h => there_c S n w a cap h hS)
  cases ht : thereB S n with
  | false =>
    have HT := Lib.hid ht
    rw [ht] at KT
    unfold Sch.val at KT
    unfold Sch.val
    clear hM ht
    obtain ⟨y0, y1, y2, y3, -, -, -⟩ := SB.out
    go_enter Try.func18, Try.ntmps18
    go_wp2_with fail
    refine (KT.out _ SB.out.mat).mono ?_
    rintro e w1 ⟨rfl, b1⟩
    have S1 := Lib.hid (SB.out.later b1)
    clear b1
    go_wp2_with fail
    go_ret2
    exact lt_no HT.out S1.out.below
  | true =>
    have HT := Lib.hid ht
    have KP := Lib.hid (fun w h => rplaces_c S n w a cap h hS ht)
    have HIN := Lib.hid (places_in ht)
    have hlen := places_len ht hS
    have hk40 := hS.kinds
    rw [ht] at KT
    unfold Sch.val at KT KP
    unfold Sch.val
    clear hM ht
    have HLT := Lib.hid (show lettersF S n = pickL 0 S.kinds.data.toList (placesF S n) from rfl)
    generalize placesF S n = zs at KP HIN hlen HLT
    obtain ⟨y0, y1, y2, y3, -, -, -⟩ := SB.out
    go_enter Try.func18, Try.ntmps18
    go_wp2_with fail
    refine (KT.out _ SB.out.mat).mono ?_
    rintro e w1 ⟨rfl, b1⟩
    have S1 := Lib.hid (SB.out.later b1)
    clear b1 y0 y1 y2 y3
    obtain ⟨y0, y1, y2, y3, -, -, -⟩ := S1.out
    go_wp2_with fail
    refine (KP.out _ S1.out.mat).mono ?_
    rintro e w2 ⟨a2, c2, rfl, hi, b2⟩
    have S2 := Lib.hid (S1.out.later b2)
    have HI := Lib.hid hi
    clear b2 hi y0 y1 y2 y3
    go_wp2_with fail
    go_loopw [7, 8] (fun t i wr => ∃ (k : Nat) (T : ByteArray), k ≤ zs.length ∧ t = .string T ∧ i = .int .i64 k ∧ T.data.toList = pickL 0 S.kinds.data.toList (zs.take k) ∧ T.size = k ∧ Below w2.heap.size w2 wr) (fun _ i _ => zs.length - (intOf i).toNat)
    case atStart => exact ⟨0, ⟨#[]⟩, by omega, rfl, rfl, rfl, rfl, Below.refl _ _⟩
    case round =>
      obtain ⟨k, T, hk, rfl, rfl, hT, hTs, hB⟩ := hrel
      have HTT := Lib.hid hT
      have HB := Lib.hid hB
      obtain ⟨-, y1, -, -, -, -, -⟩ := S2.out.later hB
      clear hT hB
      by_cases hlt : k < zs.length
      · obtain ⟨b, off, rfl, hb, c⟩ := HI.out.later HB.out k hlt
        have hz9 := HIN.out _ (List.getElem_mem hlt)
        have HNX := Lib.hid (pick_next 0 S.kinds.data.toList zs k hlt)
        obtain ⟨z, hz⟩ : ∃ z, zs[k] = z := ⟨_, rfl⟩
        rw [hz] at c hz9 HNX
        obtain ⟨m, rfl⟩ : ∃ m : Nat, z = (m : Int) := ⟨z.toNat, by omega⟩
        have hml : m < S.kinds.size := by omega
        have HSU := Lib.hid (sub_of S.kinds m hml)
        have HSZ := Lib.hid (show (S.kinds.extract m (m + 1)).size = 1 by rw [ByteArray.size_extract]; omega)
        have q0 : (0 : Int) ≤ (k : Int) := by omega
        have q1 : (k : Int) < (zs.length : Int) := by omega
        have q2 : (0 : Int) ≤ (m : Int) := by omega
        have q3 : (m : Int) + 1 ≤ (S.kinds.size : Int) := by omega
        have q4 : (m : Int) ≤ (m : Int) + 1 := by omega
        have q5 : ((m : Int) + 1).toNat = m + 1 := by omega
        have q6 : (0 : Int) ≤ (m : Int) + 1 := by omega
        clear hz hz9
        go_wp2_with fail
        go_quiet (fail)
        go_wp2_with fail
        refine ⟨⟨k + 1, T ++ S.kinds.extract m (m + 1), by omega, by simp, by simp, ?_, by rw [ByteArray.size_append, HSZ.out, hTs], below_drewN HB.out _⟩, by simp [intOf]; omega⟩
        rw [cat_list, HTT.out, HSU.out, HNX.out]; rfl
      · obtain rfl : k = zs.length := by omega
        have hT2 := HTT.out
        rw [List.take_length, ← HLT.out] at hT2
        have HTE := Lib.hid (str_of hT2)
        have q1 : ¬ (zs.length : Int) < (zs.length : Int) := by omega
        have HB9 := Lib.hid (below_then S2.out.below HB.out)
        obtain rfl : T = ⟨(lettersF S n).toArray⟩ := ByteArray.ext (Array.ext' (by rw [hT2]))
        clear hT2 HTT HTE
        go_wp2_with fail
        go_ret2
        exact lt_yes HT.out HB9.out
set_option maxRecDepth 100000 in
set_option maxHeartbeats 3200000 in
theorem fields_c (S : Sch) (n : Int) (w : World) (a : Option Addr) (cap : Nat) (ag : Option Addr) (cg : Nat) (L : List Fd) (hM : Mat w a S.idx) (hr : Fds w ag L) (hS : SmallS S) (hT : thereB S n = true) (hL : L.length = S.kinds.size) (d : Fd) :
    Calls Try.prog 29 #[S.val a cap, .int .i64 n, .slice ag L.length cg] w (FdsRes (pickL d L (placesF S n)) w) := by
  have SB := Lib.hid (sb_new w S a cap hM 40)
  have KP := Lib.hid (fun w h => rplaces_c S n w a cap h hS hT)
  have HIN := Lib.hid (places_in hT)
  have hlen := places_len hT hS
  have HR := Lib.hid hr
  unfold Sch.val at KP
  unfold Sch.val
  rw [← hL] at HIN
  clear hM hT hr
  generalize placesF S n = zs at KP HIN hlen ⊢
  obtain ⟨y0, y1, y2, y3, -, -, -⟩ := SB.out
  go_enter Try.func29, Try.ntmps29
  go_wp2_with fail
  refine (KP.out _ SB.out.mat).mono ?_
  rintro e w1 ⟨a2, c2, rfl, hi, b1⟩
  have B1 := Lib.hid (below_then SB.out.below b1)
  have HI := Lib.hid hi
  clear b1 hi y0 y1 y2 y3
  go_wp2_with fail
  go_loopw [8, 9] (fun s8 i wr => ∃ k : Nat, k ≤ zs.length ∧ i = .int .i64 k ∧ OwnF w1.heap.size wr s8 (pickL d L (zs.take k)) ∧ Below w1.heap.size w1 wr) (fun _ i _ => zs.length - (intOf i).toNat)
  case atStart => exact ⟨0, by omega, rfl, OwnF.nil _ _, Below.refl _ _⟩
  case round =>
    obtain ⟨k, hk, rfl, hO, hB⟩ := hrel
    have HO := Lib.hid hO
    have HB := Lib.hid hB
    clear hO hB
    by_cases hlt : k < zs.length
    · obtain ⟨b, off, rfl, hb, c⟩ := HI.out.later HB.out k hlt
      have hz9 := HIN.out _ (List.getElem_mem hlt)
      have HNX := Lib.hid (pick_next d L zs k hlt)
      obtain ⟨z, hz⟩ : ∃ z, zs[k] = z := ⟨_, rfl⟩
      rw [hz] at c hz9 HNX
      obtain ⟨m, rfl⟩ : ∃ m : Nat, z = (m : Int) := ⟨z.toNat, by omega⟩
      have hml : m < L.length := by omega
      obtain ⟨b2, off2, rfl, hb2, c1, c2', c3⟩ := HR.out.later (below_then B1.out HB.out) m hml
      have e3 : L.getD ((m : Int)).toNat d = L[m] := by simp [hml]
      rw [e3] at HNX
      obtain ⟨x, hx⟩ : ∃ x, L[m] = x := ⟨_, rfl⟩
      rw [hx] at c1 c2' c3 HNX
      have q0 : (0 : Int) ≤ (k : Int) := by omega
      have q1 : (k : Int) < (zs.length : Int) := by omega
      have q2 : (0 : Int) ≤ (m : Int) := by omega
      have q3 : (m : Int) < (L.length : Int) := by omega
      have HO2 := Lib.hid (OwnF.later HO.out ((Below.refl _ wr).alloc (Nat.le_refl _) (.cells #[.int .u64 x.n, .int .i64 x.i, .string x.s] 59)))
      have HFD := Lib.hid (fd_new wr x 59)
      have hbr : w1.heap.size ≤ wr.heap.size := HB.out.size
      have HPL := Lib.hid (show (pickL d L (zs.take k)).length ≤ 1000 by unfold pickL; rw [List.length_map, List.length_take]; omega)
      clear hz hx hz9 e3
      go_wp2_with (at_builtin; refine app_fds rfl _ _ rfl w1.heap.size _ _ x rfl wr.heap.size 1 rfl HO2.out HFD.out (by have := HPL.out; omega) (by simp; omega) ?_)
      intro v8 w8 h8 b8
      have H8 := Lib.hid h8
      have B8 := Lib.hid (below_under (HB.out.alloc hbr _) b8)
      clear h8 b8
      go_wp2_with fail
      exact ⟨⟨k + 1, by omega, by simp, by rw [HNX.out]; exact H8.out, B8.out⟩, by simp [intOf]; omega⟩
    · obtain rfl : k = zs.length := by omega
      have HF := HO.out
      rw [List.take_length] at HF
      obtain ⟨a', cap', rfl, hfd⟩ := own_fds HF
      have H9 := Lib.hid hfd
      have HB9 := Lib.hid (below_then B1.out HB.out)
      clear HF hfd HO
      go_wp2_with fail
      go_ret
      exact ⟨_, _, rfl, H9.out, HB9.out⟩
end Go.Proofs.Ytialjglgkfcdmaa.Or
