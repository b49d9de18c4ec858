/- Package quittanceref15: Get. -/
import Derived.Test.YtialjglgkfcdmaaCoGet
namespace Go.Proofs.Ytialjglgkfcdmaa.Or
open Go.RowKit
theorem mk_data2 (F : ByteArray) : (⟨F.data.toList.toArray⟩ : ByteArray) = F := by cases F; simp
theorem rcput_same {s F : ByteArray} {w : World} {a : Option Addr} {cap : Nat} {L : List Fd} (hL : Fds w a L) (hf : Fine L) (hs : s.size ≤ 1000) (hl : L.length ≤ 1000) (hp : cput s.data.toList L = (F.data.toList, 0)) :
    Calls Try.prog 12 #[.string s, .slice a L.length cap] w fun e w' => e = .returned (.tuple #[.string F, .int .i64 0]) ∧ Below w.heap.size w w' := by
  refine (rcodput_c s w a cap L hL hf hs hl).mono ?_
  rintro e w' ⟨rfl, hb⟩
  rw [hp]
  exact ⟨by simp only [mk_data2], hb⟩
theorem rcput_other {s F : ByteArray} {w : World} {a : Option Addr} {cap : Nat} {L : List Fd} (hL : Fds w a L) (hf : Fine L) (hs : s.size ≤ 1000) (hl : L.length ≤ 1000) (hp : (cput s.data.toList L).2 ≠ 0 ∨ ((cput s.data.toList L).2 = 0 ∧ (cput s.data.toList L).1 ≠ F.data.toList)) :
    Calls Try.prog 12 #[.string s, .slice a L.length cap] w fun e w' => ∃ (G : ByteArray) (q : Int), e = .returned (.tuple #[.string G, .int .i64 q]) ∧ ((q == 0) = false ∨ (q = 0 ∧ (G.toList == F.toList) = false)) ∧ Below w.heap.size w w' := by
  refine (rcodput_c s w a cap L hL hf hs hl).mono ?_
  rintro e w' ⟨rfl, hb⟩
  refine ⟨_, _, rfl, ?_, hb⟩
  rcases hp with h | ⟨h, h2⟩
  · left; simp [h]
  · right
    refine ⟨h, ?_⟩
    rw [ByteArray.toList_eq, ByteArray.toList_eq]
    simpa using h2
set_option maxRecDepth 100000 in
set_option maxHeartbeats 6400000 in
theorem rcodget_c (K F : ByteArray) (w : World) (hK : K.size ≤ 1000) (hF : F.size ≤ 100000) : Calls Try.prog 14 #[.string K, .string F] w (CGetRes K.data.toList F.data.toList w) := by
  have KK := Lib.hid (fun w => rkinds_c K w (by omega))
  have HFS := Lib.hid (show F.data.toList.length = F.size by simp)
  have HKL := Lib.hid (show K.data.toList.length = K.size by simp)
  cases hk : kindsB K.data.toList with
  | false =>
    have HR := Lib.hid (cget_kinds (B := F.data.toList) hk)
    rw [hk] at KK
    clear hk
    go_enter Try.func14, Try.ntmps14
    go_wp2_with fail
    refine (KK.out _).mono ?_
    rintro e w1 ⟨rfl, rfl⟩
    go_wp2_with fail
    go_ret2
    exact cnil_res HR.out (Below.refl _ _)
  | true =>
  rw [hk] at KK
  have HK := Lib.hid hk
  by_cases hl : 8192 < F.size
  case pos =>
    have HR := Lib.hid (cget_long hk (by rw [HFS.out]; exact hl))
    have q1 : (8192 : Int) < (F.size : Int) := by omega
    clear hk hl
    go_enter Try.func14, Try.ntmps14
    go_wp2_with fail
    refine (KK.out _).mono ?_
    rintro e w1 ⟨rfl, rfl⟩
    go_wp2_with fail
    go_ret2
    exact cnil_res HR.out (Below.refl _ _)
  have q1 : ¬ (8192 : Int) < (F.size : Int) := by omega
  have HL := Lib.hid (show ¬ 8192 < F.data.toList.length by rw [HFS.out]; exact hl)
  clear hk
  go_enter Try.func14, Try.ntmps14
  go_wp2_with fail
  refine (KK.out _).mono ?_
  rintro e w1 ⟨rfl, rfl⟩
  go_wp2_with fail
  go_loopw [6, 7, 8, 9, 10] (fun s6 s7 s8 _ _ wr => ∃ (LL : List Fd) (R : ByteArray), s7 = .string R ∧ s8 = .int .i64 (LL.length : Int) ∧ LL.length ≤ K.size ∧ OwnF w.heap.size wr s6 LL ∧ Inv K.data.toList F.data.toList LL R.data.toList ∧ Below w.heap.size w wr) (fun _ _ s8 _ _ _ => K.size - (intOf s8).toNat)
  case atStart => exact ⟨[], F, rfl, rfl, by simp, OwnF.nil _ _, inv_zero _ _, Below.refl _ _⟩
  case round =>
    obtain ⟨LL, R, rfl, rfl, hlen, hO, hinv, hB⟩ := hrel
    have HO := Lib.hid hO
    have HI := Lib.hid hinv
    have HB := Lib.hid hB
    have hR9 : R.size ≤ 8192 := by
      have := inv_len hinv
      rw [HFS.out] at this
      simp at this
      omega
    have hbr : w.heap.size ≤ wr.heap.size := hB.size
    clear hO hinv hB
    by_cases hlt : LL.length < K.size
    · have p0 : (0 : Int) ≤ (LL.length : Int) := by omega
      have p1 : (LL.length : Int) < (K.size : Int) := by omega
      have hks : LL.length < K.data.toList.length := by rw [HKL.out]; exact hlt
      have hcs := kinds_at HK.out _ hks
      have HNX := Lib.hid (fun c hc f r hl ht => inv_next (f := f) (r := r) (c := c) HI.out hks hc hl ht)
      have HFAIL := Lib.hid (fun c hc ht => inv_fail (c := c) HI.out hks hc ht)
      rw [byte_at K _ hlt] at hcs HNX HFAIL
      obtain ⟨c, hc⟩ : ∃ c, K[LL.length] = c := ⟨_, rfl⟩
      have hcc : K[LL.length] = c := hc
      rw [hc] at hcs HNX HFAIL
      have HLET := Lib.hid hcs
      clear hc
      rcases hcs with hcs | hcs | hcs
      · have d1 : ((c.toNat : Int) == 110) = true := beq_iff_eq.2 (by omega)
        have HTC := Lib.hid (takeC_n hcs R.data.toList)
        clear hcs
        cases ht : Ta.take 0 R.data.toList with
        | none =>
          have KT := Lib.hid (fun w => rtk1_none w (show R.size ≤ 1000000 by omega) ht)
          have HR := Lib.hid (cget_none HK.out HL.out (HFAIL.out c rfl (by rw [HTC.out, ht]; rfl)))
          clear ht
          go_wp2_with fail
          refine (KT.out _).mono ?_
          rintro e w2 ⟨rfl, b2⟩
          have HZ := Lib.hid ((fd_new wr ⟨0, 0, ⟨#[]⟩⟩ 59).later b2)
          have HZF := Lib.hid (b2.frozen (p := ⟨wr.heap.size, 0, none⟩) (by simp))
          have hb2 : Below wr.heap.size wr w2 := ((Below.refl _ wr).alloc (Nat.le_refl _) _).trans (b2.mono (by simp))
          have HB2 := Lib.hid hb2
          have hfz : w2.frozen? ⟨wr.heap.size, 0, none⟩ = false := by rw [HZF.out]; simp [go_sem]
          obtain ⟨c0, c1, c2, c3⟩ := HZ.out
          clear b2 hb2
          have HB9 := Lib.hid (HB.out.trans ((HB2.out.setCell (p := ⟨wr.heap.size, 0, none⟩) (Nat.le_refl _) (.int .u64 0)).mono hbr))
          go_wp2_with fail
          go_ret2
          exact cnil_res HR.out HB9.out
        | some x =>
          obtain ⟨n, r⟩ := x
          have KT := Lib.hid (fun w => rtk1_some w (show R.size ≤ 1000000 by omega) ht)
          have HN := Lib.hid (HNX.out c rfl (Fd.mk (n : Int) 0 ⟨#[]⟩) r HLET.out (by rw [HTC.out, ht]; rfl))
          clear ht
          go_wp2_with fail
          refine (KT.out _).mono ?_
          rintro e w2 ⟨rfl, b2⟩
          have HZ := Lib.hid ((fd_new wr ⟨0, 0, ⟨#[]⟩⟩ 59).later b2)
          have HZF := Lib.hid (b2.frozen (p := ⟨wr.heap.size, 0, none⟩) (by simp))
          have hb2 : Below wr.heap.size wr w2 := ((Below.refl _ wr).alloc (Nat.le_refl _) _).trans (b2.mono (by simp))
          have HB2 := Lib.hid hb2
          have hfz : w2.frozen? ⟨wr.heap.size, 0, none⟩ = false := by rw [HZF.out]; simp [go_sem]
          obtain ⟨c0, c1, c2, c3⟩ := HZ.out
          clear b2 hb2
          have HW3 := Lib.hid (HB2.out.setCell (p := ⟨wr.heap.size, 0, none⟩) (Nat.le_refl _) (.int .u64 (n : Int)))
          have HB3 := Lib.hid (HB.out.trans (HW3.out.mono hbr))
          have HO3 := Lib.hid (OwnF.later HO.out HW3.out)
          have hw3 : w.heap.size ≤ (w2.setCell ⟨wr.heap.size, 0, none⟩ (.int .u64 (n : Int))).heap.size := HB3.out.size
          have HO4 := Lib.hid (OwnF.later HO3.out ((Below.refl _ (w2.setCell ⟨wr.heap.size, 0, none⟩ (.int .u64 (n : Int)))).alloc (Nat.le_refl _) (.cells #[.int .u64 (Fd.mk (n : Int) 0 ⟨#[]⟩).n, .int .i64 (Fd.mk (n : Int) 0 ⟨#[]⟩).i, .string (Fd.mk (n : Int) 0 ⟨#[]⟩).s] 59)))
          have hF4 := fd_new (w2.setCell ⟨wr.heap.size, 0, none⟩ (.int .u64 (n : Int))) (Fd.mk (n : Int) 0 ⟨#[]⟩) 59
          rw [show (w2.setCell ⟨wr.heap.size, 0, none⟩ (.int .u64 (n : Int))).heap.size = w2.heap.size by simp] at hF4 hw3
          have HF4 := Lib.hid hF4
          clear hF4
          go_wp2_with (at_builtin; refine app_fds rfl _ _ rfl w.heap.size _ LL (Fd.mk (n : Int) 0 ⟨#[]⟩) rfl w2.heap.size 1 rfl HO4.out HF4.out (by omega) (by simp; omega) ?_)
          intro v8 w8 h8 b8
          have H8 := Lib.hid h8
          have B8 := Lib.hid (below_under (HB3.out.alloc HB3.out.size _) b8)
          clear h8 b8
          go_wp2_with fail
          exact ⟨⟨LL ++ [(Fd.mk (n : Int) 0 ⟨#[]⟩)], ⟨r.toArray⟩, rfl, by simp, by simp; omega, H8.out, HN.out, B8.out⟩, by simp [intOf]; omega⟩
      · have d1 : ((c.toNat : Int) == 110) = false := beq_eq_false_iff_ne.2 (by omega)
        have d2 : ((c.toNat : Int) == 105) = true := beq_iff_eq.2 (by omega)
        have HTC := Lib.hid (takeC_i hcs R.data.toList)
        clear hcs
        cases ht : Ta.take 0 R.data.toList with
        | none =>
          have KT := Lib.hid (fun w => rtk2_none w (show R.size ≤ 1000000 by omega) ht)
          have HR := Lib.hid (cget_none HK.out HL.out (HFAIL.out c rfl (by rw [HTC.out, ht]; rfl)))
          clear ht
          go_wp2_with fail
          refine (KT.out _).mono ?_
          rintro e w2 ⟨rfl, b2⟩
          have HZ := Lib.hid ((fd_new wr ⟨0, 0, ⟨#[]⟩⟩ 59).later b2)
          have HZF := Lib.hid (b2.frozen (p := ⟨wr.heap.size, 1, none⟩) (by simp))
          have hb2 : Below wr.heap.size wr w2 := ((Below.refl _ wr).alloc (Nat.le_refl _) _).trans (b2.mono (by simp))
          have HB2 := Lib.hid hb2
          have hfz : w2.frozen? ⟨wr.heap.size, 1, none⟩ = false := by rw [HZF.out]; simp [go_sem]
          obtain ⟨c0, c1, c2, c3⟩ := HZ.out
          clear b2 hb2
          have HB9 := Lib.hid (HB.out.trans ((HB2.out.setCell (p := ⟨wr.heap.size, 1, none⟩) (Nat.le_refl _) (.int .i64 0)).mono hbr))
          go_wp2_with fail
          go_ret2
          exact cnil_res HR.out HB9.out
        | some x =>
          obtain ⟨n, r⟩ := x
          have KT := Lib.hid (fun w => rtk2_some w (show R.size ≤ 1000000 by omega) ht)
          have HN := Lib.hid (HNX.out c rfl (Fd.mk 0 (Tal.unz n) ⟨#[]⟩) r HLET.out (by rw [HTC.out, ht]; rfl))
          clear ht
          go_wp2_with fail
          refine (KT.out _).mono ?_
          rintro e w2 ⟨rfl, b2⟩
          have HZ := Lib.hid ((fd_new wr ⟨0, 0, ⟨#[]⟩⟩ 59).later b2)
          have HZF := Lib.hid (b2.frozen (p := ⟨wr.heap.size, 1, none⟩) (by simp))
          have hb2 : Below wr.heap.size wr w2 := ((Below.refl _ wr).alloc (Nat.le_refl _) _).trans (b2.mono (by simp))
          have HB2 := Lib.hid hb2
          have hfz : w2.frozen? ⟨wr.heap.size, 1, none⟩ = false := by rw [HZF.out]; simp [go_sem]
          obtain ⟨c0, c1, c2, c3⟩ := HZ.out
          clear b2 hb2
          have HW3 := Lib.hid (HB2.out.setCell (p := ⟨wr.heap.size, 1, none⟩) (Nat.le_refl _) (.int .i64 (Tal.unz n)))
          have HB3 := Lib.hid (HB.out.trans (HW3.out.mono hbr))
          have HO3 := Lib.hid (OwnF.later HO.out HW3.out)
          have hw3 : w.heap.size ≤ (w2.setCell ⟨wr.heap.size, 1, none⟩ (.int .i64 (Tal.unz n))).heap.size := HB3.out.size
          have HO4 := Lib.hid (OwnF.later HO3.out ((Below.refl _ (w2.setCell ⟨wr.heap.size, 1, none⟩ (.int .i64 (Tal.unz n)))).alloc (Nat.le_refl _) (.cells #[.int .u64 (Fd.mk 0 (Tal.unz n) ⟨#[]⟩).n, .int .i64 (Fd.mk 0 (Tal.unz n) ⟨#[]⟩).i, .string (Fd.mk 0 (Tal.unz n) ⟨#[]⟩).s] 59)))
          have hF4 := fd_new (w2.setCell ⟨wr.heap.size, 1, none⟩ (.int .i64 (Tal.unz n))) (Fd.mk 0 (Tal.unz n) ⟨#[]⟩) 59
          rw [show (w2.setCell ⟨wr.heap.size, 1, none⟩ (.int .i64 (Tal.unz n))).heap.size = w2.heap.size by simp] at hF4 hw3
          have HF4 := Lib.hid hF4
          clear hF4
          go_wp2_with (at_builtin; refine app_fds rfl _ _ rfl w.heap.size _ LL (Fd.mk 0 (Tal.unz n) ⟨#[]⟩) rfl w2.heap.size 1 rfl HO4.out HF4.out (by omega) (by simp; omega) ?_)
          intro v8 w8 h8 b8
          have H8 := Lib.hid h8
          have B8 := Lib.hid (below_under (HB3.out.alloc HB3.out.size _) b8)
          clear h8 b8
          go_wp2_with fail
          exact ⟨⟨LL ++ [(Fd.mk 0 (Tal.unz n) ⟨#[]⟩)], ⟨r.toArray⟩, rfl, by simp, by simp; omega, H8.out, HN.out, B8.out⟩, by simp [intOf]; omega⟩
      · have d1 : ((c.toNat : Int) == 110) = false := beq_eq_false_iff_ne.2 (by omega)
        have d2 : ((c.toNat : Int) == 105) = false := beq_eq_false_iff_ne.2 (by omega)
        have HTC := Lib.hid (takeC_s hcs R.data.toList)
        clear hcs
        cases ht : Ta.takeText R.data.toList with
        | none =>
          have KT := Lib.hid (fun w => rtk3_none w (show R.size ≤ 1000000 by omega) ht)
          have HR := Lib.hid (cget_none HK.out HL.out (HFAIL.out c rfl (by rw [HTC.out, ht]; rfl)))
          clear ht
          go_wp2_with fail
          refine (KT.out _).mono ?_
          rintro e w2 ⟨rfl, b2⟩
          have HZ := Lib.hid ((fd_new wr ⟨0, 0, ⟨#[]⟩⟩ 59).later b2)
          have HZF := Lib.hid (b2.frozen (p := ⟨wr.heap.size, 2, none⟩) (by simp))
          have hb2 : Below wr.heap.size wr w2 := ((Below.refl _ wr).alloc (Nat.le_refl _) _).trans (b2.mono (by simp))
          have HB2 := Lib.hid hb2
          have hfz : w2.frozen? ⟨wr.heap.size, 2, none⟩ = false := by rw [HZF.out]; simp [go_sem]
          obtain ⟨c0, c1, c2, c3⟩ := HZ.out
          clear b2 hb2
          have HB9 := Lib.hid (HB.out.trans ((HB2.out.setCell (p := ⟨wr.heap.size, 2, none⟩) (Nat.le_refl _) (.string ⟨#[]⟩)).mono hbr))
          go_wp2_with fail
          go_ret2
          exact cnil_res HR.out HB9.out
        | some x =>
          obtain ⟨n, r⟩ := x
          have KT := Lib.hid (fun w => rtk3_some w (show R.size ≤ 1000000 by omega) ht)
          have HN := Lib.hid (HNX.out c rfl (Fd.mk 0 0 ⟨n.toArray⟩) r HLET.out (by rw [HTC.out, ht]; rfl))
          clear ht
          go_wp2_with fail
          refine (KT.out _).mono ?_
          rintro e w2 ⟨rfl, b2⟩
          have HZ := Lib.hid ((fd_new wr ⟨0, 0, ⟨#[]⟩⟩ 59).later b2)
          have HZF := Lib.hid (b2.frozen (p := ⟨wr.heap.size, 2, none⟩) (by simp))
          have hb2 : Below wr.heap.size wr w2 := ((Below.refl _ wr).alloc (Nat.le_refl _) _).trans (b2.mono (by simp))
          have HB2 := Lib.hid hb2
          have hfz : w2.frozen? ⟨wr.heap.size, 2, none⟩ = false := by rw [HZF.out]; simp [go_sem]
          obtain ⟨c0, c1, c2, c3⟩ := HZ.out
          clear b2 hb2
          have HW3 := Lib.hid (HB2.out.setCell (p := ⟨wr.heap.size, 2, none⟩) (Nat.le_refl _) (.string ⟨n.toArray⟩))
          have HB3 := Lib.hid (HB.out.trans (HW3.out.mono hbr))
          have HO3 := Lib.hid (OwnF.later HO.out HW3.out)
          have hw3 : w.heap.size ≤ (w2.setCell ⟨wr.heap.size, 2, none⟩ (.string ⟨n.toArray⟩)).heap.size := HB3.out.size
          have HO4 := Lib.hid (OwnF.later HO3.out ((Below.refl _ (w2.setCell ⟨wr.heap.size, 2, none⟩ (.string ⟨n.toArray⟩))).alloc (Nat.le_refl _) (.cells #[.int .u64 (Fd.mk 0 0 ⟨n.toArray⟩).n, .int .i64 (Fd.mk 0 0 ⟨n.toArray⟩).i, .string (Fd.mk 0 0 ⟨n.toArray⟩).s] 59)))
          have hF4 := fd_new (w2.setCell ⟨wr.heap.size, 2, none⟩ (.string ⟨n.toArray⟩)) (Fd.mk 0 0 ⟨n.toArray⟩) 59
          rw [show (w2.setCell ⟨wr.heap.size, 2, none⟩ (.string ⟨n.toArray⟩)).heap.size = w2.heap.size by simp] at hF4 hw3
          have HF4 := Lib.hid hF4
          clear hF4
          go_wp2_with (at_builtin; refine app_fds rfl _ _ rfl w.heap.size _ LL (Fd.mk 0 0 ⟨n.toArray⟩) rfl w2.heap.size 1 rfl HO4.out HF4.out (by omega) (by simp; omega) ?_)
          intro v8 w8 h8 b8
          have H8 := Lib.hid h8
          have B8 := Lib.hid (below_under (HB3.out.alloc HB3.out.size _) b8)
          clear h8 b8
          go_wp2_with fail
          exact ⟨⟨LL ++ [(Fd.mk 0 0 ⟨n.toArray⟩)], ⟨r.toArray⟩, rfl, by simp, by simp; omega, H8.out, HN.out, B8.out⟩, by simp [intOf]; omega⟩
    · have q3 : ¬ (LL.length : Int) < (K.size : Int) := by omega
      have hfine : Fine LL := fun f hf => ⟨(HI.out.ok f hf).1, by have := (HI.out.ok f hf).2; rw [HFS.out] at this; omega⟩
      have HE := cget_end HK.out HL.out HI.out (by rw [HKL.out]; omega)
      obtain ⟨a, cap, rfl, hfds⟩ := own_fds HO.out
      rcases HE with ⟨-, hp, hg⟩ | ⟨hp, hg⟩
      · have KP := Lib.hid (fun cap => rcput_same (cap := cap) hfds hfine (by omega) (by omega) hp)
        have HG := Lib.hid hg
        have HFD := Lib.hid hfds
        have z1 : (F.toList == F.toList) = true := by simp
        clear hp hg hfds hfine
        go_wp2_with fail
        refine (KP.out _).mono ?_
        rintro e w2 ⟨rfl, b2⟩
        go_wp2_with fail
        go_ret2
        exact csome_res HG.out rfl (HFD.out.later b2) (HB.out.trans (b2.mono HB.out.size))
      · have KP := Lib.hid (fun cap => rcput_other (cap := cap) (F := F) hfds hfine (by omega) (by omega) hp)
        have HG := Lib.hid hg
        clear hp hg hfds hfine
        go_wp2_with fail
        refine (KP.out _).mono ?_
        rintro e w2 ⟨G, q, rfl, hq | ⟨rfl, hq⟩, b2⟩
        · have z1 : (q != 0) = true := by simpa using hq
          go_wp2_with fail
          go_ret2
          exact cnil_res HG.out (HB.out.trans (b2.mono HB.out.size))
        · go_wp2_with fail
          go_ret2
          exact cnil_res HG.out (HB.out.trans (b2.mono HB.out.size))
end Go.Proofs.Ytialjglgkfcdmaa.Or
