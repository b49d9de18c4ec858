/- RowTells: the law. -/
import Derived.Test.YtnfjgmdpokpbbaaDoorRkTells0
namespace Go.Proofs.YtnfjgmdpokpbbaaDoor.Rk
open Go Go.RowKit Dv Rf Shf
open Tal (Strs bas)
theorem stampN_lt {top : Nat} {more : Int} (h : more ≤ 32767) : stampN top more ≤ top + 32768 := by unfold stampN; split <;> omega
theorem rest24 (j : Nat) (hj : j < 24) : (Dr.new 24).V[j]? = some zs := by
  rw [show (Dr.new 24).V = List.replicate 24 zs from rfl, List.getElem?_replicate, if_pos hj]
theorem len_ba (t : ByteArray) : t.data.toList.length = t.size := by simp
/-- What an act's box holds. -/
structure Bx (w : World) (b : Nat) (y : Ac) : Prop where
  c0 : w.cell? ⟨b, 0, none⟩ = some (.int .u8 y.what)
  c1 : w.cell? ⟨b, 1, none⟩ = some (.int .i16 y.more)
  c2 : w.cell? ⟨b, 2, none⟩ = some (.string y.s)
  lt : b < w.heap.size
theorem Bx.later {w w' : World} {b : Nat} {y : Ac} (h : Bx w b y) (k : Below w.heap.size w w') : Bx w' b y :=
  ⟨(k.cell (p := ⟨b, 0, none⟩) h.lt).trans h.c0, (k.cell (p := ⟨b, 1, none⟩) h.lt).trans h.c1, (k.cell (p := ⟨b, 2, none⟩) h.lt).trans h.c2, Nat.lt_of_lt_of_le h.lt k.size⟩
theorem bx_new (w : World) (y : Ac) (T : TypeId) : Bx (w.alloc (.cells #[.int .u8 y.what, .int .i16 y.more, .string y.s, .int .u8 y.fuse, .int .u64 (y.c.keep : Int), .int .i64 y.c.torn, .int .i64 y.c.at'] T)) w.heap.size y := by
  refine ⟨?_, ?_, ?_, by simp⟩ <;> simp [go_sem]
set_option maxRecDepth 100000 in
set_option maxHeartbeats 12800000 in
theorem tells_law (fr mn : Int) (a : Option Addr) (cap : Nat) (A : List Ac) (w : World) (hfr : 0 ≤ fr ∧ fr ≤ 255) (hmn : 0 ≤ mn ∧ mn ≤ 255) (hA : Acs w a A) (hl : A.length ≤ 9223372036854775807) (hfit : ∀ x ∈ A, x.Fits) :
    Calls Tryd.prog 3 #[.int .u8 fr, .int .u8 mn, .slice a A.length cap] w fun e w' => e = .returned (.bool true) ∧ Below w.heap.size w w' := by
  obtain ⟨f0, f1⟩ := hfr
  obtain ⟨m0, m1⟩ := hmn
  obtain ⟨f, hf⟩ : ∃ f : Nat, (f : Int) = fr % 8 := ⟨(fr % 8).toNat, by omega⟩
  obtain ⟨n, hn⟩ : ∃ n : Nat, (n : Int) = 1 + mn % 16 := ⟨(1 + mn % 16).toNat, by omega⟩
  have hf8 : f ≤ 7 := by omega
  have hn1 : 1 ≤ n := by omega
  have hn16 : n ≤ 16 := by omega
  have HF := Lib.hid hf
  have HN := Lib.hid hn
  have HA := Lib.hid hA
  have HFIT := Lib.hid hfit
  clear hA hfit hf hn
  go_enter Tryd.func3, Tryd.ntmps3
  go_wp2_with fail
  refine (os_new 24 (by decide) (by decide) _).mono ?_
  rintro e w1 ⟨g, rfl, ho, hb⟩
  have HO := Lib.hid ho
  have HB := Lib.hid hb
  clear ho hb
  go_wp2_with fail
  rw [← HF.out, ← HN.out]
  have KO : Hid (Calls Tryd.prog 7 #[.pointer (some ⟨g, 0, none⟩), .int .i64 (f : Int), .int .i64 (n : Int)] w1 (OpRes (Dr.new 24) f n g w1)) :=
    open_c HO.out (Dr.new_ok 24 (by decide) (by decide)) f n hn1 (by omega) (by rw [show (Dr.new 24).D.length = 24 from rfl]; omega)
  refine KO.out.mono ?_
  intro e w2 hr
  obtain ⟨r, s, rfl, hs, hB2, hb⟩ := op_both HO.out hr
  have e24 : (Dr.new 24).V = List.replicate 24 (List.replicate 64 0) := rfl
  have hsg : seg (Dr.new 24).V f n = List.replicate n (List.replicate 64 0) := by rw [e24]; unfold seg; rw [List.drop_replicate, List.take_replicate, Nat.min_eq_left (by omega)]
  rw [hsg] at hs hB2
  obtain rfl := hs.one (loaded_zero n)
  rw [top_zero] at hB2
  have HSG := Lib.hid hsg
  have HE24 := Lib.hid e24
  have HB2 : Hid (Below w.heap.size w w2) := HB.out.trans (hb.mono HB.out.size)
  have HT2 : Hid (Both (fun j => w.heap.size ≤ j) w2 r g (Dr.new 24) ⟨f, n, Ld.zero, 0, false⟩) := hB2.mono fun j hj => hj.elim id fun h => Nat.le_trans HB.out.size h
  clear hs hB2 hb hr hsg e24
  go_wp2_with fail
  have KG := Lib.hid (great_c A a cap w2 (HA.out.later HB2.out) hl)
  have HGR : Hid (greatB A = false → A.length ≤ 40 ∧ ∀ x ∈ A, x.s.size ≤ 600) := fun h => by
    unfold greatB at h
    rw [Bool.or_eq_false_iff] at h
    refine ⟨by simpa using h.2, fun x hx => ?_⟩
    have := List.any_eq_false.1 h.1 x hx
    simpa using this
  refine KG.out.mono ?_
  rintro e w' ⟨rfl, rfl⟩
  cases hg : greatB A with
  | true =>
    have KH := Lib.hid (head_c w2)
    clear hg
    go_wp2_with fail
    refine KH.out.mono ?_
    rintro e w3 ⟨rfl, hb⟩
    have HB3 : Hid (Below w.heap.size w w3) := HB2.out.trans (hb.mono HB2.out.size)
    clear hb
    go_wp2_with fail
    go_ret
    exact ⟨rfl, HB3.out⟩
  | false =>
    obtain ⟨h40, h600⟩ := HGR.out hg
    have H600 := Lib.hid h600
    clear hg h600
    go_wp2_with fail
    refine (rnew_c n (by omega) _).mono ?_
    rintro e w3 ⟨vq, rfl, hq, hb⟩
    obtain ⟨aq, cq, rfl⟩ := own_slice hq
    have T0 : Hid (Tl w f n 0 g w3 (.slice aq (List.replicate n zs).length cq) r (Dr.new 24) ⟨f, n, Ld.zero, 0, false⟩ (List.replicate n zs)) := by
      refine ⟨⟨_, HT2.out.lt.later hb, fun j hj => hj.1, fun j hj hu => ?_⟩, hq.lower HB2.out.size, ⟨HSG.out.symm, loaded_zero n, (top_zero n).symm⟩, Dr.new_ok 24 (by decide) (by decide), rfl, Nat.zero_le _, rfl, rfl, rfl, rfl, Nat.zero_le _, fun j hj _ => ?_, HB2.out.trans (hb.mono HB2.out.size)⟩
      · have := hq.lt j hj
        omega
      · exact rest24 j hj
    have hql : (List.replicate n zs).length = n := List.length_replicate
    rw [hql] at T0 ⊢
    clear hq hb hql
    go_wp2_with fail
    go_loopg [11, 13, 14] A.length (fun kx s11 s13 s14 wr => ∃ (i r : Nat) (vq : Value) (x : Dr) (R : Rm) (Q : List Sec), s14 = .int .i64 (i : Int) ∧ s11 = .pointer (some ⟨r, 0, none⟩) ∧ vq = s13 ∧ i ≤ A.length ∧ Hid (Tl w f n i g wr vq r x R Q) ∧ A.length ≤ i + kx)
    case atStart => exact ⟨0, r, _, _, _, _, rfl, rfl, rfl, Nat.zero_le _, T0, by omega⟩
    case round =>
      clear T0
      obtain ⟨i, r, vq, x, R, Q, rfl, rfl, rfl, hi, TT, hkx⟩ := hrel
      by_cases hlt : i < A.length
      · have hft := TT.out.fit (by omega) hn1 hn16 (by omega)
        obtain ⟨aq, cq, hvq, hcq, hsq, _, hqb⟩ := TT.out.q.form
        have hQl : Q.length = n := by
          have h1 := TT.out.told.q
          have h2 := TT.out.D
          have h3 := Dr.vlen x
          rw [h1, seg_len (by have := TT.out.ff; have := TT.out.nn; omega)]
          exact TT.out.nn
        have hyf := HFIT.out A[i] (List.getElem_mem hlt)
        have hy6 := H600.out A[i] (List.getElem_mem hlt)
        obtain ⟨ab, ao, rfl, hab, hc⟩ := (HA.out.later TT.out.b) i hlt
        obtain ⟨y, hy⟩ : ∃ y, A[i] = y := ⟨_, rfl⟩
        rw [hy] at hc hyf hy6
        have c0 : wr.cell? ⟨ab, ao + i * 7, none⟩ = some (.int .u8 y.what) := by simpa using hc 0 _ rfl
        have c1 : wr.cell? ⟨ab, ao + i * 7 + 1, none⟩ = some (.int .i16 y.more) := hc 1 _ rfl
        have c2 : wr.cell? ⟨ab, ao + i * 7 + 2, none⟩ = some (.string y.s) := hc 2 _ rfl
        have c3 : wr.cell? ⟨ab, ao + i * 7 + 3, none⟩ = some (.int .u8 y.fuse) := hc 3 _ rfl
        have c4 : wr.cell? ⟨ab, ao + i * 7 + 4, none⟩ = some (.int .u64 (y.c.keep : Int)) := hc 4 _ rfl
        have c5 : wr.cell? ⟨ab, ao + i * 7 + 5, none⟩ = some (.int .i64 y.c.torn) := hc 5 _ rfl
        have c6 : wr.cell? ⟨ab, ao + i * 7 + 6, none⟩ = some (.int .i64 y.c.at') := hc 6 _ rfl
        have i0 : (0 : Int) ≤ (i : Int) := by omega
        have i1 : (i : Int) < (A.length : Int) := by omega
        have yw0 := hyf.what.1
        have yw1 := hyf.what.2
        have ym0 := hyf.more.1
        have ym1 := hyf.more.2
        have HFT := Lib.hid hft
        have HQL := Lib.hid hQl
        have HVQ := Lib.hid hvq
        have hrt := TT.out.top
        have hrt9 : R.top ≤ 2000000 := by omega
        clear hc hy hyf hft hQl hqb hsq hcq hvq hab
        go_upto_region 11 with (fail)
        clear c0 c1 c2 c3 c4 c5 c6
        have T1 : Hid (Tl w f n i g (wr.alloc (.cells #[.int .u8 y.what, .int .i16 y.more, .string y.s, .int .u8 y.fuse, .int .u64 (y.c.keep : Int), .int .i64 y.c.torn, .int .i64 y.c.at'] 39)) vq r x R Q) := TT.out.later ((Below.refl _ wr).alloc (Nat.le_refl _) _)
        have X1 := Lib.hid (bx_new wr y 39)
        generalize wr.alloc (.cells #[.int .u8 y.what, .int .i16 y.more, .string y.s, .int .u8 y.fuse, .int .u64 (y.c.keep : Int), .int .i64 y.c.torn, .int .i64 y.c.at'] 39) = W1 at T1 X1 ⊢
        obtain ⟨bx, hbx⟩ : ∃ bx, bx = wr.heap.size := ⟨_, rfl⟩
        rw [← hbx] at X1 ⊢
        clear hbx
        have KTOP : Hid (∀ u : World, Tl w f n i g u vq r x R Q → Calls Tryd.prog 12 #[vq] u fun e w' => e = .returned (.int .u64 (R.top : Int)) ∧ Below u.heap.size u w') := fun u hu => by
          obtain ⟨A', cap', e1, _, hs, _, _⟩ := hu.q.form
          have := rtop_c u A' cap' (bas Q) hs (by rw [bas_len, HQL.out]; omega)
          rw [bas_len, show (bas Q).map (fun s => s.data.toList) = Q from lists_bas Q, ← hu.told.top, ← e1] at this
          exact this
        have KTX : Hid (∀ u : World, Tl w f n i g u vq r x R Q → Calls Tryd.prog 13 #[vq] u (RtRes Q u)) := fun u hu => by
          obtain ⟨A', cap', e1, hc', hs, _, _⟩ := hu.q.form
          have := rtexts_c u A' cap' (bas Q) hs (by rw [bas_len, HQL.out]; omega) (by rw [bas_len]; exact hc')
          rw [bas_len, lists_bas, ← e1] at this
          exact this
        have KIS : Hid (∀ (u : World) (i' r' : Nat) (vq' : Value) (x' : Dr) (R' : Rm) (Q' : List Sec), i' ≤ 40 → Tl w f n i' g u vq' r' x' R' Q' → Calls Tryd.prog 18 #[.pointer (some ⟨r', 0, none⟩), .pointer (some ⟨g, 0, none⟩), .int .i64 (f : Int), vq'] u fun e w' => e = .returned (.bool true) ∧ Below u.heap.size u w') := fun u i' r' vq' x' R' Q' hi' hu => by
          obtain ⟨U, h1, _, _⟩ := hu.both
          have := is_law U r' g x' R' u h1 (hu.fit hi' hn1 hn16 (by omega)) _ vq' Q' hu.q hu.told (by rw [hu.nn]; omega)
          rw [hu.ff] at this
          exact this
        have d1 := X1.out.c1
        have T1d : Hid (Tl w f n i g W1.drew vq r x R Q) := T1.out.later (Below.refl _ W1).drew
        have X1d : Hid (Bx W1.drew bx y) := X1.out.later (Below.refl _ W1).drew
        go_region_held3 (fun u => u.cell? ⟨bx, 1, none⟩ = some (.int .i16 y.more)) (go_keep) ((first | (go_at_call 12; refine (KTOP.out _ T1d.out).mono ?_; rintro e w2 ⟨rfl, hb⟩; have T2 : Hid (Tl w f n i g w2 vq r x R Q) := T1d.out.later hb; have X2 : Hid (Bx w2 bx y) := X1d.out.later hb; have d2 := X2.out.c1; clear hb) | (go_at_call 11; refine (stamp_c _ _ _ (by omega) ym0 ym1).mono ?_; rintro e w' ⟨rfl, rfl⟩)))
        obtain ⟨st, hst⟩ : ∃ st, st = stampN R.top y.more := ⟨_, rfl⟩
        have hst9 : st ≤ R.top + 32768 := by rw [hst]; exact stampN_lt ym1
        rw [← hst]
        clear hst d1 d2
        go_wp2_with fail
        refine (KTX.out _ T2.out).mono ?_
        rintro e w3 ⟨vt, st3, rfl, hs3, ho3, hb⟩
        obtain rfl := hs3.one T2.out.told.s
        obtain ⟨at3, ct3, rfl⟩ := own_slice ho3
        have T3 : Hid (Tl w f n i g w3 vq r x R Q) := T2.out.later hb
        have X3 : Hid (Bx w3 bx y) := X2.out.later hb
        clear hs3 ho3 hb T1 X1 T2 X2 T1d X1d
        have d0 := X3.out.c0
        have h5 : y.what % 5 = 0 ∨ y.what % 5 = 1 ∨ y.what % 5 = 2 ∨ y.what % 5 = 3 ∨ y.what % 5 = 4 := by omega
        rcases h5 with h5 | h5 | h5 | h5 | h5
        · have d2 := X3.out.c2
          have KRP : Hid (Calls Tryd.prog 14 #[vq, .int .i64 (R.S.e : Int), .int .u64 (st : Int), .string y.s] w3 (RpRes vq Q (rputM Q R.S.e st y.s.data.toList) w3)) :=
            rput_c w3 vq _ Q T3.out.q (by rw [HQL.out]; omega) (by rw [HQL.out]; omega) R.S.e st (by have h1 := HFT.out.e; have h2 := T3.out.nn; rw [HQL.out]; omega) (by omega) y.s (by omega)
          have HMV : Hid (Moved x R st (putM R x R.S.e st y.s.data.toList) (rputM Q R.S.e st y.s.data.toList)) := putM_told T3.out.told HFT.out.hx HFT.out.f T3.out.down T3.out.F (.inl rfl) (by omega) (by rw [len_ba]; omega)
          obtain ⟨M, hM⟩ : ∃ M, M = putM R x R.S.e st y.s.data.toList := ⟨_, rfl⟩
          obtain ⟨N, hN⟩ : ∃ N, N = rputM Q R.S.e st y.s.data.toList := ⟨_, rfl⟩
          rw [← hN] at KRP HMV
          rw [← hM] at HMV
          have HM := Lib.hid hM
          clear hM hN
          go_wp2_with fail
          refine KRP.out.mono ?_
          intro e w4 hrp
          obtain ⟨vq', U, rfl, hmid⟩ := T3.out.mid hrp
          obtain ⟨aq', cq', rfl⟩ := own_slice hmid.q
          have X4 : Hid (Bx w4 bx y) := X3.out.later hrp.1
          have HMID := Lib.hid hmid
          have e0 := X4.out.c2
          clear hrp hmid d0 d2
          have KAD : Hid (Calls Tryd.prog 15 #[.pointer (some ⟨r, 0, none⟩), .int .u64 (st : Int), .string y.s] w4 fun e w' => e = .returned (.int .i64 N.2) ∧ Past U r g M.2.1 M.1 w4 w') := by
            have := add_c U r g x R w4 HMID.out.both HFT.out st y.s (by omega) (by omega)
            unfold PtRes at this
            rw [← HM.out, HMV.out.z] at this
            exact this
          go_wp2_with fail
          refine KAD.out.mono ?_
          rintro e w5 ⟨rfl, hp⟩
          have T5 : Hid (Tl w f n (i + 1) g w5 _ r M.2.1 M.1 N.1) := T3.out.put HMID.out HMV.out hp (by omega) (by omega)
          clear hp e0 h5
          have z5 : (N.2 != N.2) = false := by simp
          have T6 := T5.out
          go_wp2_with fail
          refine (KIS.out _ _ _ _ _ _ _ (by omega) T6).mono ?_
          rintro e w6 ⟨rfl, hb⟩
          have T7 := Lib.hid (T6.later hb)
          clear hb T6
          go_wp2_with fail
          go_roundg (A.length - (i + 1))
          case measure => omega
          case rel => exact ⟨i + 1, r, _, _, _, _, by simp, rfl, rfl, by omega, T7, by omega⟩
        · have d2 := X3.out.c2
          have KRP : Hid (Calls Tryd.prog 14 #[vq, .int .i64 (R.S.e : Int), .int .u64 (st : Int), .string y.s] w3 (RpRes vq Q (rputM Q R.S.e st y.s.data.toList) w3)) :=
            rput_c w3 vq _ Q T3.out.q (by rw [HQL.out]; omega) (by rw [HQL.out]; omega) R.S.e st (by have h1 := HFT.out.e; have h2 := T3.out.nn; rw [HQL.out]; omega) (by omega) y.s (by omega)
          have HMV : Hid (Moved x R st (putM R x R.S.e st y.s.data.toList) (rputM Q R.S.e st y.s.data.toList)) := putM_told T3.out.told HFT.out.hx HFT.out.f T3.out.down T3.out.F (.inl rfl) (by omega) (by rw [len_ba]; omega)
          obtain ⟨M, hM⟩ : ∃ M, M = putM R x R.S.e st y.s.data.toList := ⟨_, rfl⟩
          obtain ⟨N, hN⟩ : ∃ N, N = rputM Q R.S.e st y.s.data.toList := ⟨_, rfl⟩
          rw [← hN] at KRP HMV
          rw [← hM] at HMV
          have HM := Lib.hid hM
          clear hM hN
          go_wp2_with fail
          refine KRP.out.mono ?_
          intro e w4 hrp
          obtain ⟨vq', U, rfl, hmid⟩ := T3.out.mid hrp
          obtain ⟨aq', cq', rfl⟩ := own_slice hmid.q
          have X4 : Hid (Bx w4 bx y) := X3.out.later hrp.1
          have HMID := Lib.hid hmid
          have e0 := X4.out.c2
          clear hrp hmid d0 d2
          have KAD : Hid (Calls Tryd.prog 15 #[.pointer (some ⟨r, 0, none⟩), .int .u64 (st : Int), .string y.s] w4 fun e w' => e = .returned (.int .i64 N.2) ∧ Past U r g M.2.1 M.1 w4 w') := by
            have := add_c U r g x R w4 HMID.out.both HFT.out st y.s (by omega) (by omega)
            unfold PtRes at this
            rw [← HM.out, HMV.out.z] at this
            exact this
          go_wp2_with fail
          refine KAD.out.mono ?_
          rintro e w5 ⟨rfl, hp⟩
          have T5 : Hid (Tl w f n (i + 1) g w5 _ r M.2.1 M.1 N.1) := T3.out.put HMID.out HMV.out hp (by omega) (by omega)
          clear hp e0 h5
          have z5 : (N.2 != N.2) = false := by simp
          have T6 := T5.out
          go_wp2_with fail
          refine (KIS.out _ _ _ _ _ _ _ (by omega) T6).mono ?_
          rintro e w6 ⟨rfl, hb⟩
          have T7 := Lib.hid (T6.later hb)
          clear hb T6
          go_wp2_with fail
          go_roundg (A.length - (i + 1))
          case measure => omega
          case rel => exact ⟨i + 1, r, _, _, _, _, by simp, rfl, rfl, by omega, T7, by omega⟩
        · have d2 := X3.out.c2
          have KRP : Hid (Calls Tryd.prog 14 #[vq, .int .i64 0, .int .u64 (st : Int), .string y.s] w3 (RpRes vq Q (rputM Q 0 st y.s.data.toList) w3)) :=
            rput_c w3 vq _ Q T3.out.q (by rw [HQL.out]; omega) (by rw [HQL.out]; omega) 0 st (Nat.zero_le _) (by omega) y.s (by omega)
          have HMV : Hid (Moved x R st (putM R x 0 st y.s.data.toList) (rputM Q 0 st y.s.data.toList)) := putM_told T3.out.told HFT.out.hx HFT.out.f T3.out.down T3.out.F (.inr rfl) (by omega) (by rw [len_ba]; omega)
          obtain ⟨M, hM⟩ : ∃ M, M = putM R x 0 st y.s.data.toList := ⟨_, rfl⟩
          obtain ⟨N, hN⟩ : ∃ N, N = rputM Q 0 st y.s.data.toList := ⟨_, rfl⟩
          rw [← hN] at KRP HMV
          rw [← hM] at HMV
          have HM := Lib.hid hM
          clear hM hN
          go_wp2_with fail
          refine KRP.out.mono ?_
          intro e w4 hrp
          obtain ⟨vq', U, rfl, hmid⟩ := T3.out.mid hrp
          obtain ⟨aq', cq', rfl⟩ := own_slice hmid.q
          have X4 : Hid (Bx w4 bx y) := X3.out.later hrp.1
          have HMID := Lib.hid hmid
          have e0 := X4.out.c2
          clear hrp hmid d0 d2
          have KAD : Hid (Calls Tryd.prog 16 #[.pointer (some ⟨r, 0, none⟩), .int .u64 (st : Int), .string y.s] w4 fun e w' => e = .returned (.int .i64 N.2) ∧ Past U r g M.2.1 M.1 w4 w') := by
            have := begin_c U r g x R w4 HMID.out.both HFT.out st y.s (by omega) (by omega)
            unfold PtRes at this
            rw [← HM.out, HMV.out.z] at this
            exact this
          go_wp2_with fail
          refine KAD.out.mono ?_
          rintro e w5 ⟨rfl, hp⟩
          have T5 : Hid (Tl w f n (i + 1) g w5 _ r M.2.1 M.1 N.1) := T3.out.put HMID.out HMV.out hp (by omega) (by omega)
          clear hp e0 h5
          have z5 : (N.2 != N.2) = false := by simp
          have T6 := T5.out
          go_wp2_with fail
          refine (KIS.out _ _ _ _ _ _ _ (by omega) T6).mono ?_
          rintro e w6 ⟨rfl, hb⟩
          have T7 := Lib.hid (T6.later hb)
          clear hb T6
          go_wp2_with fail
          go_roundg (A.length - (i + 1))
          case measure => omega
          case rel => exact ⟨i + 1, r, _, _, _, _, by simp, rfl, rfl, by omega, T7, by omega⟩
        · obtain ⟨x', hsy, U, hB, hnx⟩ := T3.out.sync
          have KSY : Hid (Calls Tryd.prog 17 #[.pointer (some ⟨g, 0, Option.none⟩)] w3 fun e w' => e = .returned (.int .i64 0) ∧ Past U r g x' R w3 w') := hB.sync HFT.out.hx (by have := HFT.out.hP; omega) 0 hsy
          have HNX := Lib.hid hnx
          clear hsy hB hnx
          go_wp2_with fail
          refine KSY.out.mono ?_
          rintro e w5 ⟨rfl, hp⟩
          have T5 := Lib.hid (HNX.out w5 hp)
          clear hp h5 d0
          have T6 := T5.out
          go_wp2_with fail
          refine (KIS.out _ _ _ _ _ _ _ (by omega) T6).mono ?_
          rintro e w6 ⟨rfl, hb⟩
          have T7 := Lib.hid (T6.later hb)
          clear hb T6
          go_wp2_with fail
          go_roundg (A.length - (i + 1))
          case measure => omega
          case rel => exact ⟨i + 1, r, _, _, _, _, by simp, rfl, rfl, by omega, T7, by omega⟩
        · have KOP : Hid (∃ S : Nat → Prop, Dv.Os S w3 g x) := by
            obtain ⟨U, ⟨tv, h1, _⟩, _⟩ := T3.out.both
            exact ⟨U, h1⟩
          obtain ⟨S, hS⟩ := KOP.out
          have hD24 := T3.out.D
          have KO2 : Hid (Calls Tryd.prog 7 #[.pointer (some ⟨g, 0, none⟩), .int .i64 (f : Int), .int .i64 (n : Int)] w3 (OpRes x f n g w3)) :=
            open_c hS HFT.out.hx f n hn1 (by omega) (by omega)
          clear hD24 hS
          go_wp2_with fail
          refine KO2.out.mono ?_
          intro e w5 hr
          obtain ⟨r', rfl, t5⟩ := T3.out.open fun _ _ => hr
          have T5 := Lib.hid t5
          clear hr t5 h5 d0
          have T6 := T5.out
          go_wp2_with fail
          refine (KIS.out _ _ _ _ _ _ _ (by omega) T6).mono ?_
          rintro e w6 ⟨rfl, hb⟩
          have T7 := Lib.hid (T6.later hb)
          clear hb T6
          go_wp2_with fail
          go_roundg (A.length - (i + 1))
          case measure => omega
          case rel => exact ⟨i + 1, r', _, _, _, _, by simp, rfl, rfl, by omega, T7, by omega⟩
      · obtain rfl : i = A.length := by omega
        have KSZ : Hid (∀ u : World, Below wr.heap.size wr u → Calls Tryd.prog 19 #[.pointer (some ⟨g, 0, none⟩)] u fun e w' => e = .returned (.int .i64 24) ∧ u = w') := fun u hu => by
          obtain ⟨U, ⟨tv, h1, _⟩, _⟩ := (TT.out.later hu).both
          have := os_size h1 TT.out.hx
          rwa [show x.n = 24 from TT.out.D] at this
        have KRD : Hid (∀ (u : World) (k : Nat), k < 24 → Below wr.heap.size wr u → Calls Tryd.prog 20 #[.pointer (some ⟨g, 0, none⟩), .int .i64 (k : Int)] u fun e w' => e = .returned (.tuple #[.string ⟨(x.V.getD k []).toArray⟩, .int .i64 0]) ∧ Below u.heap.size u w') := fun u k hk hu => by
          obtain ⟨U, ⟨tv, h1, _⟩, _⟩ := (TT.out.later hu).both
          refine (os_read h1 TT.out.hx _).mono fun e w' hr => ?_
          unfold RdRes Dr.read at hr
          rw [if_neg (by have := TT.out.D; omega), Int.toNat_natCast] at hr
          exact hr
        have KRS : Hid (∀ k, k < 24 → k < f ∨ f + n ≤ k → x.V.getD k [] = zs) := fun k hk ho => by rw [List.getD_eq_getElem?_getD, TT.out.rest k hk ho]; rfl
        have hmk : ∀ u, (Instr.makeSlice 52 (.int .i64 64) (.int .i64 64)).run Tryd.prog u = .ok (.slice (some ⟨u.heap.size, 0, none⟩) 64 64) (mkn 64 u) := fun u => maken 64 (by omega) u
        have hcv : ∀ u, (convert 52 9 (.slice (some ⟨u.heap.size, 0, none⟩) 64 64)).run Tryd.prog (mkn 64 u) = .ok (.string ⟨zs.toArray⟩) (mkn 64 u) := fun u => conn 64 u
        have HBW : Hid (Below w.heap.size w wr) := TT.out.b
        clear hkx hlt hi
        go_wp2_with fail
        obtain ⟨wo, hwo⟩ : ∃ wo, wo = wr := ⟨_, rfl⟩
        rw [← hwo] at KSZ KRD HBW
        have T0 : Hid (Below wo.heap.size wo wr) := by rw [hwo]; exact Below.refl _ _
        clear hwo TT
        go_loopg [21] 24 (fun kx s21 wr => ∃ k : Nat, s21 = .int .i64 (k : Int) ∧ k ≤ 24 ∧ Hid (Below wo.heap.size wo wr) ∧ 24 ≤ k + kx)
        case atStart => exact ⟨0, rfl, Nat.zero_le _, T0, by omega⟩
        case round =>
          rename_i wz _
          obtain ⟨k, rfl, hk, HB4, hkx⟩ := hrel
          clear T0
          by_cases hlt : k < 24
          · have k0 : (0 : Int) ≤ (k : Int) := by omega
            have k1 : (k : Int) < 24 := by omega
            by_cases hin : k < f ∨ f + n ≤ k
            · have hz := KRS.out k hlt hin
              have KR2 := Lib.hid (fun u => KRD.out u k hlt)
              rw [hz] at KR2
              have HZ := Lib.hid hz
              have hb2 : ∀ u, Below u.heap.size u (mkn 64 u) := below_mkn 64
              have HMN := Lib.hid hb2
              clear hz hb2
              rcases hin with hin | hin
              · have q1 : (k : Int) < (f : Int) := by omega
                go_wp2_with fail
                refine (KSZ.out _ HB4.out).mono ?_
                rintro e w' ⟨rfl, rfl⟩
                go_wp2_with fail
                refine (KR2.out _ HB4.out).mono ?_
                rintro e w5 ⟨rfl, hb⟩
                have HB5 : Hid (Below wo.heap.size wo w5) := HB4.out.trans (hb.mono HB4.out.size)
                have HB6 : Hid (Below wo.heap.size wo (mkn 64 w5)) := HB5.out.trans ((HMN.out w5).mono HB5.out.size)
                clear hb
                go_wp2_with fail
                go_roundg (24 - (k + 1))
                case measure => omega
                case rel => exact ⟨k + 1, by simp, by omega, HB6, by omega⟩
              · have q1 : ¬ (k : Int) < (f : Int) := by omega
                have q2 : (f : Int) + (n : Int) ≤ (k : Int) := by omega
                go_wp2_with fail
                refine (KSZ.out _ HB4.out).mono ?_
                rintro e w' ⟨rfl, rfl⟩
                go_wp2_with fail
                refine (KR2.out _ HB4.out).mono ?_
                rintro e w5 ⟨rfl, hb⟩
                have HB5 : Hid (Below wo.heap.size wo w5) := HB4.out.trans (hb.mono HB4.out.size)
                have HB6 : Hid (Below wo.heap.size wo (mkn 64 w5)) := HB5.out.trans ((HMN.out w5).mono HB5.out.size)
                clear hb
                go_wp2_with fail
                go_roundg (24 - (k + 1))
                case measure => omega
                case rel => exact ⟨k + 1, by simp, by omega, HB6, by omega⟩
            · have q1 : ¬ (k : Int) < (f : Int) := by omega
              have q2 : ¬ (f : Int) + (n : Int) ≤ (k : Int) := by omega
              have KR2 := Lib.hid (fun u => KRD.out u k hlt)
              generalize x.V.getD k [] = sk at KR2
              clear hmk hcv hin
              go_wp2_with fail
              refine (KSZ.out _ HB4.out).mono ?_
              rintro e w' ⟨rfl, rfl⟩
              go_wp2_with fail
              refine (KR2.out _ HB4.out).mono ?_
              rintro e w5 ⟨rfl, hb⟩
              have HB5 : Hid (Below wo.heap.size wo w5) := HB4.out.trans (hb.mono HB4.out.size)
              clear hb
              go_wp2_with fail
              go_roundg (24 - (k + 1))
              case measure => omega
              case rel => exact ⟨k + 1, by simp, by omega, HB5, by omega⟩
          · obtain rfl : k = 24 := by omega
            clear hkx hlt hk
            go_wp2_with fail
            refine (KSZ.out _ HB4.out).mono ?_
            rintro e w' ⟨rfl, rfl⟩
            go_wp2_with fail
            refine (head_c _).mono ?_
            rintro e w5 ⟨rfl, hb⟩
            have HB5 : Hid (Below w.heap.size w w5) := HBW.out.trans ((HB4.out.trans (hb.mono HB4.out.size)).mono HBW.out.size)
            clear hb
            go_wp2_with fail
            go_ret
            exact ⟨rfl, HB5.out⟩

end Go.Proofs.YtnfjgmdpokpbbaaDoor.Rk
