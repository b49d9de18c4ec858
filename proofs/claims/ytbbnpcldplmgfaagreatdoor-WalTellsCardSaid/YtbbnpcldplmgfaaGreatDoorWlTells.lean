/- WalTells: the law. -/
import Derived.Test.YtbbnpcldplmgfaaGreatDoorWjG
import Derived.Deep.RegionHeld3
import Derived.Deep.DeepCutAuto
namespace Go.Proofs.YtbbnpcldplmgfaaGreatDoor.Wl
open Go Go.RowKit Dv Rf Shf Rk
open Tal (Strs bas)
set_option maxRecDepth 100000 in
set_option maxHeartbeats 12800000 in
theorem tells_law (sc : Int) (a : Option Addr) (cap : Nat) (A : List Ac) (w : World) (hsc : 0 ≤ sc ∧ sc ≤ 255) (hA : Acs w a A) (hl : A.length ≤ 9223372036854775807) (hfit : ∀ x ∈ A, x.Fits) :
    Calls Tryz.prog 3 #[.int .u8 sc, .slice a A.length cap] w fun e w' => e = .returned (.bool true) ∧ Below w.heap.size w w' := by
  obtain ⟨s0, s1⟩ := hsc
  obtain ⟨n, hn⟩ : ∃ n : Nat, (n : Int) = 8 + sc % 56 := ⟨(8 + sc % 56).toNat, by omega⟩
  have hn8 : 8 ≤ n := by omega
  have hn63 : n ≤ 63 := by omega
  have HN := Lib.hid hn
  have HA := Lib.hid hA
  have HFIT := Lib.hid hfit
  have HGL : Hid ((A.map Ac.l).length = A.length) := by show _ = _; simp
  clear hA hfit hn
  go_enter Tryz.func3, Tryz.ntmps3
  go_wp2_with fail
  rw [← HN.out]
  refine (os_new n hn8 (by omega) _).mono ?_
  rintro e w1 ⟨g, rfl, ho, hb⟩
  have HO := Lib.hid ho
  have HB := Lib.hid hb
  clear ho hb
  have hsg : ∀ f, f + n / 2 ≤ n → seg (Dr.new n).V f (n / 2) = List.replicate (n / 2) Rk.zs := fun f hf => by
    rw [show (Dr.new n).V = List.replicate n (List.replicate 64 0) from rfl]; unfold seg; rw [List.drop_replicate, List.take_replicate, Nat.min_eq_left (by omega)]; rfl
  have hok : (Dr.new n).Ok := Dr.new_ok n (by omega) (by omega)
  have hD : (Dr.new n).D.length = n := by show (List.replicate n _).length = n; simp
  have hL0 : Loaded (seg (Dr.new n).V 0 (n / 2)) Ld.zero := by rw [hsg 0 (by omega)]; exact loaded_zero _
  have hL1 : Loaded (seg (Dr.new n).V (n / 2) (n / 2)) Ld.zero := by rw [hsg (n / 2) (by omega)]; exact loaded_zero _
  have KO := Lib.hid (open_w HO.out hok (n / 2) Ld.zero Ld.zero (by rw [hD]) (by rw [hD]; exact hn8) (by rw [hD]; omega) hL0 hL1)
  have HG0 : Hid (Gd n (Dr.new n) (openW (Dr.new n) (n / 2) Ld.zero Ld.zero) (List.replicate (n / 2) Rk.zs) (List.replicate (n / 2) Rk.zs) []) := by
    have := gd_open (n := n) hok rfl hD hn8 (by omega) (Nat.zero_le _) hL0 hL1 Ps.nil
    rwa [hsg 0 (by omega), hsg (n / 2) (by omega)] at this
  clear hsg hok hD hL0 hL1
  go_wp2_with fail
  refine KO.out.mono ?_
  rintro e w2 ⟨hk, hr⟩
  rcases hr with ⟨_, b, r0, r1, _, rfl, ht⟩ | ⟨hno, _⟩
  case inr => exact absurd Ps.nil (hno [])
  have HB2 : Hid (Below w.heap.size w w2) := HB.out.trans (hk.below (fun j hj => hj) HB.out.size)
  have HT2 : Hid (Trio (fun j => w.heap.size ≤ j) w2 b r0 r1 g (Dr.new n) (openW (Dr.new n) (n / 2) Ld.zero Ld.zero)) := ht.mono fun j hj => hj.elim id fun h => Nat.le_trans HB.out.size h
  have KG : Hid (Calls Tryz.prog 7 #[.slice a A.length cap] w2 (GrRes (A.map Ac.l) w2)) := by
    have := great_c (A.map Ac.l) a cap w2 (HA.out.later HB2.out).ls (by rw [HGL.out]; exact hl) (fun l hl => by obtain ⟨y, hy, rfl⟩ := List.mem_map.1 hl; exact (HFIT.out y hy).l)
    rwa [HGL.out] at this
  clear ht hk KO
  go_wp2_with fail
  refine KG.out.mono ?_
  rintro e w' ⟨zg, rfl, rfl, hgz⟩
  cases zg with
  | true =>
    have KH := Lib.hid (head_c w2)
    clear hgz
    go_wp2_with fail
    refine KH.out.mono ?_
    rintro e w3 ⟨rfl, hb⟩
    have HB3 : Hid (Below w.heap.size w w3) := HB2.out.trans (hb.mono HB2.out.size)
    clear hb
    go_wp2_with fail
    go_ret
    exact ⟨rfl, HB3.out⟩
  | false =>
    obtain ⟨h40, hsm⟩ := hgz rfl
    have hA40 : A.length ≤ 40 := by rw [HGL.out] at h40; exact h40
    have HSM : Hid (∀ y ∈ A, Small y.l) := fun y hy => hsm _ (List.mem_map.2 ⟨y, hy, rfl⟩)
    clear hgz h40 hsm
    go_wp2_with fail
    refine (rnew06_c n (by omega) _).mono ?_
    rintro e w3 ⟨vA, vB, rfl, hlg, hb⟩
    obtain ⟨aA, cA, rfl⟩ := own_slice hlg.a
    obtain ⟨aB, cB, rfl⟩ := own_slice hlg.b
    have HLG := Lib.hid hlg
    have HB23 := Lib.hid hb
    clear hlg hb
    obtain ⟨qb, hqb⟩ : ∃ qb, qb = w3.heap.size := ⟨_, rfl⟩
    have HQB := Lib.hid hqb
    have T0 : Hid (Wt w n g w3.heap.size (w3.alloc (.cells #[.slice aA (List.replicate (n / 2) Rk.zs).length cA, .slice aB (List.replicate (n / 2) Rk.zs).length cB] TLg)) b r0 r1 (.slice aA (List.replicate (n / 2) Rk.zs).length cA) (.slice aB (List.replicate (n / 2) Rk.zs).length cB) (Dr.new n) (openW (Dr.new n) (n / 2) Ld.zero Ld.zero) (List.replicate (n / 2) Rk.zs) (List.replicate (n / 2) Rk.zs) []) := by
      have hk : Below w3.heap.size w3 (w3.alloc (.cells #[.slice aA (List.replicate (n / 2) Rk.zs).length cA, .slice aB (List.replicate (n / 2) Rk.zs).length cB] TLg)) := (Below.refl _ _).alloc (Nat.le_refl _) _
      refine ⟨⟨⟨fun j => w.heap.size ≤ j ∧ j < w2.heap.size, (HT2.out.lt.later HB23.out).later hk, fun j hj => hj.1, fun j hj hu => ?_, fun hu => ?_⟩, ⟨(HLG.out.a.lower HB2.out.size).later hk, (HLG.out.b.lower HB2.out.size).later hk⟩, Rw.new w3 [.slice aA (List.replicate (n / 2) Rk.zs).length cA, .slice aB (List.replicate (n / 2) Rk.zs).length cB] TLg, Nat.le_trans HB2.out.size HB23.out.size, (HB2.out.trans (HB23.out.mono HB2.out.size)).trans (hk.mono (HB2.out.trans (HB23.out.mono HB2.out.size)).size)⟩, HG0.out, rfl⟩
      · rcases hj with hj | hj
        · have := (HLG.out.a.lt j hj).1; omega
        · have := (HLG.out.b.lt j hj).1; omega
      · have := HB23.out.size; omega
    clear HLG HT2 HG0
    rw [← hqb] at T0
    obtain ⟨Z, hZ⟩ : ∃ Z, Z = List.replicate (n / 2) Rk.zs := ⟨_, rfl⟩
    rw [← hZ] at T0 ⊢
    clear hZ
    go_wp2_with fail
    rw [← HQB.out]
    generalize w3.alloc (.cells #[.slice aA Z.length cA, .slice aB Z.length cB] TLg) = W0 at T0 ⊢
    clear hqb HQB HB23 HB2 HB HO
    have hn2 : n / 2 ≤ 31 := by omega
    have HN8 := Lib.hid hn8
    have HN63 := Lib.hid hn63
    clear hn8 hn63
    go_loopg [8, 11] A.length (fun kx s8 s11 wr => ∃ (i b r0 r1 : Nat) (vA vB : Value) (x : Dr) (M : Wm) (QA QB : List Rk.Sec) (LL : List (List Rk.Sec)), s11 = .int .i64 (i : Int) ∧ s8 = .pointer (some ⟨b, 0, none⟩) ∧ i ≤ A.length ∧ Hid (Wt w n g qb wr b r0 r1 vA vB x M QA QB LL) ∧ A.length ≤ i + kx)
    case atStart => exact ⟨0, b, r0, r1, _, _, _, _, _, _, _, rfl, rfl, Nat.zero_le _, T0, by omega⟩
    case round =>
      clear T0
      obtain ⟨i, b, r0, r1, vA, vB, x, M, QA, QB, LL, rfl, rfl, hi, TT, hkx⟩ := hrel
      by_cases hlt : i < A.length
      · obtain ⟨ab, ao, rfl, hat⟩ := HA.out i hlt
        have HAT := Lib.hid hat
        have hyf := HFIT.out A[i] (List.getElem_mem hlt)
        have hsm := HSM.out A[i] (List.getElem_mem hlt)
        obtain ⟨y, hy⟩ : ∃ y, A[i] = y := ⟨_, rfl⟩
        rw [hy] at HAT hyf hsm
        obtain ⟨_, sl, cl, c0', c1', hstr, _⟩ := HAT.out
        obtain ⟨l, hle⟩ : ∃ l, l = y.l := ⟨_, rfl⟩
        rw [← hle] at c1' hstr hsm
        have HC1 : Hid (∀ u, Below w.heap.size w u → u.cell? ⟨ab, ao + i * 6 + 1, none⟩ = some (.slice sl l.length cl) ∧ Strs u sl (bas l)) := fun u hu => ⟨(hu.cell (p := ⟨ab, ao + i * 6 + 1, none⟩) HAT.out.1).trans c1', hstr.later hu⟩
        have c0 : wr.cell? ⟨ab, ao + i * 6, none⟩ = some (.int .u8 y.what) := (TT.out.q.b.cell (p := ⟨ab, ao + i * 6, none⟩) HAT.out.1).trans c0'
        have HSL := Lib.hid hsm
        have hl10 := hsm.1
        have i0 : (0 : Int) ≤ (i : Int) := by omega
        have i1 : (i : Int) < (A.length : Int) := by omega
        have yw0 := hyf.what.1
        have yw1 := hyf.what.2
        obtain ⟨aA, cA, rfl⟩ := own_len TT.out.q.lg.a TT.out.gd.la
        obtain ⟨aB, cB, rfl⟩ := own_len TT.out.q.lg.b TT.out.gd.lb
        obtain ⟨n2, hn2e⟩ : ∃ n2, n2 = n / 2 := ⟨_, rfl⟩
        rw [← hn2e] at TT
        have HN2 := Lib.hid hn2e
        clear hat hy hyf hsm hstr hle hn2e c0' c1'
        have h5 : y.what % 5 = 0 ∨ y.what % 5 = 1 ∨ y.what % 5 = 2 ∨ y.what % 5 = 3 ∨ y.what % 5 = 4 := by omega
        go_upto_region 10 with (fail)
        go_cut [12] (fun s12 wx => s12 = .int .i64 0 ∧ wr = wx)
        case first =>
          go_wp2_with fail
          go_meet
          exact ⟨rfl, rfl⟩
        obtain ⟨rfl, rfl⟩ := hcut
        rename_i hK
        apply hK
        refine wp_seq_k (fun K2 hK2 => ?_)
        go_cut [8] (fun s8 wx => ∃ (b4 r04 r14 : Nat) (vA4 vB4 : Value) (x4 : Dr) (M4 : Wm) (QA4 QB4 : List Rk.Sec) (L4 : List (List Rk.Sec)), s8 = .pointer (some ⟨b4, 0, none⟩) ∧ Hid (Wt w n g qb wx b4 r04 r14 vA4 vB4 x4 M4 QA4 QB4 L4))
        case rest =>
          obtain ⟨b4, r04, r14, vA4, vB4, x4, M4, QA4, QB4, L4, rfl, T4⟩ := hcut
          apply hK2
          clear c0 h5 TT
          have d0 : wc.cell? ⟨qb, 0, none⟩ = some vA4 := T4.out.q.q.cell 0
          have d1 : wc.cell? ⟨qb, 1, none⟩ = some vB4 := T4.out.q.q.cell 1
          have KTX := Lib.hid (rtxns_gd T4.out.q.lg T4.out.gd)
          have HL4 := Lib.hid T4.out.gd.mem
          obtain ⟨a4, c4, rfl⟩ := own_slice T4.out.q.lg.a
          obtain ⟨a4', c4', rfl⟩ := own_slice T4.out.q.lg.b
          go_wp2_with fail
          refine KTX.out.mono ?_
          rintro e w5 ⟨v5, rfl, hv5, hb5⟩
          have HV5 := Lib.hid hv5
          obtain ⟨a5, c5, rfl⟩ := lss_slice hv5
          have T5 := Lib.hid (T4.out.later hb5)
          clear hb5 hv5 d0 d1 KTX
          obtain ⟨ag, hag⟩ : ∃ ag, ag = M4.age := ⟨_, rfl⟩
          obtain ⟨rm, hrm⟩ : ∃ rm, rm = M4.room := ⟨_, rfl⟩
          have HK : Hid (∀ u, Below w5.heap.size w5 u → Cks b4 g (.slice a4 QA4.length c4) (.slice a4' QB4.length c4') sl cl l L4 ag rm u) := fun u hu => by
            have h := T5.out.later hu
            rw [hag, hrm]
            exact cks cl h HSL.out (HC1.out u h.q.b).2
          have HKS : Hid (∀ u v, Below w5.heap.size w5 u → Lss w5.drew.heap.size u v L4 → Calls Tryz.prog 15 #[v, .slice a5 L4.length c5] u fun e w' => e = .returned (.bool true) ∧ Below u.heap.size u w') := fun u v hu hv => by
            have := same06_c L4 L4 v _ _ _ u hv (HV5.out.later hu) (by have := HL4.out.1; omega) (by have := HL4.out.1; omega) (fun l hl => by have := HL4.out.2 l hl; omega) (fun l hl => by have := HL4.out.2 l hl; omega)
            rwa [decide_eq_true rfl] at this
          have HE0 : Hid (∀ u, Below w5.heap.size w5 u → u.cell? ⟨qb, 0, none⟩ = some (.slice a4 QA4.length c4)) := fun u hu => (T5.out.later hu).q.q.cell 0
          have HE1 : Hid (∀ u, Below w5.heap.size w5 u → u.cell? ⟨qb, 1, none⟩ = some (.slice a4' QB4.length c4')) := fun u hu => (T5.out.later hu).q.q.cell 1
          have HE2 : Hid (∀ u, Below w5.heap.size w5 u → u.cell? ⟨ab, ao + i * 6 + 1, none⟩ = some (.slice sl l.length cl)) := fun u hu => (HC1.out u (T5.out.later hu).q.b).1
          have HB0 : Hid (Below w5.heap.size w5 w5.drew) := (Below.refl _ _).drew
          have e05 := HE0.out _ (Below.refl _ _)
          have e15 := HE1.out _ (Below.refl _ _)
          have e25 := HE2.out _ (Below.refl _ _)
          obtain ⟨cst, hcst⟩ : ∃ cst, cst = Wl.cost l := ⟨_, rfl⟩
          clear hag hrm hcst
          go_wp2_with fail
          go_region_held3 (fun u => u.cell? ⟨qb, 0, none⟩ = some (.slice a4 QA4.length c4) ∧ u.cell? ⟨qb, 1, none⟩ = some (.slice a4' QB4.length c4') ∧ u.cell? ⟨ab, ao + i * 6 + 1, none⟩ = some (.slice sl l.length cl)) (go_keep) ((first | (go_at_call 16; refine ((HK.out _ HB0.out).txns).mono ?_; rintro e w6 ⟨v6, rfl, hv6, hb⟩; have HB6 : Hid (Below w5.heap.size w5 w6) := HB0.out.trans (hb.mono HB0.out.size); have HV6 := Lib.hid hv6; obtain ⟨a6, c6, rfl⟩ := lss_slice hv6; clear hv6; have e06 := HE0.out _ HB6.out; have e16 := HE1.out _ HB6.out; have e26 := HE2.out _ HB6.out; clear hb) | (go_at_call 15; refine (HKS.out _ _ HB6.out HV6.out).mono ?_; rintro e w7 ⟨rfl, hb⟩; have HB7 : Hid (Below w5.heap.size w5 w7) := HB6.out.trans (hb.mono HB6.out.size); have e07 := HE0.out _ HB7.out; have e17 := HE1.out _ HB7.out; have e27 := HE2.out _ HB7.out; clear hb) | (go_at_call 17; refine ((HK.out _ HB7.out).age).mono ?_; rintro e w8 ⟨rfl, hb⟩; have HB8 : Hid (Below w5.heap.size w5 w8) := HB7.out.trans (hb.mono HB7.out.size); have e08 := HE0.out _ HB8.out; have e18 := HE1.out _ HB8.out; have e28 := HE2.out _ HB8.out; clear hb) | (go_at_call 18; refine ((HK.out _ HB8.out).rage).mono ?_; rintro e w9 ⟨rfl, hb⟩; have HB9 : Hid (Below w5.heap.size w5 w9) := HB8.out.trans (hb.mono HB8.out.size); have e09 := HE0.out _ HB9.out; have e19 := HE1.out _ HB9.out; have e29 := HE2.out _ HB9.out; clear hb) | (go_at_call 19; refine ((HK.out _ HB9.out).room).mono ?_; rintro e w10 ⟨rfl, hb⟩; have HB10 : Hid (Below w5.heap.size w5 w10) := HB9.out.trans (hb.mono HB9.out.size); have e010 := HE0.out _ HB10.out; have e110 := HE1.out _ HB10.out; have e210 := HE2.out _ HB10.out; clear hb) | (go_at_call 20; refine ((HK.out _ HB10.out).rroom).mono ?_; rintro e w11 ⟨rfl, hb⟩; have HB11 : Hid (Below w5.heap.size w5 w11) := HB10.out.trans (hb.mono HB10.out.size); have e011 := HE0.out _ HB11.out; have e111 := HE1.out _ HB11.out; have e211 := HE2.out _ HB11.out; clear hb) | (go_at_call 21; refine ((HK.out _ HB11.out).cst).mono ?_; rintro e w12 ⟨rfl, hb⟩; have HB12 : Hid (Below w5.heap.size w5 w12) := HB11.out.trans (hb.mono HB11.out.size); have e012 := HE0.out _ HB12.out; have e112 := HE1.out _ HB12.out; have e212 := HE2.out _ HB12.out; clear hb) | (go_at_call 22; refine ((HK.out _ HB12.out).rcst).mono ?_; rintro e w13 ⟨rfl, hb⟩; have HB13 : Hid (Below w5.heap.size w5 w13) := HB12.out.trans (hb.mono HB12.out.size); have e013 := HE0.out _ HB13.out; have e113 := HE1.out _ HB13.out; have e213 := HE2.out _ HB13.out; clear hb) | (go_at_call 23; refine ((HK.out _ HB13.out).pend).mono ?_; rintro e w14 ⟨rfl, hb⟩; have HB14 : Hid (Below w5.heap.size w5 w14) := HB13.out.trans (hb.mono HB13.out.size); have e014 := HE0.out _ HB14.out; have e114 := HE1.out _ HB14.out; have e214 := HE2.out _ HB14.out; clear hb) | (go_at_call 24; refine ((HK.out _ HB14.out).same).mono ?_; rintro e w15 ⟨rfl, hb⟩; have HB15 : Hid (Below w5.heap.size w5 w15) := HB14.out.trans (hb.mono HB14.out.size); have e015 := HE0.out _ HB15.out; have e115 := HE1.out _ HB15.out; have e215 := HE2.out _ HB15.out; clear hb)))
          have T9 : Hid (Wt w n g qb w15 b4 r04 r14 (.slice a4 QA4.length c4) (.slice a4' QB4.length c4') x4 M4 QA4 QB4 L4) := T5.out.later HB15.out
          have j0 : (i : Int) + 1 ≤ 41 := by omega
          go_wp2_with fail
          go_roundg (A.length - (i + 1))
          case measure => omega
          case rel => exact ⟨i + 1, b4, r04, r14, _, _, x4, M4, QA4, QB4, L4, by simp, rfl, by omega, T9, by omega⟩
        rcases h5 with h5 | h5 | h5 | h5 | h5
        · go_upto_region 15 with (fail)
          clear c0 h5
          have W1D : Hid (Below wr.heap.size wr wr.drew) := (Below.refl _ _).drew
          have TD : Hid (Wt w n g qb wr.drew b r0 r1 (.slice aA n2 cA) (.slice aB n2 cB) x M QA QB LL) := ⟨TT.out.q.later W1D.out, TT.out.gd, TT.out.p⟩
          have c1 := (HC1.out _ TT.out.q.b).1
          have hst := (HC1.out _ TD.out.q.b).2
          have HBO := Lib.hid (both_commit TT.out.gd HSL.out)
          have KD0 : Hid (Calls Tryz.prog 10 #[.agg #[.slice aA n2 cA, .slice aB n2 cB], .slice sl l.length cl] wr.drew (RlRes w.heap.size (fun j => (Value.slice aA n2 cA).ownBlock = some j ∨ (Value.slice aB n2 cB).ownBlock = some j) (docPut QA QB (decide (M.R0.S.first < M.R1.S.first)) (lgS M.R0.S M.R1.S).e l).1 (docPut QA QB (decide (M.R0.S.first < M.R1.S.first)) (lgS M.R0.S M.R1.S).e l).2.1 (docPut QA QB (decide (M.R0.S.first < M.R1.S.first)) (lgS M.R0.S M.R1.S).e l).2.2 wr.drew)) := rcommit_d TD.out.q.lg TD.out.gd.rd TD.out.q.b.size (fun j hj => hj) HSL.out cl hst
          obtain ⟨LA, LB, z, hdoc⟩ : ∃ LA LB z, (docPut QA QB (decide (M.R0.S.first < M.R1.S.first)) (lgS M.R0.S M.R1.S).e l) = (LA, LB, z) := ⟨_, _, _, rfl⟩
          rw [hdoc] at KD0 HBO
          have KD : Hid (Calls Tryz.prog 10 #[.agg #[.slice aA n2 cA, .slice aB n2 cB], .slice sl l.length cl] wr.drew (RlRes w.heap.size (fun j => (Value.slice aA n2 cA).ownBlock = some j ∨ (Value.slice aB n2 cB).ownBlock = some j) LA LB z wr.drew)) := KD0.out
          have HQW : Hid (∀ u, Below wr.drew.heap.size wr.drew u → Rw u qb TLg [.slice aA n2 cA, .slice aB n2 cB]) := fun u hu => TD.out.q.q.later hu
          have q0 : wr.cell? ⟨qb, 0, none⟩ = some (.slice aA n2 cA) := TT.out.q.q.cell 0
          have q1 : wr.cell? ⟨qb, 1, none⟩ = some (.slice aB n2 cB) := TT.out.q.q.cell 1
          clear hdoc KD0 hst
          refine wp_region_inv (I := (fun A0 L a u => ∃ (aA' : Option Addr) (cA' : Nat) (aB' : Option Addr) (cB' : Nat) (x0 x1 x2 x3 x4 x5 x6 x7 x8 x9 x11 : Value), a = putAll A0 [(67, x0), (68, x1), (69, x2), (70, x3), (71, x4), (72, x5), (73, x6), (66, x7), (74, x8), (75, x9), (12, x11)] ∧ (L 0 = true → x0 = (.agg #[.slice aA n2 cA, .slice aB n2 cB])) ∧ (L 1 = true → x1 = (.slice (some ⟨ab, ao, Option.none⟩) A.length cap)) ∧ (L 2 = true → x2 = (.int .i64 (i : Int))) ∧ (L 3 = true → x3 = (.pointer (some ⟨ab, ao + i * 6, Option.none⟩))) ∧ (L 4 = true → x4 = (.pointer (some ⟨ab, ao + i * 6 + 1, Option.none⟩))) ∧ (L 5 = true → x5 = (.slice sl l.length cl)) ∧ (L 6 = true → x6 = (.tuple #[.agg #[.slice aA' (LA).length cA', .slice aB' (LB).length cB'], .int .i64 z])) ∧ (L 7 = true → x7 = (.tuple #[.agg #[.slice aA' (LA).length cA', .slice aB' (LB).length cB'], .int .i64 z])) ∧ (L 8 = true → x8 = (.agg #[.slice aA' (LA).length cA', .slice aB' (LB).length cB'])) ∧ (L 9 = true → x9 = (.int .i64 z)) ∧ (L 11 = true → x11 = (.int .i64 z)) ∧ Dq wr.drew w.heap.size qb (.slice aA n2 cA) (.slice aB n2 cB) LA LB (L 0) (L 5) (L 6) (L 7) (L 8) (L 10) (.slice aA' (LA).length cA') (.slice aB' (LB).length cB') u)) (by kernel_rfl) (by kernel_rfl) ?_ ?_ ?_
          · intro L hL
            exact ⟨none, 0, none, 0, _, _, _, _, _, _, _, _, _, _, _, by (simp only [putAll, Act.put, List.setIfInBounds_toArray, List.set_cons_zero, List.set_cons_succ]; rfl), (fun h => absurd h (by rw [hL 0 (by decide)]; decide)), (fun h => absurd h (by rw [hL 1 (by decide)]; decide)), (fun h => absurd h (by rw [hL 2 (by decide)]; decide)), (fun h => absurd h (by rw [hL 3 (by decide)]; decide)), (fun h => absurd h (by rw [hL 4 (by decide)]; decide)), (fun h => absurd h (by rw [hL 5 (by decide)]; decide)), (fun h => absurd h (by rw [hL 6 (by decide)]; decide)), (fun h => absurd h (by rw [hL 7 (by decide)]; decide)), (fun h => absurd h (by rw [hL 8 (by decide)]; decide)), (fun h => absurd h (by rw [hL 9 (by decide)]; decide)), (fun h => absurd h (by rw [hL 11 (by decide)]; decide)), by rw [hL 0 (by decide), hL 5 (by decide), hL 6 (by decide), hL 7 (by decide), hL 8 (by decide), hL 10 (by decide)]; exact Dq.start⟩
          refine Steps.cons (i := 0) rfl ?_ ?_
          · rintro L a u ⟨aA', cA', aB', cB', x0, x1, x2, x3, x4, x5, x6, x7, x8, x9, x11, rfl, h0, h1, h2, h3, h4, h5, h6, h7, h8, h9, h11, hm⟩ hi hd K hK
            simp only [putAll, Act.put, List.setIfInBounds_toArray, List.set_cons_zero, List.set_cons_succ]
            (try simp [Region.binds] at hd)
            replace h0 := Lib.hid h0
            replace h1 := Lib.hid h1
            replace h2 := Lib.hid h2
            replace h3 := Lib.hid h3
            replace h4 := Lib.hid h4
            replace h5 := Lib.hid h5
            replace h6 := Lib.hid h6
            replace h7 := Lib.hid h7
            replace h8 := Lib.hid h8
            replace h9 := Lib.hid h9
            replace h11 := Lib.hid h11
            obtain rfl := hm.at0 hi
            go_simp
            exact hK.out _ _ ⟨aA', cA', aB', cB', _, _, _, _, _, _, _, _, _, _, _, by ((simp only [putAll, Act.put, List.setIfInBounds_toArray, List.set_cons_zero, List.set_cons_succ]) <;> rfl), (fun _ => rfl), h1.out, h2.out, h3.out, h4.out, h5.out, h6.out, h7.out, h8.out, h9.out, h11.out, hm.s0⟩
          refine Steps.cons (i := 1) rfl ?_ ?_
          · rintro L a u ⟨aA', cA', aB', cB', x0, x1, x2, x3, x4, x5, x6, x7, x8, x9, x11, rfl, h0, h1, h2, h3, h4, h5, h6, h7, h8, h9, h11, hm⟩ hi hd K hK
            simp only [putAll, Act.put, List.setIfInBounds_toArray, List.set_cons_zero, List.set_cons_succ]
            (try simp [Region.binds] at hd)
            replace h0 := Lib.hid h0
            replace h1 := Lib.hid h1
            replace h2 := Lib.hid h2
            replace h3 := Lib.hid h3
            replace h4 := Lib.hid h4
            replace h5 := Lib.hid h5
            replace h6 := Lib.hid h6
            replace h7 := Lib.hid h7
            replace h8 := Lib.hid h8
            replace h9 := Lib.hid h9
            replace h11 := Lib.hid h11
            go_simp
            exact hK.out _ _ ⟨aA', cA', aB', cB', _, _, _, _, _, _, _, _, _, _, _, by ((simp only [putAll, Act.put, List.setIfInBounds_toArray, List.set_cons_zero, List.set_cons_succ]) <;> rfl), h0.out, (fun _ => rfl), h2.out, h3.out, h4.out, h5.out, h6.out, h7.out, h8.out, h9.out, h11.out, hm⟩
          refine Steps.cons (i := 2) rfl ?_ ?_
          · rintro L a u ⟨aA', cA', aB', cB', x0, x1, x2, x3, x4, x5, x6, x7, x8, x9, x11, rfl, h0, h1, h2, h3, h4, h5, h6, h7, h8, h9, h11, hm⟩ hi hd K hK
            simp only [putAll, Act.put, List.setIfInBounds_toArray, List.set_cons_zero, List.set_cons_succ]
            (try simp [Region.binds] at hd)
            replace h0 := Lib.hid h0
            replace h1 := Lib.hid h1
            replace h2 := Lib.hid h2
            replace h3 := Lib.hid h3
            replace h4 := Lib.hid h4
            replace h5 := Lib.hid h5
            replace h6 := Lib.hid h6
            replace h7 := Lib.hid h7
            replace h8 := Lib.hid h8
            replace h9 := Lib.hid h9
            replace h11 := Lib.hid h11
            go_simp
            exact hK.out _ _ ⟨aA', cA', aB', cB', _, _, _, _, _, _, _, _, _, _, _, by ((simp only [putAll, Act.put, List.setIfInBounds_toArray, List.set_cons_zero, List.set_cons_succ]) <;> rfl), h0.out, h1.out, (fun _ => rfl), h3.out, h4.out, h5.out, h6.out, h7.out, h8.out, h9.out, h11.out, hm⟩
          refine Steps.cons (i := 3) rfl ?_ ?_
          · rintro L a u ⟨aA', cA', aB', cB', x0, x1, x2, x3, x4, x5, x6, x7, x8, x9, x11, rfl, h0, h1, h2, h3, h4, h5, h6, h7, h8, h9, h11, hm⟩ hi hd K hK
            simp only [putAll, Act.put, List.setIfInBounds_toArray, List.set_cons_zero, List.set_cons_succ]
            (try simp [Region.binds] at hd)
            replace h0 := Lib.hid h0
            replace h1 := Lib.hid h1
            replace h2 := Lib.hid h2
            replace h3 := Lib.hid h3
            replace h4 := Lib.hid h4
            replace h5 := Lib.hid h5
            replace h6 := Lib.hid h6
            replace h7 := Lib.hid h7
            replace h8 := Lib.hid h8
            replace h9 := Lib.hid h9
            replace h11 := Lib.hid h11
            obtain rfl := (h1.out (by simp [hd])).symm
            obtain rfl := (h2.out (by simp [hd])).symm
            go_simp
            exact hK.out _ _ ⟨aA', cA', aB', cB', _, _, _, _, _, _, _, _, _, _, _, by ((simp only [putAll, Act.put, List.setIfInBounds_toArray, List.set_cons_zero, List.set_cons_succ]) <;> rfl), h0.out, h1.out, h2.out, (fun _ => rfl), h4.out, h5.out, h6.out, h7.out, h8.out, h9.out, h11.out, hm⟩
          refine Steps.cons (i := 4) rfl ?_ ?_
          · rintro L a u ⟨aA', cA', aB', cB', x0, x1, x2, x3, x4, x5, x6, x7, x8, x9, x11, rfl, h0, h1, h2, h3, h4, h5, h6, h7, h8, h9, h11, hm⟩ hi hd K hK
            simp only [putAll, Act.put, List.setIfInBounds_toArray, List.set_cons_zero, List.set_cons_succ]
            (try simp [Region.binds] at hd)
            replace h0 := Lib.hid h0
            replace h1 := Lib.hid h1
            replace h2 := Lib.hid h2
            replace h3 := Lib.hid h3
            replace h4 := Lib.hid h4
            replace h5 := Lib.hid h5
            replace h6 := Lib.hid h6
            replace h7 := Lib.hid h7
            replace h8 := Lib.hid h8
            replace h9 := Lib.hid h9
            replace h11 := Lib.hid h11
            obtain rfl := (h3.out (by simp [hd])).symm
            go_simp
            exact hK.out _ _ ⟨aA', cA', aB', cB', _, _, _, _, _, _, _, _, _, _, _, by ((simp only [putAll, Act.put, List.setIfInBounds_toArray, List.set_cons_zero, List.set_cons_succ]) <;> rfl), h0.out, h1.out, h2.out, h3.out, (fun _ => rfl), h5.out, h6.out, h7.out, h8.out, h9.out, h11.out, hm⟩
          refine Steps.cons (i := 5) rfl ?_ ?_
          · rintro L a u ⟨aA', cA', aB', cB', x0, x1, x2, x3, x4, x5, x6, x7, x8, x9, x11, rfl, h0, h1, h2, h3, h4, h5, h6, h7, h8, h9, h11, hm⟩ hi hd K hK
            simp only [putAll, Act.put, List.setIfInBounds_toArray, List.set_cons_zero, List.set_cons_succ]
            (try simp [Region.binds] at hd)
            replace h0 := Lib.hid h0
            replace h1 := Lib.hid h1
            replace h2 := Lib.hid h2
            replace h3 := Lib.hid h3
            replace h4 := Lib.hid h4
            replace h5 := Lib.hid h5
            replace h6 := Lib.hid h6
            replace h7 := Lib.hid h7
            replace h8 := Lib.hid h8
            replace h9 := Lib.hid h9
            replace h11 := Lib.hid h11
            obtain rfl := (h4.out (by simp [hd])).symm
            obtain rfl := hm.at5 hi
            go_simp
            exact hK.out _ _ ⟨aA', cA', aB', cB', _, _, _, _, _, _, _, _, _, _, _, by ((simp only [putAll, Act.put, List.setIfInBounds_toArray, List.set_cons_zero, List.set_cons_succ]) <;> rfl), h0.out, h1.out, h2.out, h3.out, h4.out, (fun _ => rfl), h6.out, h7.out, h8.out, h9.out, h11.out, hm.s5⟩
          refine Steps.cons (i := 6) rfl ?_ ?_
          · rintro L a u ⟨aA', cA', aB', cB', x0, x1, x2, x3, x4, x5, x6, x7, x8, x9, x11, rfl, h0, h1, h2, h3, h4, h5, h6, h7, h8, h9, h11, hm⟩ hi hd K hK
            simp only [putAll, Act.put, List.setIfInBounds_toArray, List.set_cons_zero, List.set_cons_succ]
            (try simp [Region.binds] at hd)
            replace h0 := Lib.hid h0
            replace h1 := Lib.hid h1
            replace h2 := Lib.hid h2
            replace h3 := Lib.hid h3
            replace h4 := Lib.hid h4
            replace h5 := Lib.hid h5
            replace h6 := Lib.hid h6
            replace h7 := Lib.hid h7
            replace h8 := Lib.hid h8
            replace h9 := Lib.hid h9
            replace h11 := Lib.hid h11
            obtain rfl := (h0.out (by simp [hd])).symm
            obtain rfl := (h5.out (by simp [hd])).symm
            have hl0 : L 0 = true := by simp [hd]
            have hl5 : L 5 = true := by simp [hd]
            obtain rfl := hm.c0 hi
            go_simp
            refine KD.out.mono ?_
            rintro e u5 ⟨vA2, vB2, rfl, hlg5, hp5, hb5⟩
            obtain ⟨aA2, cA2, rfl⟩ := own_slice hlg5.a
            obtain ⟨aB2, cB2, rfl⟩ := own_slice hlg5.b
            go_wp2_with fail
            exact hK.out _ _ ⟨aA2, cA2, aB2, cB2, _, _, _, _, _, _, _, _, _, _, _, by ((simp only [putAll, Act.put, List.setIfInBounds_toArray, List.set_cons_zero, List.set_cons_succ]) <;> rfl), (fun _ => rfl), h1.out, h2.out, h3.out, h4.out, (fun _ => rfl), (fun _ => rfl), (fun h => absurd (hm.m7 h) (by rw [hi]; decide)), (fun h => absurd (hm.m8 h) (by rw [hi]; decide)), h9.out, h11.out, (hm.did hi hl0 hl5 hlg5 hp5 hb5)⟩
          refine Steps.cons (i := 7) rfl ?_ ?_
          · rintro L a u ⟨aA', cA', aB', cB', x0, x1, x2, x3, x4, x5, x6, x7, x8, x9, x11, rfl, h0, h1, h2, h3, h4, h5, h6, h7, h8, h9, h11, hm⟩ hi hd K hK
            simp only [putAll, Act.put, List.setIfInBounds_toArray, List.set_cons_zero, List.set_cons_succ]
            (try simp [Region.binds] at hd)
            replace h0 := Lib.hid h0
            replace h1 := Lib.hid h1
            replace h2 := Lib.hid h2
            replace h3 := Lib.hid h3
            replace h4 := Lib.hid h4
            replace h5 := Lib.hid h5
            replace h6 := Lib.hid h6
            replace h7 := Lib.hid h7
            replace h8 := Lib.hid h8
            replace h9 := Lib.hid h9
            replace h11 := Lib.hid h11
            obtain rfl := (h6.out (by simp [hd])).symm
            go_simp
            exact hK.out _ _ ⟨aA', cA', aB', cB', _, _, _, _, _, _, _, _, _, _, _, by ((simp only [putAll, Act.put, List.setIfInBounds_toArray, List.set_cons_zero, List.set_cons_succ]) <;> rfl), h0.out, h1.out, h2.out, h3.out, h4.out, h5.out, h6.out, (fun _ => rfl), h8.out, h9.out, h11.out, (hm.s7 (by simp [hd]))⟩
          refine Steps.cons (i := 8) rfl ?_ ?_
          · rintro L a u ⟨aA', cA', aB', cB', x0, x1, x2, x3, x4, x5, x6, x7, x8, x9, x11, rfl, h0, h1, h2, h3, h4, h5, h6, h7, h8, h9, h11, hm⟩ hi hd K hK
            simp only [putAll, Act.put, List.setIfInBounds_toArray, List.set_cons_zero, List.set_cons_succ]
            (try simp [Region.binds] at hd)
            replace h0 := Lib.hid h0
            replace h1 := Lib.hid h1
            replace h2 := Lib.hid h2
            replace h3 := Lib.hid h3
            replace h4 := Lib.hid h4
            replace h5 := Lib.hid h5
            replace h6 := Lib.hid h6
            replace h7 := Lib.hid h7
            replace h8 := Lib.hid h8
            replace h9 := Lib.hid h9
            replace h11 := Lib.hid h11
            obtain rfl := (h7.out (by simp [hd])).symm
            go_simp
            exact hK.out _ _ ⟨aA', cA', aB', cB', _, _, _, _, _, _, _, _, _, _, _, by ((simp only [putAll, Act.put, List.setIfInBounds_toArray, List.set_cons_zero, List.set_cons_succ]) <;> rfl), h0.out, h1.out, h2.out, h3.out, h4.out, h5.out, h6.out, h7.out, (fun _ => rfl), h9.out, h11.out, (hm.s8 (by simp [hd]))⟩
          refine Steps.cons (i := 9) rfl ?_ ?_
          · rintro L a u ⟨aA', cA', aB', cB', x0, x1, x2, x3, x4, x5, x6, x7, x8, x9, x11, rfl, h0, h1, h2, h3, h4, h5, h6, h7, h8, h9, h11, hm⟩ hi hd K hK
            simp only [putAll, Act.put, List.setIfInBounds_toArray, List.set_cons_zero, List.set_cons_succ]
            (try simp [Region.binds] at hd)
            replace h0 := Lib.hid h0
            replace h1 := Lib.hid h1
            replace h2 := Lib.hid h2
            replace h3 := Lib.hid h3
            replace h4 := Lib.hid h4
            replace h5 := Lib.hid h5
            replace h6 := Lib.hid h6
            replace h7 := Lib.hid h7
            replace h8 := Lib.hid h8
            replace h9 := Lib.hid h9
            replace h11 := Lib.hid h11
            obtain rfl := (h7.out (by simp [hd])).symm
            go_simp
            exact hK.out _ _ ⟨aA', cA', aB', cB', _, _, _, _, _, _, _, _, _, _, _, by ((simp only [putAll, Act.put, List.setIfInBounds_toArray, List.set_cons_zero, List.set_cons_succ]) <;> rfl), h0.out, h1.out, h2.out, h3.out, h4.out, h5.out, h6.out, h7.out, h8.out, (fun _ => rfl), h11.out, hm⟩
          refine Steps.cons (i := 10) rfl ?_ ?_
          · rintro L a u ⟨aA', cA', aB', cB', x0, x1, x2, x3, x4, x5, x6, x7, x8, x9, x11, rfl, h0, h1, h2, h3, h4, h5, h6, h7, h8, h9, h11, hm⟩ hi hd K hK
            simp only [putAll, Act.put, List.setIfInBounds_toArray, List.set_cons_zero, List.set_cons_succ]
            (try simp [Region.binds] at hd)
            replace h0 := Lib.hid h0
            replace h1 := Lib.hid h1
            replace h2 := Lib.hid h2
            replace h3 := Lib.hid h3
            replace h4 := Lib.hid h4
            replace h5 := Lib.hid h5
            replace h6 := Lib.hid h6
            replace h7 := Lib.hid h7
            replace h8 := Lib.hid h8
            replace h9 := Lib.hid h9
            replace h11 := Lib.hid h11
            obtain rfl := (h8.out (by simp [hd])).symm
            have hl8 : L 8 = true := by simp [hd]
            have hbu := hm.bel hl8 hi
            have hrw := HQW.out u hbu
            have o0 : u.cell? ⟨qb, 0, none⟩ = some (.slice aA n2 cA) := hrw.cell 0
            have o1 : u.cell? ⟨qb, 1, none⟩ = some (.slice aB n2 cB) := hrw.cell 1
            have f0 := hrw.frozen 0
            have f1 := hrw.frozen 1
            clear hrw
            go_simp
            exact hK.out _ _ ⟨aA', cA', aB', cB', _, _, _, _, _, _, _, _, _, _, _, by ((simp only [putAll, Act.put, List.setIfInBounds_toArray, List.set_cons_zero, List.set_cons_succ]) <;> rfl), h0.out, h1.out, h2.out, h3.out, h4.out, h5.out, h6.out, h7.out, h8.out, h9.out, h11.out, (hm.store hl8 hi)⟩
          refine Steps.cons (i := 11) rfl ?_ ?_
          · rintro L a u ⟨aA', cA', aB', cB', x0, x1, x2, x3, x4, x5, x6, x7, x8, x9, x11, rfl, h0, h1, h2, h3, h4, h5, h6, h7, h8, h9, h11, hm⟩ hi hd K hK
            simp only [putAll, Act.put, List.setIfInBounds_toArray, List.set_cons_zero, List.set_cons_succ]
            (try simp [Region.binds] at hd)
            replace h0 := Lib.hid h0
            replace h1 := Lib.hid h1
            replace h2 := Lib.hid h2
            replace h3 := Lib.hid h3
            replace h4 := Lib.hid h4
            replace h5 := Lib.hid h5
            replace h6 := Lib.hid h6
            replace h7 := Lib.hid h7
            replace h8 := Lib.hid h8
            replace h9 := Lib.hid h9
            replace h11 := Lib.hid h11
            obtain rfl := (h9.out (by simp [hd])).symm
            go_simp
            exact hK.out _ _ ⟨aA', cA', aB', cB', _, _, _, _, _, _, _, _, _, _, _, by ((simp only [putAll, Act.put, List.setIfInBounds_toArray, List.set_cons_zero, List.set_cons_succ]) <;> rfl), h0.out, h1.out, h2.out, h3.out, h4.out, h5.out, h6.out, h7.out, h8.out, h9.out, (fun _ => rfl), hm⟩
          · exact Steps.nil
          · rintro L a u ⟨aA', cA', aB', cB', x0, x1, x2, x3, x4, x5, x6, x7, x8, x9, x11, rfl, h0, h1, h2, h3, h4, h5, h6, h7, h8, h9, h11, hm⟩ hall
            obtain rfl := (h11 (hall 11 (by decide))).symm
            simp only [putAll, Act.put, List.setIfInBounds_toArray, List.set_cons_zero, List.set_cons_succ]
            have HM := Lib.hid (hm.end' (hall 10 (by decide)))
            clear hm
            obtain ⟨w2', hb2, hlg2, hp2, rfl⟩ := HM.out
            have HQ3 := Lib.hid (TD.out.q.doc hb2 hlg2 hp2)
            generalize (w2'.setCell ⟨qb, 0, none⟩ (.slice aA' LA.length cA')).setCell ⟨qb, 1, none⟩ (.slice aB' LB.length cB') = w3 at HQ3 ⊢
            clear hb2 hlg2 hp2 HM c1 q0 q1
            have c1 := (HC1.out _ HQ3.out.b).1
            have HGD := Lib.hid TT.out.gd
            have HPP := Lib.hid TT.out.p
            obtain ⟨C, hC⟩ : ∃ C, C = commitW M x l := ⟨_, rfl⟩
            have KC := Lib.hid (HQ3.out.code (f := 11) (s := .slice sl l.length cl) (C := C) (fun U ht => by rw [hC]; exact commit_c ht HGD.out.wf HSL.out cl (HC1.out _ HQ3.out.b).2))
            rw [← hC] at HBO
            rw [HBO.out.z] at KC
            obtain ⟨M4, x4, zz⟩ := C
            clear hC
            go_wp2_with fail
            refine KC.out.mono ?_
            rintro e w4 ⟨rfl, hq4⟩
            obtain ⟨L4, hg4⟩ := HBO.out.g
            have T4 : Hid (Wt w n g qb w4 b r0 r1 (.slice aA' LA.length cA') (.slice aB' LB.length cB') x4 M4 LA LB L4) := ⟨hq4, hg4, HBO.out.p.elim id fun e => by have e : x4 = x := e; rw [e]; exact HPP.out⟩
            clear hq4 hg4 KC HQ3 HBO HGD HPP TD TT HQW KD W1D
            go_wp2_with fail
            go_meet
            exact ⟨_, _, _, _, _, _, _, _, _, _, rfl, T4⟩
        · go_upto_region 15 with (fail)
          clear c0 h5
          have W1D : Hid (Below wr.heap.size wr wr.drew) := (Below.refl _ _).drew
          have TD : Hid (Wt w n g qb wr.drew b r0 r1 (.slice aA n2 cA) (.slice aB n2 cB) x M QA QB LL) := ⟨TT.out.q.later W1D.out, TT.out.gd, TT.out.p⟩
          have c1 := (HC1.out _ TT.out.q.b).1
          have hst := (HC1.out _ TD.out.q.b).2
          have HBO := Lib.hid (both_commit TT.out.gd HSL.out)
          have KD0 : Hid (Calls Tryz.prog 10 #[.agg #[.slice aA n2 cA, .slice aB n2 cB], .slice sl l.length cl] wr.drew (RlRes w.heap.size (fun j => (Value.slice aA n2 cA).ownBlock = some j ∨ (Value.slice aB n2 cB).ownBlock = some j) (docPut QA QB (decide (M.R0.S.first < M.R1.S.first)) (lgS M.R0.S M.R1.S).e l).1 (docPut QA QB (decide (M.R0.S.first < M.R1.S.first)) (lgS M.R0.S M.R1.S).e l).2.1 (docPut QA QB (decide (M.R0.S.first < M.R1.S.first)) (lgS M.R0.S M.R1.S).e l).2.2 wr.drew)) := rcommit_d TD.out.q.lg TD.out.gd.rd TD.out.q.b.size (fun j hj => hj) HSL.out cl hst
          obtain ⟨LA, LB, z, hdoc⟩ : ∃ LA LB z, (docPut QA QB (decide (M.R0.S.first < M.R1.S.first)) (lgS M.R0.S M.R1.S).e l) = (LA, LB, z) := ⟨_, _, _, rfl⟩
          rw [hdoc] at KD0 HBO
          have KD : Hid (Calls Tryz.prog 10 #[.agg #[.slice aA n2 cA, .slice aB n2 cB], .slice sl l.length cl] wr.drew (RlRes w.heap.size (fun j => (Value.slice aA n2 cA).ownBlock = some j ∨ (Value.slice aB n2 cB).ownBlock = some j) LA LB z wr.drew)) := KD0.out
          have HQW : Hid (∀ u, Below wr.drew.heap.size wr.drew u → Rw u qb TLg [.slice aA n2 cA, .slice aB n2 cB]) := fun u hu => TD.out.q.q.later hu
          have q0 : wr.cell? ⟨qb, 0, none⟩ = some (.slice aA n2 cA) := TT.out.q.q.cell 0
          have q1 : wr.cell? ⟨qb, 1, none⟩ = some (.slice aB n2 cB) := TT.out.q.q.cell 1
          clear hdoc KD0 hst
          refine wp_region_inv (I := (fun A0 L a u => ∃ (aA' : Option Addr) (cA' : Nat) (aB' : Option Addr) (cB' : Nat) (x0 x1 x2 x3 x4 x5 x6 x7 x8 x9 x11 : Value), a = putAll A0 [(67, x0), (68, x1), (69, x2), (70, x3), (71, x4), (72, x5), (73, x6), (66, x7), (74, x8), (75, x9), (12, x11)] ∧ (L 0 = true → x0 = (.agg #[.slice aA n2 cA, .slice aB n2 cB])) ∧ (L 1 = true → x1 = (.slice (some ⟨ab, ao, Option.none⟩) A.length cap)) ∧ (L 2 = true → x2 = (.int .i64 (i : Int))) ∧ (L 3 = true → x3 = (.pointer (some ⟨ab, ao + i * 6, Option.none⟩))) ∧ (L 4 = true → x4 = (.pointer (some ⟨ab, ao + i * 6 + 1, Option.none⟩))) ∧ (L 5 = true → x5 = (.slice sl l.length cl)) ∧ (L 6 = true → x6 = (.tuple #[.agg #[.slice aA' (LA).length cA', .slice aB' (LB).length cB'], .int .i64 z])) ∧ (L 7 = true → x7 = (.tuple #[.agg #[.slice aA' (LA).length cA', .slice aB' (LB).length cB'], .int .i64 z])) ∧ (L 8 = true → x8 = (.agg #[.slice aA' (LA).length cA', .slice aB' (LB).length cB'])) ∧ (L 9 = true → x9 = (.int .i64 z)) ∧ (L 11 = true → x11 = (.int .i64 z)) ∧ Dq wr.drew w.heap.size qb (.slice aA n2 cA) (.slice aB n2 cB) LA LB (L 0) (L 5) (L 6) (L 7) (L 8) (L 10) (.slice aA' (LA).length cA') (.slice aB' (LB).length cB') u)) (by kernel_rfl) (by kernel_rfl) ?_ ?_ ?_
          · intro L hL
            exact ⟨none, 0, none, 0, _, _, _, _, _, _, _, _, _, _, _, by (simp only [putAll, Act.put, List.setIfInBounds_toArray, List.set_cons_zero, List.set_cons_succ]; rfl), (fun h => absurd h (by rw [hL 0 (by decide)]; decide)), (fun h => absurd h (by rw [hL 1 (by decide)]; decide)), (fun h => absurd h (by rw [hL 2 (by decide)]; decide)), (fun h => absurd h (by rw [hL 3 (by decide)]; decide)), (fun h => absurd h (by rw [hL 4 (by decide)]; decide)), (fun h => absurd h (by rw [hL 5 (by decide)]; decide)), (fun h => absurd h (by rw [hL 6 (by decide)]; decide)), (fun h => absurd h (by rw [hL 7 (by decide)]; decide)), (fun h => absurd h (by rw [hL 8 (by decide)]; decide)), (fun h => absurd h (by rw [hL 9 (by decide)]; decide)), (fun h => absurd h (by rw [hL 11 (by decide)]; decide)), by rw [hL 0 (by decide), hL 5 (by decide), hL 6 (by decide), hL 7 (by decide), hL 8 (by decide), hL 10 (by decide)]; exact Dq.start⟩
          refine Steps.cons (i := 0) rfl ?_ ?_
          · rintro L a u ⟨aA', cA', aB', cB', x0, x1, x2, x3, x4, x5, x6, x7, x8, x9, x11, rfl, h0, h1, h2, h3, h4, h5, h6, h7, h8, h9, h11, hm⟩ hi hd K hK
            simp only [putAll, Act.put, List.setIfInBounds_toArray, List.set_cons_zero, List.set_cons_succ]
            (try simp [Region.binds] at hd)
            replace h0 := Lib.hid h0
            replace h1 := Lib.hid h1
            replace h2 := Lib.hid h2
            replace h3 := Lib.hid h3
            replace h4 := Lib.hid h4
            replace h5 := Lib.hid h5
            replace h6 := Lib.hid h6
            replace h7 := Lib.hid h7
            replace h8 := Lib.hid h8
            replace h9 := Lib.hid h9
            replace h11 := Lib.hid h11
            obtain rfl := hm.at0 hi
            go_simp
            exact hK.out _ _ ⟨aA', cA', aB', cB', _, _, _, _, _, _, _, _, _, _, _, by ((simp only [putAll, Act.put, List.setIfInBounds_toArray, List.set_cons_zero, List.set_cons_succ]) <;> rfl), (fun _ => rfl), h1.out, h2.out, h3.out, h4.out, h5.out, h6.out, h7.out, h8.out, h9.out, h11.out, hm.s0⟩
          refine Steps.cons (i := 1) rfl ?_ ?_
          · rintro L a u ⟨aA', cA', aB', cB', x0, x1, x2, x3, x4, x5, x6, x7, x8, x9, x11, rfl, h0, h1, h2, h3, h4, h5, h6, h7, h8, h9, h11, hm⟩ hi hd K hK
            simp only [putAll, Act.put, List.setIfInBounds_toArray, List.set_cons_zero, List.set_cons_succ]
            (try simp [Region.binds] at hd)
            replace h0 := Lib.hid h0
            replace h1 := Lib.hid h1
            replace h2 := Lib.hid h2
            replace h3 := Lib.hid h3
            replace h4 := Lib.hid h4
            replace h5 := Lib.hid h5
            replace h6 := Lib.hid h6
            replace h7 := Lib.hid h7
            replace h8 := Lib.hid h8
            replace h9 := Lib.hid h9
            replace h11 := Lib.hid h11
            go_simp
            exact hK.out _ _ ⟨aA', cA', aB', cB', _, _, _, _, _, _, _, _, _, _, _, by ((simp only [putAll, Act.put, List.setIfInBounds_toArray, List.set_cons_zero, List.set_cons_succ]) <;> rfl), h0.out, (fun _ => rfl), h2.out, h3.out, h4.out, h5.out, h6.out, h7.out, h8.out, h9.out, h11.out, hm⟩
          refine Steps.cons (i := 2) rfl ?_ ?_
          · rintro L a u ⟨aA', cA', aB', cB', x0, x1, x2, x3, x4, x5, x6, x7, x8, x9, x11, rfl, h0, h1, h2, h3, h4, h5, h6, h7, h8, h9, h11, hm⟩ hi hd K hK
            simp only [putAll, Act.put, List.setIfInBounds_toArray, List.set_cons_zero, List.set_cons_succ]
            (try simp [Region.binds] at hd)
            replace h0 := Lib.hid h0
            replace h1 := Lib.hid h1
            replace h2 := Lib.hid h2
            replace h3 := Lib.hid h3
            replace h4 := Lib.hid h4
            replace h5 := Lib.hid h5
            replace h6 := Lib.hid h6
            replace h7 := Lib.hid h7
            replace h8 := Lib.hid h8
            replace h9 := Lib.hid h9
            replace h11 := Lib.hid h11
            go_simp
            exact hK.out _ _ ⟨aA', cA', aB', cB', _, _, _, _, _, _, _, _, _, _, _, by ((simp only [putAll, Act.put, List.setIfInBounds_toArray, List.set_cons_zero, List.set_cons_succ]) <;> rfl), h0.out, h1.out, (fun _ => rfl), h3.out, h4.out, h5.out, h6.out, h7.out, h8.out, h9.out, h11.out, hm⟩
          refine Steps.cons (i := 3) rfl ?_ ?_
          · rintro L a u ⟨aA', cA', aB', cB', x0, x1, x2, x3, x4, x5, x6, x7, x8, x9, x11, rfl, h0, h1, h2, h3, h4, h5, h6, h7, h8, h9, h11, hm⟩ hi hd K hK
            simp only [putAll, Act.put, List.setIfInBounds_toArray, List.set_cons_zero, List.set_cons_succ]
            (try simp [Region.binds] at hd)
            replace h0 := Lib.hid h0
            replace h1 := Lib.hid h1
            replace h2 := Lib.hid h2
            replace h3 := Lib.hid h3
            replace h4 := Lib.hid h4
            replace h5 := Lib.hid h5
            replace h6 := Lib.hid h6
            replace h7 := Lib.hid h7
            replace h8 := Lib.hid h8
            replace h9 := Lib.hid h9
            replace h11 := Lib.hid h11
            obtain rfl := (h1.out (by simp [hd])).symm
            obtain rfl := (h2.out (by simp [hd])).symm
            go_simp
            exact hK.out _ _ ⟨aA', cA', aB', cB', _, _, _, _, _, _, _, _, _, _, _, by ((simp only [putAll, Act.put, List.setIfInBounds_toArray, List.set_cons_zero, List.set_cons_succ]) <;> rfl), h0.out, h1.out, h2.out, (fun _ => rfl), h4.out, h5.out, h6.out, h7.out, h8.out, h9.out, h11.out, hm⟩
          refine Steps.cons (i := 4) rfl ?_ ?_
          · rintro L a u ⟨aA', cA', aB', cB', x0, x1, x2, x3, x4, x5, x6, x7, x8, x9, x11, rfl, h0, h1, h2, h3, h4, h5, h6, h7, h8, h9, h11, hm⟩ hi hd K hK
            simp only [putAll, Act.put, List.setIfInBounds_toArray, List.set_cons_zero, List.set_cons_succ]
            (try simp [Region.binds] at hd)
            replace h0 := Lib.hid h0
            replace h1 := Lib.hid h1
            replace h2 := Lib.hid h2
            replace h3 := Lib.hid h3
            replace h4 := Lib.hid h4
            replace h5 := Lib.hid h5
            replace h6 := Lib.hid h6
            replace h7 := Lib.hid h7
            replace h8 := Lib.hid h8
            replace h9 := Lib.hid h9
            replace h11 := Lib.hid h11
            obtain rfl := (h3.out (by simp [hd])).symm
            go_simp
            exact hK.out _ _ ⟨aA', cA', aB', cB', _, _, _, _, _, _, _, _, _, _, _, by ((simp only [putAll, Act.put, List.setIfInBounds_toArray, List.set_cons_zero, List.set_cons_succ]) <;> rfl), h0.out, h1.out, h2.out, h3.out, (fun _ => rfl), h5.out, h6.out, h7.out, h8.out, h9.out, h11.out, hm⟩
          refine Steps.cons (i := 5) rfl ?_ ?_
          · rintro L a u ⟨aA', cA', aB', cB', x0, x1, x2, x3, x4, x5, x6, x7, x8, x9, x11, rfl, h0, h1, h2, h3, h4, h5, h6, h7, h8, h9, h11, hm⟩ hi hd K hK
            simp only [putAll, Act.put, List.setIfInBounds_toArray, List.set_cons_zero, List.set_cons_succ]
            (try simp [Region.binds] at hd)
            replace h0 := Lib.hid h0
            replace h1 := Lib.hid h1
            replace h2 := Lib.hid h2
            replace h3 := Lib.hid h3
            replace h4 := Lib.hid h4
            replace h5 := Lib.hid h5
            replace h6 := Lib.hid h6
            replace h7 := Lib.hid h7
            replace h8 := Lib.hid h8
            replace h9 := Lib.hid h9
            replace h11 := Lib.hid h11
            obtain rfl := (h4.out (by simp [hd])).symm
            obtain rfl := hm.at5 hi
            go_simp
            exact hK.out _ _ ⟨aA', cA', aB', cB', _, _, _, _, _, _, _, _, _, _, _, by ((simp only [putAll, Act.put, List.setIfInBounds_toArray, List.set_cons_zero, List.set_cons_succ]) <;> rfl), h0.out, h1.out, h2.out, h3.out, h4.out, (fun _ => rfl), h6.out, h7.out, h8.out, h9.out, h11.out, hm.s5⟩
          refine Steps.cons (i := 6) rfl ?_ ?_
          · rintro L a u ⟨aA', cA', aB', cB', x0, x1, x2, x3, x4, x5, x6, x7, x8, x9, x11, rfl, h0, h1, h2, h3, h4, h5, h6, h7, h8, h9, h11, hm⟩ hi hd K hK
            simp only [putAll, Act.put, List.setIfInBounds_toArray, List.set_cons_zero, List.set_cons_succ]
            (try simp [Region.binds] at hd)
            replace h0 := Lib.hid h0
            replace h1 := Lib.hid h1
            replace h2 := Lib.hid h2
            replace h3 := Lib.hid h3
            replace h4 := Lib.hid h4
            replace h5 := Lib.hid h5
            replace h6 := Lib.hid h6
            replace h7 := Lib.hid h7
            replace h8 := Lib.hid h8
            replace h9 := Lib.hid h9
            replace h11 := Lib.hid h11
            obtain rfl := (h0.out (by simp [hd])).symm
            obtain rfl := (h5.out (by simp [hd])).symm
            have hl0 : L 0 = true := by simp [hd]
            have hl5 : L 5 = true := by simp [hd]
            obtain rfl := hm.c0 hi
            go_simp
            refine KD.out.mono ?_
            rintro e u5 ⟨vA2, vB2, rfl, hlg5, hp5, hb5⟩
            obtain ⟨aA2, cA2, rfl⟩ := own_slice hlg5.a
            obtain ⟨aB2, cB2, rfl⟩ := own_slice hlg5.b
            go_wp2_with fail
            exact hK.out _ _ ⟨aA2, cA2, aB2, cB2, _, _, _, _, _, _, _, _, _, _, _, by ((simp only [putAll, Act.put, List.setIfInBounds_toArray, List.set_cons_zero, List.set_cons_succ]) <;> rfl), (fun _ => rfl), h1.out, h2.out, h3.out, h4.out, (fun _ => rfl), (fun _ => rfl), (fun h => absurd (hm.m7 h) (by rw [hi]; decide)), (fun h => absurd (hm.m8 h) (by rw [hi]; decide)), h9.out, h11.out, (hm.did hi hl0 hl5 hlg5 hp5 hb5)⟩
          refine Steps.cons (i := 7) rfl ?_ ?_
          · rintro L a u ⟨aA', cA', aB', cB', x0, x1, x2, x3, x4, x5, x6, x7, x8, x9, x11, rfl, h0, h1, h2, h3, h4, h5, h6, h7, h8, h9, h11, hm⟩ hi hd K hK
            simp only [putAll, Act.put, List.setIfInBounds_toArray, List.set_cons_zero, List.set_cons_succ]
            (try simp [Region.binds] at hd)
            replace h0 := Lib.hid h0
            replace h1 := Lib.hid h1
            replace h2 := Lib.hid h2
            replace h3 := Lib.hid h3
            replace h4 := Lib.hid h4
            replace h5 := Lib.hid h5
            replace h6 := Lib.hid h6
            replace h7 := Lib.hid h7
            replace h8 := Lib.hid h8
            replace h9 := Lib.hid h9
            replace h11 := Lib.hid h11
            obtain rfl := (h6.out (by simp [hd])).symm
            go_simp
            exact hK.out _ _ ⟨aA', cA', aB', cB', _, _, _, _, _, _, _, _, _, _, _, by ((simp only [putAll, Act.put, List.setIfInBounds_toArray, List.set_cons_zero, List.set_cons_succ]) <;> rfl), h0.out, h1.out, h2.out, h3.out, h4.out, h5.out, h6.out, (fun _ => rfl), h8.out, h9.out, h11.out, (hm.s7 (by simp [hd]))⟩
          refine Steps.cons (i := 8) rfl ?_ ?_
          · rintro L a u ⟨aA', cA', aB', cB', x0, x1, x2, x3, x4, x5, x6, x7, x8, x9, x11, rfl, h0, h1, h2, h3, h4, h5, h6, h7, h8, h9, h11, hm⟩ hi hd K hK
            simp only [putAll, Act.put, List.setIfInBounds_toArray, List.set_cons_zero, List.set_cons_succ]
            (try simp [Region.binds] at hd)
            replace h0 := Lib.hid h0
            replace h1 := Lib.hid h1
            replace h2 := Lib.hid h2
            replace h3 := Lib.hid h3
            replace h4 := Lib.hid h4
            replace h5 := Lib.hid h5
            replace h6 := Lib.hid h6
            replace h7 := Lib.hid h7
            replace h8 := Lib.hid h8
            replace h9 := Lib.hid h9
            replace h11 := Lib.hid h11
            obtain rfl := (h7.out (by simp [hd])).symm
            go_simp
            exact hK.out _ _ ⟨aA', cA', aB', cB', _, _, _, _, _, _, _, _, _, _, _, by ((simp only [putAll, Act.put, List.setIfInBounds_toArray, List.set_cons_zero, List.set_cons_succ]) <;> rfl), h0.out, h1.out, h2.out, h3.out, h4.out, h5.out, h6.out, h7.out, (fun _ => rfl), h9.out, h11.out, (hm.s8 (by simp [hd]))⟩
          refine Steps.cons (i := 9) rfl ?_ ?_
          · rintro L a u ⟨aA', cA', aB', cB', x0, x1, x2, x3, x4, x5, x6, x7, x8, x9, x11, rfl, h0, h1, h2, h3, h4, h5, h6, h7, h8, h9, h11, hm⟩ hi hd K hK
            simp only [putAll, Act.put, List.setIfInBounds_toArray, List.set_cons_zero, List.set_cons_succ]
            (try simp [Region.binds] at hd)
            replace h0 := Lib.hid h0
            replace h1 := Lib.hid h1
            replace h2 := Lib.hid h2
            replace h3 := Lib.hid h3
            replace h4 := Lib.hid h4
            replace h5 := Lib.hid h5
            replace h6 := Lib.hid h6
            replace h7 := Lib.hid h7
            replace h8 := Lib.hid h8
            replace h9 := Lib.hid h9
            replace h11 := Lib.hid h11
            obtain rfl := (h7.out (by simp [hd])).symm
            go_simp
            exact hK.out _ _ ⟨aA', cA', aB', cB', _, _, _, _, _, _, _, _, _, _, _, by ((simp only [putAll, Act.put, List.setIfInBounds_toArray, List.set_cons_zero, List.set_cons_succ]) <;> rfl), h0.out, h1.out, h2.out, h3.out, h4.out, h5.out, h6.out, h7.out, h8.out, (fun _ => rfl), h11.out, hm⟩
          refine Steps.cons (i := 10) rfl ?_ ?_
          · rintro L a u ⟨aA', cA', aB', cB', x0, x1, x2, x3, x4, x5, x6, x7, x8, x9, x11, rfl, h0, h1, h2, h3, h4, h5, h6, h7, h8, h9, h11, hm⟩ hi hd K hK
            simp only [putAll, Act.put, List.setIfInBounds_toArray, List.set_cons_zero, List.set_cons_succ]
            (try simp [Region.binds] at hd)
            replace h0 := Lib.hid h0
            replace h1 := Lib.hid h1
            replace h2 := Lib.hid h2
            replace h3 := Lib.hid h3
            replace h4 := Lib.hid h4
            replace h5 := Lib.hid h5
            replace h6 := Lib.hid h6
            replace h7 := Lib.hid h7
            replace h8 := Lib.hid h8
            replace h9 := Lib.hid h9
            replace h11 := Lib.hid h11
            obtain rfl := (h8.out (by simp [hd])).symm
            have hl8 : L 8 = true := by simp [hd]
            have hbu := hm.bel hl8 hi
            have hrw := HQW.out u hbu
            have o0 : u.cell? ⟨qb, 0, none⟩ = some (.slice aA n2 cA) := hrw.cell 0
            have o1 : u.cell? ⟨qb, 1, none⟩ = some (.slice aB n2 cB) := hrw.cell 1
            have f0 := hrw.frozen 0
            have f1 := hrw.frozen 1
            clear hrw
            go_simp
            exact hK.out _ _ ⟨aA', cA', aB', cB', _, _, _, _, _, _, _, _, _, _, _, by ((simp only [putAll, Act.put, List.setIfInBounds_toArray, List.set_cons_zero, List.set_cons_succ]) <;> rfl), h0.out, h1.out, h2.out, h3.out, h4.out, h5.out, h6.out, h7.out, h8.out, h9.out, h11.out, (hm.store hl8 hi)⟩
          refine Steps.cons (i := 11) rfl ?_ ?_
          · rintro L a u ⟨aA', cA', aB', cB', x0, x1, x2, x3, x4, x5, x6, x7, x8, x9, x11, rfl, h0, h1, h2, h3, h4, h5, h6, h7, h8, h9, h11, hm⟩ hi hd K hK
            simp only [putAll, Act.put, List.setIfInBounds_toArray, List.set_cons_zero, List.set_cons_succ]
            (try simp [Region.binds] at hd)
            replace h0 := Lib.hid h0
            replace h1 := Lib.hid h1
            replace h2 := Lib.hid h2
            replace h3 := Lib.hid h3
            replace h4 := Lib.hid h4
            replace h5 := Lib.hid h5
            replace h6 := Lib.hid h6
            replace h7 := Lib.hid h7
            replace h8 := Lib.hid h8
            replace h9 := Lib.hid h9
            replace h11 := Lib.hid h11
            obtain rfl := (h9.out (by simp [hd])).symm
            go_simp
            exact hK.out _ _ ⟨aA', cA', aB', cB', _, _, _, _, _, _, _, _, _, _, _, by ((simp only [putAll, Act.put, List.setIfInBounds_toArray, List.set_cons_zero, List.set_cons_succ]) <;> rfl), h0.out, h1.out, h2.out, h3.out, h4.out, h5.out, h6.out, h7.out, h8.out, h9.out, (fun _ => rfl), hm⟩
          · exact Steps.nil
          · rintro L a u ⟨aA', cA', aB', cB', x0, x1, x2, x3, x4, x5, x6, x7, x8, x9, x11, rfl, h0, h1, h2, h3, h4, h5, h6, h7, h8, h9, h11, hm⟩ hall
            obtain rfl := (h11 (hall 11 (by decide))).symm
            simp only [putAll, Act.put, List.setIfInBounds_toArray, List.set_cons_zero, List.set_cons_succ]
            have HM := Lib.hid (hm.end' (hall 10 (by decide)))
            clear hm
            obtain ⟨w2', hb2, hlg2, hp2, rfl⟩ := HM.out
            have HQ3 := Lib.hid (TD.out.q.doc hb2 hlg2 hp2)
            generalize (w2'.setCell ⟨qb, 0, none⟩ (.slice aA' LA.length cA')).setCell ⟨qb, 1, none⟩ (.slice aB' LB.length cB') = w3 at HQ3 ⊢
            clear hb2 hlg2 hp2 HM c1 q0 q1
            have c1 := (HC1.out _ HQ3.out.b).1
            have HGD := Lib.hid TT.out.gd
            have HPP := Lib.hid TT.out.p
            obtain ⟨C, hC⟩ : ∃ C, C = commitW M x l := ⟨_, rfl⟩
            have KC := Lib.hid (HQ3.out.code (f := 11) (s := .slice sl l.length cl) (C := C) (fun U ht => by rw [hC]; exact commit_c ht HGD.out.wf HSL.out cl (HC1.out _ HQ3.out.b).2))
            rw [← hC] at HBO
            rw [HBO.out.z] at KC
            obtain ⟨M4, x4, zz⟩ := C
            clear hC
            go_wp2_with fail
            refine KC.out.mono ?_
            rintro e w4 ⟨rfl, hq4⟩
            obtain ⟨L4, hg4⟩ := HBO.out.g
            have T4 : Hid (Wt w n g qb w4 b r0 r1 (.slice aA' LA.length cA') (.slice aB' LB.length cB') x4 M4 LA LB L4) := ⟨hq4, hg4, HBO.out.p.elim id fun e => by have e : x4 = x := e; rw [e]; exact HPP.out⟩
            clear hq4 hg4 KC HQ3 HBO HGD HPP TD TT HQW KD W1D
            go_wp2_with fail
            go_meet
            exact ⟨_, _, _, _, _, _, _, _, _, _, rfl, T4⟩
        · go_upto_region 15 with (fail)
          clear c0 h5
          have W1D : Hid (Below wr.heap.size wr wr.drew) := (Below.refl _ _).drew
          have TD : Hid (Wt w n g qb wr.drew b r0 r1 (.slice aA n2 cA) (.slice aB n2 cB) x M QA QB LL) := ⟨TT.out.q.later W1D.out, TT.out.gd, TT.out.p⟩
          have c1 := (HC1.out _ TT.out.q.b).1
          have hst := (HC1.out _ TD.out.q.b).2
          have HBO := Lib.hid (both_commit TT.out.gd HSL.out)
          have KD0 : Hid (Calls Tryz.prog 10 #[.agg #[.slice aA n2 cA, .slice aB n2 cB], .slice sl l.length cl] wr.drew (RlRes w.heap.size (fun j => (Value.slice aA n2 cA).ownBlock = some j ∨ (Value.slice aB n2 cB).ownBlock = some j) (docPut QA QB (decide (M.R0.S.first < M.R1.S.first)) (lgS M.R0.S M.R1.S).e l).1 (docPut QA QB (decide (M.R0.S.first < M.R1.S.first)) (lgS M.R0.S M.R1.S).e l).2.1 (docPut QA QB (decide (M.R0.S.first < M.R1.S.first)) (lgS M.R0.S M.R1.S).e l).2.2 wr.drew)) := rcommit_d TD.out.q.lg TD.out.gd.rd TD.out.q.b.size (fun j hj => hj) HSL.out cl hst
          obtain ⟨LA, LB, z, hdoc⟩ : ∃ LA LB z, (docPut QA QB (decide (M.R0.S.first < M.R1.S.first)) (lgS M.R0.S M.R1.S).e l) = (LA, LB, z) := ⟨_, _, _, rfl⟩
          rw [hdoc] at KD0 HBO
          have KD : Hid (Calls Tryz.prog 10 #[.agg #[.slice aA n2 cA, .slice aB n2 cB], .slice sl l.length cl] wr.drew (RlRes w.heap.size (fun j => (Value.slice aA n2 cA).ownBlock = some j ∨ (Value.slice aB n2 cB).ownBlock = some j) LA LB z wr.drew)) := KD0.out
          have HQW : Hid (∀ u, Below wr.drew.heap.size wr.drew u → Rw u qb TLg [.slice aA n2 cA, .slice aB n2 cB]) := fun u hu => TD.out.q.q.later hu
          have q0 : wr.cell? ⟨qb, 0, none⟩ = some (.slice aA n2 cA) := TT.out.q.q.cell 0
          have q1 : wr.cell? ⟨qb, 1, none⟩ = some (.slice aB n2 cB) := TT.out.q.q.cell 1
          clear hdoc KD0 hst
          refine wp_region_inv (I := (fun A0 L a u => ∃ (aA' : Option Addr) (cA' : Nat) (aB' : Option Addr) (cB' : Nat) (x0 x1 x2 x3 x4 x5 x6 x7 x8 x9 x11 : Value), a = putAll A0 [(67, x0), (68, x1), (69, x2), (70, x3), (71, x4), (72, x5), (73, x6), (66, x7), (74, x8), (75, x9), (12, x11)] ∧ (L 0 = true → x0 = (.agg #[.slice aA n2 cA, .slice aB n2 cB])) ∧ (L 1 = true → x1 = (.slice (some ⟨ab, ao, Option.none⟩) A.length cap)) ∧ (L 2 = true → x2 = (.int .i64 (i : Int))) ∧ (L 3 = true → x3 = (.pointer (some ⟨ab, ao + i * 6, Option.none⟩))) ∧ (L 4 = true → x4 = (.pointer (some ⟨ab, ao + i * 6 + 1, Option.none⟩))) ∧ (L 5 = true → x5 = (.slice sl l.length cl)) ∧ (L 6 = true → x6 = (.tuple #[.agg #[.slice aA' (LA).length cA', .slice aB' (LB).length cB'], .int .i64 z])) ∧ (L 7 = true → x7 = (.tuple #[.agg #[.slice aA' (LA).length cA', .slice aB' (LB).length cB'], .int .i64 z])) ∧ (L 8 = true → x8 = (.agg #[.slice aA' (LA).length cA', .slice aB' (LB).length cB'])) ∧ (L 9 = true → x9 = (.int .i64 z)) ∧ (L 11 = true → x11 = (.int .i64 z)) ∧ Dq wr.drew w.heap.size qb (.slice aA n2 cA) (.slice aB n2 cB) LA LB (L 0) (L 5) (L 6) (L 7) (L 8) (L 10) (.slice aA' (LA).length cA') (.slice aB' (LB).length cB') u)) (by kernel_rfl) (by kernel_rfl) ?_ ?_ ?_
          · intro L hL
            exact ⟨none, 0, none, 0, _, _, _, _, _, _, _, _, _, _, _, by (simp only [putAll, Act.put, List.setIfInBounds_toArray, List.set_cons_zero, List.set_cons_succ]; rfl), (fun h => absurd h (by rw [hL 0 (by decide)]; decide)), (fun h => absurd h (by rw [hL 1 (by decide)]; decide)), (fun h => absurd h (by rw [hL 2 (by decide)]; decide)), (fun h => absurd h (by rw [hL 3 (by decide)]; decide)), (fun h => absurd h (by rw [hL 4 (by decide)]; decide)), (fun h => absurd h (by rw [hL 5 (by decide)]; decide)), (fun h => absurd h (by rw [hL 6 (by decide)]; decide)), (fun h => absurd h (by rw [hL 7 (by decide)]; decide)), (fun h => absurd h (by rw [hL 8 (by decide)]; decide)), (fun h => absurd h (by rw [hL 9 (by decide)]; decide)), (fun h => absurd h (by rw [hL 11 (by decide)]; decide)), by rw [hL 0 (by decide), hL 5 (by decide), hL 6 (by decide), hL 7 (by decide), hL 8 (by decide), hL 10 (by decide)]; exact Dq.start⟩
          refine Steps.cons (i := 0) rfl ?_ ?_
          · rintro L a u ⟨aA', cA', aB', cB', x0, x1, x2, x3, x4, x5, x6, x7, x8, x9, x11, rfl, h0, h1, h2, h3, h4, h5, h6, h7, h8, h9, h11, hm⟩ hi hd K hK
            simp only [putAll, Act.put, List.setIfInBounds_toArray, List.set_cons_zero, List.set_cons_succ]
            (try simp [Region.binds] at hd)
            replace h0 := Lib.hid h0
            replace h1 := Lib.hid h1
            replace h2 := Lib.hid h2
            replace h3 := Lib.hid h3
            replace h4 := Lib.hid h4
            replace h5 := Lib.hid h5
            replace h6 := Lib.hid h6
            replace h7 := Lib.hid h7
            replace h8 := Lib.hid h8
            replace h9 := Lib.hid h9
            replace h11 := Lib.hid h11
            obtain rfl := hm.at0 hi
            go_simp
            exact hK.out _ _ ⟨aA', cA', aB', cB', _, _, _, _, _, _, _, _, _, _, _, by ((simp only [putAll, Act.put, List.setIfInBounds_toArray, List.set_cons_zero, List.set_cons_succ]) <;> rfl), (fun _ => rfl), h1.out, h2.out, h3.out, h4.out, h5.out, h6.out, h7.out, h8.out, h9.out, h11.out, hm.s0⟩
          refine Steps.cons (i := 1) rfl ?_ ?_
          · rintro L a u ⟨aA', cA', aB', cB', x0, x1, x2, x3, x4, x5, x6, x7, x8, x9, x11, rfl, h0, h1, h2, h3, h4, h5, h6, h7, h8, h9, h11, hm⟩ hi hd K hK
            simp only [putAll, Act.put, List.setIfInBounds_toArray, List.set_cons_zero, List.set_cons_succ]
            (try simp [Region.binds] at hd)
            replace h0 := Lib.hid h0
            replace h1 := Lib.hid h1
            replace h2 := Lib.hid h2
            replace h3 := Lib.hid h3
            replace h4 := Lib.hid h4
            replace h5 := Lib.hid h5
            replace h6 := Lib.hid h6
            replace h7 := Lib.hid h7
            replace h8 := Lib.hid h8
            replace h9 := Lib.hid h9
            replace h11 := Lib.hid h11
            go_simp
            exact hK.out _ _ ⟨aA', cA', aB', cB', _, _, _, _, _, _, _, _, _, _, _, by ((simp only [putAll, Act.put, List.setIfInBounds_toArray, List.set_cons_zero, List.set_cons_succ]) <;> rfl), h0.out, (fun _ => rfl), h2.out, h3.out, h4.out, h5.out, h6.out, h7.out, h8.out, h9.out, h11.out, hm⟩
          refine Steps.cons (i := 2) rfl ?_ ?_
          · rintro L a u ⟨aA', cA', aB', cB', x0, x1, x2, x3, x4, x5, x6, x7, x8, x9, x11, rfl, h0, h1, h2, h3, h4, h5, h6, h7, h8, h9, h11, hm⟩ hi hd K hK
            simp only [putAll, Act.put, List.setIfInBounds_toArray, List.set_cons_zero, List.set_cons_succ]
            (try simp [Region.binds] at hd)
            replace h0 := Lib.hid h0
            replace h1 := Lib.hid h1
            replace h2 := Lib.hid h2
            replace h3 := Lib.hid h3
            replace h4 := Lib.hid h4
            replace h5 := Lib.hid h5
            replace h6 := Lib.hid h6
            replace h7 := Lib.hid h7
            replace h8 := Lib.hid h8
            replace h9 := Lib.hid h9
            replace h11 := Lib.hid h11
            go_simp
            exact hK.out _ _ ⟨aA', cA', aB', cB', _, _, _, _, _, _, _, _, _, _, _, by ((simp only [putAll, Act.put, List.setIfInBounds_toArray, List.set_cons_zero, List.set_cons_succ]) <;> rfl), h0.out, h1.out, (fun _ => rfl), h3.out, h4.out, h5.out, h6.out, h7.out, h8.out, h9.out, h11.out, hm⟩
          refine Steps.cons (i := 3) rfl ?_ ?_
          · rintro L a u ⟨aA', cA', aB', cB', x0, x1, x2, x3, x4, x5, x6, x7, x8, x9, x11, rfl, h0, h1, h2, h3, h4, h5, h6, h7, h8, h9, h11, hm⟩ hi hd K hK
            simp only [putAll, Act.put, List.setIfInBounds_toArray, List.set_cons_zero, List.set_cons_succ]
            (try simp [Region.binds] at hd)
            replace h0 := Lib.hid h0
            replace h1 := Lib.hid h1
            replace h2 := Lib.hid h2
            replace h3 := Lib.hid h3
            replace h4 := Lib.hid h4
            replace h5 := Lib.hid h5
            replace h6 := Lib.hid h6
            replace h7 := Lib.hid h7
            replace h8 := Lib.hid h8
            replace h9 := Lib.hid h9
            replace h11 := Lib.hid h11
            obtain rfl := (h1.out (by simp [hd])).symm
            obtain rfl := (h2.out (by simp [hd])).symm
            go_simp
            exact hK.out _ _ ⟨aA', cA', aB', cB', _, _, _, _, _, _, _, _, _, _, _, by ((simp only [putAll, Act.put, List.setIfInBounds_toArray, List.set_cons_zero, List.set_cons_succ]) <;> rfl), h0.out, h1.out, h2.out, (fun _ => rfl), h4.out, h5.out, h6.out, h7.out, h8.out, h9.out, h11.out, hm⟩
          refine Steps.cons (i := 4) rfl ?_ ?_
          · rintro L a u ⟨aA', cA', aB', cB', x0, x1, x2, x3, x4, x5, x6, x7, x8, x9, x11, rfl, h0, h1, h2, h3, h4, h5, h6, h7, h8, h9, h11, hm⟩ hi hd K hK
            simp only [putAll, Act.put, List.setIfInBounds_toArray, List.set_cons_zero, List.set_cons_succ]
            (try simp [Region.binds] at hd)
            replace h0 := Lib.hid h0
            replace h1 := Lib.hid h1
            replace h2 := Lib.hid h2
            replace h3 := Lib.hid h3
            replace h4 := Lib.hid h4
            replace h5 := Lib.hid h5
            replace h6 := Lib.hid h6
            replace h7 := Lib.hid h7
            replace h8 := Lib.hid h8
            replace h9 := Lib.hid h9
            replace h11 := Lib.hid h11
            obtain rfl := (h3.out (by simp [hd])).symm
            go_simp
            exact hK.out _ _ ⟨aA', cA', aB', cB', _, _, _, _, _, _, _, _, _, _, _, by ((simp only [putAll, Act.put, List.setIfInBounds_toArray, List.set_cons_zero, List.set_cons_succ]) <;> rfl), h0.out, h1.out, h2.out, h3.out, (fun _ => rfl), h5.out, h6.out, h7.out, h8.out, h9.out, h11.out, hm⟩
          refine Steps.cons (i := 5) rfl ?_ ?_
          · rintro L a u ⟨aA', cA', aB', cB', x0, x1, x2, x3, x4, x5, x6, x7, x8, x9, x11, rfl, h0, h1, h2, h3, h4, h5, h6, h7, h8, h9, h11, hm⟩ hi hd K hK
            simp only [putAll, Act.put, List.setIfInBounds_toArray, List.set_cons_zero, List.set_cons_succ]
            (try simp [Region.binds] at hd)
            replace h0 := Lib.hid h0
            replace h1 := Lib.hid h1
            replace h2 := Lib.hid h2
            replace h3 := Lib.hid h3
            replace h4 := Lib.hid h4
            replace h5 := Lib.hid h5
            replace h6 := Lib.hid h6
            replace h7 := Lib.hid h7
            replace h8 := Lib.hid h8
            replace h9 := Lib.hid h9
            replace h11 := Lib.hid h11
            obtain rfl := (h4.out (by simp [hd])).symm
            obtain rfl := hm.at5 hi
            go_simp
            exact hK.out _ _ ⟨aA', cA', aB', cB', _, _, _, _, _, _, _, _, _, _, _, by ((simp only [putAll, Act.put, List.setIfInBounds_toArray, List.set_cons_zero, List.set_cons_succ]) <;> rfl), h0.out, h1.out, h2.out, h3.out, h4.out, (fun _ => rfl), h6.out, h7.out, h8.out, h9.out, h11.out, hm.s5⟩
          refine Steps.cons (i := 6) rfl ?_ ?_
          · rintro L a u ⟨aA', cA', aB', cB', x0, x1, x2, x3, x4, x5, x6, x7, x8, x9, x11, rfl, h0, h1, h2, h3, h4, h5, h6, h7, h8, h9, h11, hm⟩ hi hd K hK
            simp only [putAll, Act.put, List.setIfInBounds_toArray, List.set_cons_zero, List.set_cons_succ]
            (try simp [Region.binds] at hd)
            replace h0 := Lib.hid h0
            replace h1 := Lib.hid h1
            replace h2 := Lib.hid h2
            replace h3 := Lib.hid h3
            replace h4 := Lib.hid h4
            replace h5 := Lib.hid h5
            replace h6 := Lib.hid h6
            replace h7 := Lib.hid h7
            replace h8 := Lib.hid h8
            replace h9 := Lib.hid h9
            replace h11 := Lib.hid h11
            obtain rfl := (h0.out (by simp [hd])).symm
            obtain rfl := (h5.out (by simp [hd])).symm
            have hl0 : L 0 = true := by simp [hd]
            have hl5 : L 5 = true := by simp [hd]
            obtain rfl := hm.c0 hi
            go_simp
            refine KD.out.mono ?_
            rintro e u5 ⟨vA2, vB2, rfl, hlg5, hp5, hb5⟩
            obtain ⟨aA2, cA2, rfl⟩ := own_slice hlg5.a
            obtain ⟨aB2, cB2, rfl⟩ := own_slice hlg5.b
            go_wp2_with fail
            exact hK.out _ _ ⟨aA2, cA2, aB2, cB2, _, _, _, _, _, _, _, _, _, _, _, by ((simp only [putAll, Act.put, List.setIfInBounds_toArray, List.set_cons_zero, List.set_cons_succ]) <;> rfl), (fun _ => rfl), h1.out, h2.out, h3.out, h4.out, (fun _ => rfl), (fun _ => rfl), (fun h => absurd (hm.m7 h) (by rw [hi]; decide)), (fun h => absurd (hm.m8 h) (by rw [hi]; decide)), h9.out, h11.out, (hm.did hi hl0 hl5 hlg5 hp5 hb5)⟩
          refine Steps.cons (i := 7) rfl ?_ ?_
          · rintro L a u ⟨aA', cA', aB', cB', x0, x1, x2, x3, x4, x5, x6, x7, x8, x9, x11, rfl, h0, h1, h2, h3, h4, h5, h6, h7, h8, h9, h11, hm⟩ hi hd K hK
            simp only [putAll, Act.put, List.setIfInBounds_toArray, List.set_cons_zero, List.set_cons_succ]
            (try simp [Region.binds] at hd)
            replace h0 := Lib.hid h0
            replace h1 := Lib.hid h1
            replace h2 := Lib.hid h2
            replace h3 := Lib.hid h3
            replace h4 := Lib.hid h4
            replace h5 := Lib.hid h5
            replace h6 := Lib.hid h6
            replace h7 := Lib.hid h7
            replace h8 := Lib.hid h8
            replace h9 := Lib.hid h9
            replace h11 := Lib.hid h11
            obtain rfl := (h6.out (by simp [hd])).symm
            go_simp
            exact hK.out _ _ ⟨aA', cA', aB', cB', _, _, _, _, _, _, _, _, _, _, _, by ((simp only [putAll, Act.put, List.setIfInBounds_toArray, List.set_cons_zero, List.set_cons_succ]) <;> rfl), h0.out, h1.out, h2.out, h3.out, h4.out, h5.out, h6.out, (fun _ => rfl), h8.out, h9.out, h11.out, (hm.s7 (by simp [hd]))⟩
          refine Steps.cons (i := 8) rfl ?_ ?_
          · rintro L a u ⟨aA', cA', aB', cB', x0, x1, x2, x3, x4, x5, x6, x7, x8, x9, x11, rfl, h0, h1, h2, h3, h4, h5, h6, h7, h8, h9, h11, hm⟩ hi hd K hK
            simp only [putAll, Act.put, List.setIfInBounds_toArray, List.set_cons_zero, List.set_cons_succ]
            (try simp [Region.binds] at hd)
            replace h0 := Lib.hid h0
            replace h1 := Lib.hid h1
            replace h2 := Lib.hid h2
            replace h3 := Lib.hid h3
            replace h4 := Lib.hid h4
            replace h5 := Lib.hid h5
            replace h6 := Lib.hid h6
            replace h7 := Lib.hid h7
            replace h8 := Lib.hid h8
            replace h9 := Lib.hid h9
            replace h11 := Lib.hid h11
            obtain rfl := (h7.out (by simp [hd])).symm
            go_simp
            exact hK.out _ _ ⟨aA', cA', aB', cB', _, _, _, _, _, _, _, _, _, _, _, by ((simp only [putAll, Act.put, List.setIfInBounds_toArray, List.set_cons_zero, List.set_cons_succ]) <;> rfl), h0.out, h1.out, h2.out, h3.out, h4.out, h5.out, h6.out, h7.out, (fun _ => rfl), h9.out, h11.out, (hm.s8 (by simp [hd]))⟩
          refine Steps.cons (i := 9) rfl ?_ ?_
          · rintro L a u ⟨aA', cA', aB', cB', x0, x1, x2, x3, x4, x5, x6, x7, x8, x9, x11, rfl, h0, h1, h2, h3, h4, h5, h6, h7, h8, h9, h11, hm⟩ hi hd K hK
            simp only [putAll, Act.put, List.setIfInBounds_toArray, List.set_cons_zero, List.set_cons_succ]
            (try simp [Region.binds] at hd)
            replace h0 := Lib.hid h0
            replace h1 := Lib.hid h1
            replace h2 := Lib.hid h2
            replace h3 := Lib.hid h3
            replace h4 := Lib.hid h4
            replace h5 := Lib.hid h5
            replace h6 := Lib.hid h6
            replace h7 := Lib.hid h7
            replace h8 := Lib.hid h8
            replace h9 := Lib.hid h9
            replace h11 := Lib.hid h11
            obtain rfl := (h7.out (by simp [hd])).symm
            go_simp
            exact hK.out _ _ ⟨aA', cA', aB', cB', _, _, _, _, _, _, _, _, _, _, _, by ((simp only [putAll, Act.put, List.setIfInBounds_toArray, List.set_cons_zero, List.set_cons_succ]) <;> rfl), h0.out, h1.out, h2.out, h3.out, h4.out, h5.out, h6.out, h7.out, h8.out, (fun _ => rfl), h11.out, hm⟩
          refine Steps.cons (i := 10) rfl ?_ ?_
          · rintro L a u ⟨aA', cA', aB', cB', x0, x1, x2, x3, x4, x5, x6, x7, x8, x9, x11, rfl, h0, h1, h2, h3, h4, h5, h6, h7, h8, h9, h11, hm⟩ hi hd K hK
            simp only [putAll, Act.put, List.setIfInBounds_toArray, List.set_cons_zero, List.set_cons_succ]
            (try simp [Region.binds] at hd)
            replace h0 := Lib.hid h0
            replace h1 := Lib.hid h1
            replace h2 := Lib.hid h2
            replace h3 := Lib.hid h3
            replace h4 := Lib.hid h4
            replace h5 := Lib.hid h5
            replace h6 := Lib.hid h6
            replace h7 := Lib.hid h7
            replace h8 := Lib.hid h8
            replace h9 := Lib.hid h9
            replace h11 := Lib.hid h11
            obtain rfl := (h8.out (by simp [hd])).symm
            have hl8 : L 8 = true := by simp [hd]
            have hbu := hm.bel hl8 hi
            have hrw := HQW.out u hbu
            have o0 : u.cell? ⟨qb, 0, none⟩ = some (.slice aA n2 cA) := hrw.cell 0
            have o1 : u.cell? ⟨qb, 1, none⟩ = some (.slice aB n2 cB) := hrw.cell 1
            have f0 := hrw.frozen 0
            have f1 := hrw.frozen 1
            clear hrw
            go_simp
            exact hK.out _ _ ⟨aA', cA', aB', cB', _, _, _, _, _, _, _, _, _, _, _, by ((simp only [putAll, Act.put, List.setIfInBounds_toArray, List.set_cons_zero, List.set_cons_succ]) <;> rfl), h0.out, h1.out, h2.out, h3.out, h4.out, h5.out, h6.out, h7.out, h8.out, h9.out, h11.out, (hm.store hl8 hi)⟩
          refine Steps.cons (i := 11) rfl ?_ ?_
          · rintro L a u ⟨aA', cA', aB', cB', x0, x1, x2, x3, x4, x5, x6, x7, x8, x9, x11, rfl, h0, h1, h2, h3, h4, h5, h6, h7, h8, h9, h11, hm⟩ hi hd K hK
            simp only [putAll, Act.put, List.setIfInBounds_toArray, List.set_cons_zero, List.set_cons_succ]
            (try simp [Region.binds] at hd)
            replace h0 := Lib.hid h0
            replace h1 := Lib.hid h1
            replace h2 := Lib.hid h2
            replace h3 := Lib.hid h3
            replace h4 := Lib.hid h4
            replace h5 := Lib.hid h5
            replace h6 := Lib.hid h6
            replace h7 := Lib.hid h7
            replace h8 := Lib.hid h8
            replace h9 := Lib.hid h9
            replace h11 := Lib.hid h11
            obtain rfl := (h9.out (by simp [hd])).symm
            go_simp
            exact hK.out _ _ ⟨aA', cA', aB', cB', _, _, _, _, _, _, _, _, _, _, _, by ((simp only [putAll, Act.put, List.setIfInBounds_toArray, List.set_cons_zero, List.set_cons_succ]) <;> rfl), h0.out, h1.out, h2.out, h3.out, h4.out, h5.out, h6.out, h7.out, h8.out, h9.out, (fun _ => rfl), hm⟩
          · exact Steps.nil
          · rintro L a u ⟨aA', cA', aB', cB', x0, x1, x2, x3, x4, x5, x6, x7, x8, x9, x11, rfl, h0, h1, h2, h3, h4, h5, h6, h7, h8, h9, h11, hm⟩ hall
            obtain rfl := (h11 (hall 11 (by decide))).symm
            simp only [putAll, Act.put, List.setIfInBounds_toArray, List.set_cons_zero, List.set_cons_succ]
            have HM := Lib.hid (hm.end' (hall 10 (by decide)))
            clear hm
            obtain ⟨w2', hb2, hlg2, hp2, rfl⟩ := HM.out
            have HQ3 := Lib.hid (TD.out.q.doc hb2 hlg2 hp2)
            generalize (w2'.setCell ⟨qb, 0, none⟩ (.slice aA' LA.length cA')).setCell ⟨qb, 1, none⟩ (.slice aB' LB.length cB') = w3 at HQ3 ⊢
            clear hb2 hlg2 hp2 HM c1 q0 q1
            have c1 := (HC1.out _ HQ3.out.b).1
            have HGD := Lib.hid TT.out.gd
            have HPP := Lib.hid TT.out.p
            obtain ⟨C, hC⟩ : ∃ C, C = commitW M x l := ⟨_, rfl⟩
            have KC := Lib.hid (HQ3.out.code (f := 11) (s := .slice sl l.length cl) (C := C) (fun U ht => by rw [hC]; exact commit_c ht HGD.out.wf HSL.out cl (HC1.out _ HQ3.out.b).2))
            rw [← hC] at HBO
            rw [HBO.out.z] at KC
            obtain ⟨M4, x4, zz⟩ := C
            clear hC
            go_wp2_with fail
            refine KC.out.mono ?_
            rintro e w4 ⟨rfl, hq4⟩
            obtain ⟨L4, hg4⟩ := HBO.out.g
            have T4 : Hid (Wt w n g qb w4 b r0 r1 (.slice aA' LA.length cA') (.slice aB' LB.length cB') x4 M4 LA LB L4) := ⟨hq4, hg4, HBO.out.p.elim id fun e => by have e : x4 = x := e; rw [e]; exact HPP.out⟩
            clear hq4 hg4 KC HQ3 HBO HGD HPP TD TT HQW KD W1D
            go_wp2_with fail
            go_meet
            exact ⟨_, _, _, _, _, _, _, _, _, _, rfl, T4⟩
        · go_upto_region 19 with (fail)
          clear c0 h5
          have W1D : Hid (Below wr.heap.size wr wr.drew) := (Below.refl _ _).drew
          have TD : Hid (Wt w n g qb wr.drew b r0 r1 (.slice aA n2 cA) (.slice aB n2 cB) x M QA QB LL) := ⟨TT.out.q.later W1D.out, TT.out.gd, TT.out.p⟩
          have c1 := (HC1.out _ TT.out.q.b).1
          have hst := (HC1.out _ TD.out.q.b).2
          have HBO := Lib.hid (both_save TT.out.gd HSL.out)
          have KD0 : Hid (Calls Tryz.prog 12 #[.agg #[.slice aA n2 cA, .slice aB n2 cB], .slice sl l.length cl] wr.drew (RlRes w.heap.size (fun j => (Value.slice aA n2 cA).ownBlock = some j ∨ (Value.slice aB n2 cB).ownBlock = some j) (docPut QA QB (!decide (M.R0.S.first < M.R1.S.first) && decide (0 < (lgS M.R0.S M.R1.S).first)) 0 l).1 (docPut QA QB (!decide (M.R0.S.first < M.R1.S.first) && decide (0 < (lgS M.R0.S M.R1.S).first)) 0 l).2.1 (docPut QA QB (!decide (M.R0.S.first < M.R1.S.first) && decide (0 < (lgS M.R0.S M.R1.S).first)) 0 l).2.2 wr.drew)) := rsave_d TD.out.q.lg TD.out.gd.rd TD.out.q.b.size (fun j hj => hj) HSL.out cl hst
          obtain ⟨LA, LB, z, hdoc⟩ : ∃ LA LB z, (docPut QA QB (!decide (M.R0.S.first < M.R1.S.first) && decide (0 < (lgS M.R0.S M.R1.S).first)) 0 l) = (LA, LB, z) := ⟨_, _, _, rfl⟩
          rw [hdoc] at KD0 HBO
          have KD : Hid (Calls Tryz.prog 12 #[.agg #[.slice aA n2 cA, .slice aB n2 cB], .slice sl l.length cl] wr.drew (RlRes w.heap.size (fun j => (Value.slice aA n2 cA).ownBlock = some j ∨ (Value.slice aB n2 cB).ownBlock = some j) LA LB z wr.drew)) := KD0.out
          have HQW : Hid (∀ u, Below wr.drew.heap.size wr.drew u → Rw u qb TLg [.slice aA n2 cA, .slice aB n2 cB]) := fun u hu => TD.out.q.q.later hu
          have q0 : wr.cell? ⟨qb, 0, none⟩ = some (.slice aA n2 cA) := TT.out.q.q.cell 0
          have q1 : wr.cell? ⟨qb, 1, none⟩ = some (.slice aB n2 cB) := TT.out.q.q.cell 1
          clear hdoc KD0 hst
          refine wp_region_inv (I := (fun A0 L a u => ∃ (aA' : Option Addr) (cA' : Nat) (aB' : Option Addr) (cB' : Nat) (x0 x1 x2 x3 x4 x5 x6 x7 x8 x9 x11 : Value), a = putAll A0 [(88, x0), (89, x1), (90, x2), (91, x3), (92, x4), (93, x5), (94, x6), (87, x7), (95, x8), (96, x9), (12, x11)] ∧ (L 0 = true → x0 = (.agg #[.slice aA n2 cA, .slice aB n2 cB])) ∧ (L 1 = true → x1 = (.slice (some ⟨ab, ao, Option.none⟩) A.length cap)) ∧ (L 2 = true → x2 = (.int .i64 (i : Int))) ∧ (L 3 = true → x3 = (.pointer (some ⟨ab, ao + i * 6, Option.none⟩))) ∧ (L 4 = true → x4 = (.pointer (some ⟨ab, ao + i * 6 + 1, Option.none⟩))) ∧ (L 5 = true → x5 = (.slice sl l.length cl)) ∧ (L 6 = true → x6 = (.tuple #[.agg #[.slice aA' (LA).length cA', .slice aB' (LB).length cB'], .int .i64 z])) ∧ (L 7 = true → x7 = (.tuple #[.agg #[.slice aA' (LA).length cA', .slice aB' (LB).length cB'], .int .i64 z])) ∧ (L 8 = true → x8 = (.agg #[.slice aA' (LA).length cA', .slice aB' (LB).length cB'])) ∧ (L 9 = true → x9 = (.int .i64 z)) ∧ (L 11 = true → x11 = (.int .i64 z)) ∧ Dq wr.drew w.heap.size qb (.slice aA n2 cA) (.slice aB n2 cB) LA LB (L 0) (L 5) (L 6) (L 7) (L 8) (L 10) (.slice aA' (LA).length cA') (.slice aB' (LB).length cB') u)) (by kernel_rfl) (by kernel_rfl) ?_ ?_ ?_
          · intro L hL
            exact ⟨none, 0, none, 0, _, _, _, _, _, _, _, _, _, _, _, by (simp only [putAll, Act.put, List.setIfInBounds_toArray, List.set_cons_zero, List.set_cons_succ]; rfl), (fun h => absurd h (by rw [hL 0 (by decide)]; decide)), (fun h => absurd h (by rw [hL 1 (by decide)]; decide)), (fun h => absurd h (by rw [hL 2 (by decide)]; decide)), (fun h => absurd h (by rw [hL 3 (by decide)]; decide)), (fun h => absurd h (by rw [hL 4 (by decide)]; decide)), (fun h => absurd h (by rw [hL 5 (by decide)]; decide)), (fun h => absurd h (by rw [hL 6 (by decide)]; decide)), (fun h => absurd h (by rw [hL 7 (by decide)]; decide)), (fun h => absurd h (by rw [hL 8 (by decide)]; decide)), (fun h => absurd h (by rw [hL 9 (by decide)]; decide)), (fun h => absurd h (by rw [hL 11 (by decide)]; decide)), by rw [hL 0 (by decide), hL 5 (by decide), hL 6 (by decide), hL 7 (by decide), hL 8 (by decide), hL 10 (by decide)]; exact Dq.start⟩
          refine Steps.cons (i := 0) rfl ?_ ?_
          · rintro L a u ⟨aA', cA', aB', cB', x0, x1, x2, x3, x4, x5, x6, x7, x8, x9, x11, rfl, h0, h1, h2, h3, h4, h5, h6, h7, h8, h9, h11, hm⟩ hi hd K hK
            simp only [putAll, Act.put, List.setIfInBounds_toArray, List.set_cons_zero, List.set_cons_succ]
            (try simp [Region.binds] at hd)
            replace h0 := Lib.hid h0
            replace h1 := Lib.hid h1
            replace h2 := Lib.hid h2
            replace h3 := Lib.hid h3
            replace h4 := Lib.hid h4
            replace h5 := Lib.hid h5
            replace h6 := Lib.hid h6
            replace h7 := Lib.hid h7
            replace h8 := Lib.hid h8
            replace h9 := Lib.hid h9
            replace h11 := Lib.hid h11
            obtain rfl := hm.at0 hi
            go_simp
            exact hK.out _ _ ⟨aA', cA', aB', cB', _, _, _, _, _, _, _, _, _, _, _, by ((simp only [putAll, Act.put, List.setIfInBounds_toArray, List.set_cons_zero, List.set_cons_succ]) <;> rfl), (fun _ => rfl), h1.out, h2.out, h3.out, h4.out, h5.out, h6.out, h7.out, h8.out, h9.out, h11.out, hm.s0⟩
          refine Steps.cons (i := 1) rfl ?_ ?_
          · rintro L a u ⟨aA', cA', aB', cB', x0, x1, x2, x3, x4, x5, x6, x7, x8, x9, x11, rfl, h0, h1, h2, h3, h4, h5, h6, h7, h8, h9, h11, hm⟩ hi hd K hK
            simp only [putAll, Act.put, List.setIfInBounds_toArray, List.set_cons_zero, List.set_cons_succ]
            (try simp [Region.binds] at hd)
            replace h0 := Lib.hid h0
            replace h1 := Lib.hid h1
            replace h2 := Lib.hid h2
            replace h3 := Lib.hid h3
            replace h4 := Lib.hid h4
            replace h5 := Lib.hid h5
            replace h6 := Lib.hid h6
            replace h7 := Lib.hid h7
            replace h8 := Lib.hid h8
            replace h9 := Lib.hid h9
            replace h11 := Lib.hid h11
            go_simp
            exact hK.out _ _ ⟨aA', cA', aB', cB', _, _, _, _, _, _, _, _, _, _, _, by ((simp only [putAll, Act.put, List.setIfInBounds_toArray, List.set_cons_zero, List.set_cons_succ]) <;> rfl), h0.out, (fun _ => rfl), h2.out, h3.out, h4.out, h5.out, h6.out, h7.out, h8.out, h9.out, h11.out, hm⟩
          refine Steps.cons (i := 2) rfl ?_ ?_
          · rintro L a u ⟨aA', cA', aB', cB', x0, x1, x2, x3, x4, x5, x6, x7, x8, x9, x11, rfl, h0, h1, h2, h3, h4, h5, h6, h7, h8, h9, h11, hm⟩ hi hd K hK
            simp only [putAll, Act.put, List.setIfInBounds_toArray, List.set_cons_zero, List.set_cons_succ]
            (try simp [Region.binds] at hd)
            replace h0 := Lib.hid h0
            replace h1 := Lib.hid h1
            replace h2 := Lib.hid h2
            replace h3 := Lib.hid h3
            replace h4 := Lib.hid h4
            replace h5 := Lib.hid h5
            replace h6 := Lib.hid h6
            replace h7 := Lib.hid h7
            replace h8 := Lib.hid h8
            replace h9 := Lib.hid h9
            replace h11 := Lib.hid h11
            go_simp
            exact hK.out _ _ ⟨aA', cA', aB', cB', _, _, _, _, _, _, _, _, _, _, _, by ((simp only [putAll, Act.put, List.setIfInBounds_toArray, List.set_cons_zero, List.set_cons_succ]) <;> rfl), h0.out, h1.out, (fun _ => rfl), h3.out, h4.out, h5.out, h6.out, h7.out, h8.out, h9.out, h11.out, hm⟩
          refine Steps.cons (i := 3) rfl ?_ ?_
          · rintro L a u ⟨aA', cA', aB', cB', x0, x1, x2, x3, x4, x5, x6, x7, x8, x9, x11, rfl, h0, h1, h2, h3, h4, h5, h6, h7, h8, h9, h11, hm⟩ hi hd K hK
            simp only [putAll, Act.put, List.setIfInBounds_toArray, List.set_cons_zero, List.set_cons_succ]
            (try simp [Region.binds] at hd)
            replace h0 := Lib.hid h0
            replace h1 := Lib.hid h1
            replace h2 := Lib.hid h2
            replace h3 := Lib.hid h3
            replace h4 := Lib.hid h4
            replace h5 := Lib.hid h5
            replace h6 := Lib.hid h6
            replace h7 := Lib.hid h7
            replace h8 := Lib.hid h8
            replace h9 := Lib.hid h9
            replace h11 := Lib.hid h11
            obtain rfl := (h1.out (by simp [hd])).symm
            obtain rfl := (h2.out (by simp [hd])).symm
            go_simp
            exact hK.out _ _ ⟨aA', cA', aB', cB', _, _, _, _, _, _, _, _, _, _, _, by ((simp only [putAll, Act.put, List.setIfInBounds_toArray, List.set_cons_zero, List.set_cons_succ]) <;> rfl), h0.out, h1.out, h2.out, (fun _ => rfl), h4.out, h5.out, h6.out, h7.out, h8.out, h9.out, h11.out, hm⟩
          refine Steps.cons (i := 4) rfl ?_ ?_
          · rintro L a u ⟨aA', cA', aB', cB', x0, x1, x2, x3, x4, x5, x6, x7, x8, x9, x11, rfl, h0, h1, h2, h3, h4, h5, h6, h7, h8, h9, h11, hm⟩ hi hd K hK
            simp only [putAll, Act.put, List.setIfInBounds_toArray, List.set_cons_zero, List.set_cons_succ]
            (try simp [Region.binds] at hd)
            replace h0 := Lib.hid h0
            replace h1 := Lib.hid h1
            replace h2 := Lib.hid h2
            replace h3 := Lib.hid h3
            replace h4 := Lib.hid h4
            replace h5 := Lib.hid h5
            replace h6 := Lib.hid h6
            replace h7 := Lib.hid h7
            replace h8 := Lib.hid h8
            replace h9 := Lib.hid h9
            replace h11 := Lib.hid h11
            obtain rfl := (h3.out (by simp [hd])).symm
            go_simp
            exact hK.out _ _ ⟨aA', cA', aB', cB', _, _, _, _, _, _, _, _, _, _, _, by ((simp only [putAll, Act.put, List.setIfInBounds_toArray, List.set_cons_zero, List.set_cons_succ]) <;> rfl), h0.out, h1.out, h2.out, h3.out, (fun _ => rfl), h5.out, h6.out, h7.out, h8.out, h9.out, h11.out, hm⟩
          refine Steps.cons (i := 5) rfl ?_ ?_
          · rintro L a u ⟨aA', cA', aB', cB', x0, x1, x2, x3, x4, x5, x6, x7, x8, x9, x11, rfl, h0, h1, h2, h3, h4, h5, h6, h7, h8, h9, h11, hm⟩ hi hd K hK
            simp only [putAll, Act.put, List.setIfInBounds_toArray, List.set_cons_zero, List.set_cons_succ]
            (try simp [Region.binds] at hd)
            replace h0 := Lib.hid h0
            replace h1 := Lib.hid h1
            replace h2 := Lib.hid h2
            replace h3 := Lib.hid h3
            replace h4 := Lib.hid h4
            replace h5 := Lib.hid h5
            replace h6 := Lib.hid h6
            replace h7 := Lib.hid h7
            replace h8 := Lib.hid h8
            replace h9 := Lib.hid h9
            replace h11 := Lib.hid h11
            obtain rfl := (h4.out (by simp [hd])).symm
            obtain rfl := hm.at5 hi
            go_simp
            exact hK.out _ _ ⟨aA', cA', aB', cB', _, _, _, _, _, _, _, _, _, _, _, by ((simp only [putAll, Act.put, List.setIfInBounds_toArray, List.set_cons_zero, List.set_cons_succ]) <;> rfl), h0.out, h1.out, h2.out, h3.out, h4.out, (fun _ => rfl), h6.out, h7.out, h8.out, h9.out, h11.out, hm.s5⟩
          refine Steps.cons (i := 6) rfl ?_ ?_
          · rintro L a u ⟨aA', cA', aB', cB', x0, x1, x2, x3, x4, x5, x6, x7, x8, x9, x11, rfl, h0, h1, h2, h3, h4, h5, h6, h7, h8, h9, h11, hm⟩ hi hd K hK
            simp only [putAll, Act.put, List.setIfInBounds_toArray, List.set_cons_zero, List.set_cons_succ]
            (try simp [Region.binds] at hd)
            replace h0 := Lib.hid h0
            replace h1 := Lib.hid h1
            replace h2 := Lib.hid h2
            replace h3 := Lib.hid h3
            replace h4 := Lib.hid h4
            replace h5 := Lib.hid h5
            replace h6 := Lib.hid h6
            replace h7 := Lib.hid h7
            replace h8 := Lib.hid h8
            replace h9 := Lib.hid h9
            replace h11 := Lib.hid h11
            obtain rfl := (h0.out (by simp [hd])).symm
            obtain rfl := (h5.out (by simp [hd])).symm
            have hl0 : L 0 = true := by simp [hd]
            have hl5 : L 5 = true := by simp [hd]
            obtain rfl := hm.c0 hi
            go_simp
            refine KD.out.mono ?_
            rintro e u5 ⟨vA2, vB2, rfl, hlg5, hp5, hb5⟩
            obtain ⟨aA2, cA2, rfl⟩ := own_slice hlg5.a
            obtain ⟨aB2, cB2, rfl⟩ := own_slice hlg5.b
            go_wp2_with fail
            exact hK.out _ _ ⟨aA2, cA2, aB2, cB2, _, _, _, _, _, _, _, _, _, _, _, by ((simp only [putAll, Act.put, List.setIfInBounds_toArray, List.set_cons_zero, List.set_cons_succ]) <;> rfl), (fun _ => rfl), h1.out, h2.out, h3.out, h4.out, (fun _ => rfl), (fun _ => rfl), (fun h => absurd (hm.m7 h) (by rw [hi]; decide)), (fun h => absurd (hm.m8 h) (by rw [hi]; decide)), h9.out, h11.out, (hm.did hi hl0 hl5 hlg5 hp5 hb5)⟩
          refine Steps.cons (i := 7) rfl ?_ ?_
          · rintro L a u ⟨aA', cA', aB', cB', x0, x1, x2, x3, x4, x5, x6, x7, x8, x9, x11, rfl, h0, h1, h2, h3, h4, h5, h6, h7, h8, h9, h11, hm⟩ hi hd K hK
            simp only [putAll, Act.put, List.setIfInBounds_toArray, List.set_cons_zero, List.set_cons_succ]
            (try simp [Region.binds] at hd)
            replace h0 := Lib.hid h0
            replace h1 := Lib.hid h1
            replace h2 := Lib.hid h2
            replace h3 := Lib.hid h3
            replace h4 := Lib.hid h4
            replace h5 := Lib.hid h5
            replace h6 := Lib.hid h6
            replace h7 := Lib.hid h7
            replace h8 := Lib.hid h8
            replace h9 := Lib.hid h9
            replace h11 := Lib.hid h11
            obtain rfl := (h6.out (by simp [hd])).symm
            go_simp
            exact hK.out _ _ ⟨aA', cA', aB', cB', _, _, _, _, _, _, _, _, _, _, _, by ((simp only [putAll, Act.put, List.setIfInBounds_toArray, List.set_cons_zero, List.set_cons_succ]) <;> rfl), h0.out, h1.out, h2.out, h3.out, h4.out, h5.out, h6.out, (fun _ => rfl), h8.out, h9.out, h11.out, (hm.s7 (by simp [hd]))⟩
          refine Steps.cons (i := 8) rfl ?_ ?_
          · rintro L a u ⟨aA', cA', aB', cB', x0, x1, x2, x3, x4, x5, x6, x7, x8, x9, x11, rfl, h0, h1, h2, h3, h4, h5, h6, h7, h8, h9, h11, hm⟩ hi hd K hK
            simp only [putAll, Act.put, List.setIfInBounds_toArray, List.set_cons_zero, List.set_cons_succ]
            (try simp [Region.binds] at hd)
            replace h0 := Lib.hid h0
            replace h1 := Lib.hid h1
            replace h2 := Lib.hid h2
            replace h3 := Lib.hid h3
            replace h4 := Lib.hid h4
            replace h5 := Lib.hid h5
            replace h6 := Lib.hid h6
            replace h7 := Lib.hid h7
            replace h8 := Lib.hid h8
            replace h9 := Lib.hid h9
            replace h11 := Lib.hid h11
            obtain rfl := (h7.out (by simp [hd])).symm
            go_simp
            exact hK.out _ _ ⟨aA', cA', aB', cB', _, _, _, _, _, _, _, _, _, _, _, by ((simp only [putAll, Act.put, List.setIfInBounds_toArray, List.set_cons_zero, List.set_cons_succ]) <;> rfl), h0.out, h1.out, h2.out, h3.out, h4.out, h5.out, h6.out, h7.out, (fun _ => rfl), h9.out, h11.out, (hm.s8 (by simp [hd]))⟩
          refine Steps.cons (i := 9) rfl ?_ ?_
          · rintro L a u ⟨aA', cA', aB', cB', x0, x1, x2, x3, x4, x5, x6, x7, x8, x9, x11, rfl, h0, h1, h2, h3, h4, h5, h6, h7, h8, h9, h11, hm⟩ hi hd K hK
            simp only [putAll, Act.put, List.setIfInBounds_toArray, List.set_cons_zero, List.set_cons_succ]
            (try simp [Region.binds] at hd)
            replace h0 := Lib.hid h0
            replace h1 := Lib.hid h1
            replace h2 := Lib.hid h2
            replace h3 := Lib.hid h3
            replace h4 := Lib.hid h4
            replace h5 := Lib.hid h5
            replace h6 := Lib.hid h6
            replace h7 := Lib.hid h7
            replace h8 := Lib.hid h8
            replace h9 := Lib.hid h9
            replace h11 := Lib.hid h11
            obtain rfl := (h7.out (by simp [hd])).symm
            go_simp
            exact hK.out _ _ ⟨aA', cA', aB', cB', _, _, _, _, _, _, _, _, _, _, _, by ((simp only [putAll, Act.put, List.setIfInBounds_toArray, List.set_cons_zero, List.set_cons_succ]) <;> rfl), h0.out, h1.out, h2.out, h3.out, h4.out, h5.out, h6.out, h7.out, h8.out, (fun _ => rfl), h11.out, hm⟩
          refine Steps.cons (i := 10) rfl ?_ ?_
          · rintro L a u ⟨aA', cA', aB', cB', x0, x1, x2, x3, x4, x5, x6, x7, x8, x9, x11, rfl, h0, h1, h2, h3, h4, h5, h6, h7, h8, h9, h11, hm⟩ hi hd K hK
            simp only [putAll, Act.put, List.setIfInBounds_toArray, List.set_cons_zero, List.set_cons_succ]
            (try simp [Region.binds] at hd)
            replace h0 := Lib.hid h0
            replace h1 := Lib.hid h1
            replace h2 := Lib.hid h2
            replace h3 := Lib.hid h3
            replace h4 := Lib.hid h4
            replace h5 := Lib.hid h5
            replace h6 := Lib.hid h6
            replace h7 := Lib.hid h7
            replace h8 := Lib.hid h8
            replace h9 := Lib.hid h9
            replace h11 := Lib.hid h11
            obtain rfl := (h8.out (by simp [hd])).symm
            have hl8 : L 8 = true := by simp [hd]
            have hbu := hm.bel hl8 hi
            have hrw := HQW.out u hbu
            have o0 : u.cell? ⟨qb, 0, none⟩ = some (.slice aA n2 cA) := hrw.cell 0
            have o1 : u.cell? ⟨qb, 1, none⟩ = some (.slice aB n2 cB) := hrw.cell 1
            have f0 := hrw.frozen 0
            have f1 := hrw.frozen 1
            clear hrw
            go_simp
            exact hK.out _ _ ⟨aA', cA', aB', cB', _, _, _, _, _, _, _, _, _, _, _, by ((simp only [putAll, Act.put, List.setIfInBounds_toArray, List.set_cons_zero, List.set_cons_succ]) <;> rfl), h0.out, h1.out, h2.out, h3.out, h4.out, h5.out, h6.out, h7.out, h8.out, h9.out, h11.out, (hm.store hl8 hi)⟩
          refine Steps.cons (i := 11) rfl ?_ ?_
          · rintro L a u ⟨aA', cA', aB', cB', x0, x1, x2, x3, x4, x5, x6, x7, x8, x9, x11, rfl, h0, h1, h2, h3, h4, h5, h6, h7, h8, h9, h11, hm⟩ hi hd K hK
            simp only [putAll, Act.put, List.setIfInBounds_toArray, List.set_cons_zero, List.set_cons_succ]
            (try simp [Region.binds] at hd)
            replace h0 := Lib.hid h0
            replace h1 := Lib.hid h1
            replace h2 := Lib.hid h2
            replace h3 := Lib.hid h3
            replace h4 := Lib.hid h4
            replace h5 := Lib.hid h5
            replace h6 := Lib.hid h6
            replace h7 := Lib.hid h7
            replace h8 := Lib.hid h8
            replace h9 := Lib.hid h9
            replace h11 := Lib.hid h11
            obtain rfl := (h9.out (by simp [hd])).symm
            go_simp
            exact hK.out _ _ ⟨aA', cA', aB', cB', _, _, _, _, _, _, _, _, _, _, _, by ((simp only [putAll, Act.put, List.setIfInBounds_toArray, List.set_cons_zero, List.set_cons_succ]) <;> rfl), h0.out, h1.out, h2.out, h3.out, h4.out, h5.out, h6.out, h7.out, h8.out, h9.out, (fun _ => rfl), hm⟩
          · exact Steps.nil
          · rintro L a u ⟨aA', cA', aB', cB', x0, x1, x2, x3, x4, x5, x6, x7, x8, x9, x11, rfl, h0, h1, h2, h3, h4, h5, h6, h7, h8, h9, h11, hm⟩ hall
            obtain rfl := (h11 (hall 11 (by decide))).symm
            simp only [putAll, Act.put, List.setIfInBounds_toArray, List.set_cons_zero, List.set_cons_succ]
            have HM := Lib.hid (hm.end' (hall 10 (by decide)))
            clear hm
            obtain ⟨w2', hb2, hlg2, hp2, rfl⟩ := HM.out
            have HQ3 := Lib.hid (TD.out.q.doc hb2 hlg2 hp2)
            generalize (w2'.setCell ⟨qb, 0, none⟩ (.slice aA' LA.length cA')).setCell ⟨qb, 1, none⟩ (.slice aB' LB.length cB') = w3 at HQ3 ⊢
            clear hb2 hlg2 hp2 HM c1 q0 q1
            have c1 := (HC1.out _ HQ3.out.b).1
            have HGD := Lib.hid TT.out.gd
            have HPP := Lib.hid TT.out.p
            obtain ⟨C, hC⟩ : ∃ C, C = saveW M x l := ⟨_, rfl⟩
            have KC := Lib.hid (HQ3.out.code (f := 13) (s := .slice sl l.length cl) (C := C) (fun U ht => by rw [hC]; exact save_c ht HGD.out.wf HSL.out cl (HC1.out _ HQ3.out.b).2))
            rw [← hC] at HBO
            rw [HBO.out.z] at KC
            obtain ⟨M4, x4, zz⟩ := C
            clear hC
            go_wp2_with fail
            refine KC.out.mono ?_
            rintro e w4 ⟨rfl, hq4⟩
            obtain ⟨L4, hg4⟩ := HBO.out.g
            have T4 : Hid (Wt w n g qb w4 b r0 r1 (.slice aA' LA.length cA') (.slice aB' LB.length cB') x4 M4 LA LB L4) := ⟨hq4, hg4, HBO.out.p.elim id fun e => by have e : x4 = x := e; rw [e]; exact HPP.out⟩
            clear hq4 hg4 KC HQ3 HBO HGD HPP TD TT HQW KD W1D
            go_wp2_with fail
            go_meet
            exact ⟨_, _, _, _, _, _, _, _, _, _, rfl, T4⟩
        · have KO4 := Lib.hid (TT.out.q.open TT.out.gd)
          have HGD : Hid (Gd n x (openW x (n / 2) M.R0.S M.R1.S) QA QB LL) := TT.out.gd.again
          have HPP := Lib.hid TT.out.p
          go_wp2_with fail
          refine KO4.out.mono ?_
          rintro e w4 ⟨b', r0', r1', rfl, hq4⟩
          have T4 : Hid (Wt w n g qb w4 b' r0' r1' _ _ x (openW x (n / 2) M.R0.S M.R1.S) QA QB LL) := ⟨hq4, HGD.out, HPP.out⟩
          clear hq4 KO4 c0 h5
          go_wp2_with fail
          go_meet
          exact ⟨_, _, _, _, _, _, _, _, _, _, rfl, T4⟩
      · have KH : Hid (Calls Tryz.prog 8 #[] wr fun e w' => e = .returned (.bool true) ∧ Below wr.heap.size wr w') := head_c wr
        have HBW : Hid (Below w.heap.size w wr) := TT.out.q.b
        have hend : ¬ (i : Int) < (A.length : Int) := by omega
        clear hkx hlt hi
        go_wp2_with fail
        refine KH.out.mono ?_
        rintro e w3 ⟨rfl, hb⟩
        have HB3 : Hid (Below w.heap.size w w3) := HBW.out.trans (hb.mono HBW.out.size)
        clear hb
        go_wp2_with fail
        go_ret
        exact ⟨rfl, HB3.out⟩
end Go.Proofs.YtbbnpcldplmgfaaGreatDoor.Wl
