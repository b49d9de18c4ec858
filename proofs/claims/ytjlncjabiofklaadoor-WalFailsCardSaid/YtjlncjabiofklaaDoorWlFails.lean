/- WalFails: the law. -/
import Derived.Test.YtjlncjabiofklaaDoorWjG
import Derived.Deep.RegionHeld3
import Derived.Deep.DeepCutAuto
namespace Go.Proofs.YtjlncjabiofklaaDoor.Wl
open Go Go.RowKit Dv Rf Shf Rk
open Tal (Strs bas)
set_option maxRecDepth 100000 in
set_option maxHeartbeats 25600000 in
theorem fails_law (sc : Int) (a : Option Addr) (cap : Nat) (A : List Ac) (w : World) (hsc : 0 ≤ sc ∧ sc ≤ 255) (hA : Acs w a A) (hl : A.length ≤ 9223372036854775807) (hfit : ∀ x ∈ A, x.Fits) :
    Calls Tryd.prog 3 #[.int .u8 sc, .slice a A.length cap] w fun e w' => e = .returned (.bool true) ∧ Below w.heap.size w w' := by
  obtain ⟨s0, s1⟩ := hsc
  obtain ⟨n, hn⟩ : ∃ n : Nat, (n : Int) = 8 + sc % 56 := ⟨(8 + sc % 56).toNat, by omega⟩
  have hn8 : 8 ≤ n := by omega
  have hn63 : n ≤ 63 := by omega
  have HN := Lib.hid hn
  have HA := Lib.hid hA
  have HFIT := Lib.hid hfit
  have HGL : Hid ((A.map Ac.l).length = A.length) := by show _ = _; simp
  obtain ⟨i0, hi0, hz0, hz1, hz2⟩ := info_parts infoLs
  clear hA hfit hn
  go_enter Tryd.func3, Tryd.ntmps3
  go_wp2_with fail
  rw [← HN.out]
  refine (os_new n hn8 (by omega) _).mono ?_
  rintro e w1 ⟨g, rfl, ho, hb⟩
  have HO := Lib.hid ho
  have HB := Lib.hid hb
  clear ho hb
  have hsg : ∀ f, f + n / 2 ≤ n → seg (Dr.new n).V f (n / 2) = List.replicate (n / 2) Rk.zs := fun f hf => by
    rw [show (Dr.new n).V = List.replicate n (List.replicate 64 0) from rfl]; unfold seg; rw [List.drop_replicate, List.take_replicate, Nat.min_eq_left (by omega)]; rfl
  have hok : (Dr.new n).Ok := Dr.new_ok n (by omega) (by omega)
  have hD : (Dr.new n).D.length = n := by show (List.replicate n _).length = n; simp
  have hL0 : Loaded (seg (Dr.new n).V 0 (n / 2)) Ld.zero := by rw [hsg 0 (by omega)]; exact loaded_zero _
  have hL1 : Loaded (seg (Dr.new n).V (n / 2) (n / 2)) Ld.zero := by rw [hsg (n / 2) (by omega)]; exact loaded_zero _
  have KO := Lib.hid (open_w HO.out hok (n / 2) Ld.zero Ld.zero (by rw [hD]) (by rw [hD]; exact hn8) (by rw [hD]; omega) hL0 hL1)
  have HG0 : Hid (Gf n (Dr.new n) (openW (Dr.new n) (n / 2) Ld.zero Ld.zero) (List.replicate (n / 2) Rk.zs) (List.replicate (n / 2) Rk.zs) []) := by
    have := gd_open (n := n) hok rfl hD hn8 (by omega) (Nat.zero_le _) hL0 hL1 Ps.nil
    rw [hsg 0 (by omega), hsg (n / 2) (by omega)] at this
    exact ⟨this, rfl, fsl_zero _, fsl_zero _⟩
  clear hsg hok hD hL0 hL1
  go_wp2_with fail
  refine KO.out.mono ?_
  rintro e w2 ⟨hk, hr⟩
  rcases hr with ⟨_, b, r0, r1, _, rfl, ht⟩ | ⟨hno, _⟩
  case inr => exact absurd Ps.nil (hno [])
  have HB2 : Hid (Below w.heap.size w w2) := HB.out.trans (hk.below (fun j hj => hj) HB.out.size)
  have HT2 : Hid (Trio (fun j => w.heap.size ≤ j) w2 b r0 r1 g (Dr.new n) (openW (Dr.new n) (n / 2) Ld.zero Ld.zero)) := ht.mono fun j hj => hj.elim id fun h => Nat.le_trans HB.out.size h
  have KG : Hid (Calls Tryd.prog 6 #[.slice a A.length cap] w2 (GrRes (A.map Ac.l) w2)) := by
    have := great_c (A.map Ac.l) a cap w2 (HA.out.later HB2.out).ls (by rw [HGL.out]; exact hl) (fun l hl => by obtain ⟨y, hy, rfl⟩ := List.mem_map.1 hl; exact (HFIT.out y hy).l)
    rwa [HGL.out] at this
  clear ht hk KO
  go_wp2_with fail
  refine KG.out.mono ?_
  rintro e w' ⟨zg, rfl, rfl, hgz⟩
  cases zg with
  | true =>
    have KH := Lib.hid (head_c w2)
    clear hgz
    go_wp2_with fail
    refine KH.out.mono ?_
    rintro e w3 ⟨rfl, hb⟩
    have HB3 : Hid (Below w.heap.size w w3) := HB2.out.trans (hb.mono HB2.out.size)
    clear hb
    go_wp2_with fail
    go_ret
    exact ⟨rfl, HB3.out⟩
  | false =>
    obtain ⟨h40, hsm⟩ := hgz rfl
    have hA40 : A.length ≤ 40 := by rw [HGL.out] at h40; exact h40
    have HSM : Hid (∀ y ∈ A, Small y.l) := fun y hy => hsm _ (List.mem_map.2 ⟨y, hy, rfl⟩)
    clear hgz h40 hsm
    have T0 : Hid (Fl w n w2.heap.size g (w2.alloc (.cells #[.int .u64 0, .int .i64 0, .int .i64 0] TC)) b r0 r1 (Dr.new n) (openW (Dr.new n) (n / 2) Ld.zero Ld.zero) (List.replicate (n / 2) Rk.zs) (List.replicate (n / 2) Rk.zs) []) := by
      have hk : Below w2.heap.size w2 (w2.alloc (.cells #[.int .u64 0, .int .i64 0, .int .i64 0] TC)) := (Below.refl _ _).alloc (Nat.le_refl _) _
      have hs : (w2.alloc (.cells #[.int .u64 0, .int .i64 0, .int .i64 0] TC)).heap.size = w2.heap.size + 1 := by simp
      have hs2 := HB2.out.size
      refine ⟨⟨⟨fun j => w.heap.size ≤ j ∧ j < w2.heap.size, HT2.out.lt.later hk, fun j hj => hj.1, fun j hj hu => ?_⟩, Keeps.refl _ _, fun j hj => ?_, HB2.out.trans (hk.mono hs2)⟩, HG0.out, ⟨⟨0, 0, 0⟩, ⟨by decide, by decide, by decide⟩, Rw.new w2 [.int .u64 0, .int .i64 0, .int .i64 0] TC⟩, hs2⟩
      · rcases hj with hj | rfl
        · have := hu.1; omega
        · have := hu.2; omega
      · rw [hs]
        rcases hj with hj | rfl <;> omega
    obtain ⟨Z, hZ⟩ : ∃ Z, Z = List.replicate (n / 2) Rk.zs := ⟨_, rfl⟩
    rw [← hZ] at T0
    obtain ⟨M0, hM0⟩ : ∃ M0, M0 = openW (Dr.new n) (n / 2) Ld.zero Ld.zero := ⟨_, rfl⟩
    rw [← hM0] at T0
    clear HT2 HG0 hZ hM0
    go_wp2_with fail
    obtain ⟨bc, hbc⟩ : ∃ bc, bc = w2.heap.size := ⟨_, rfl⟩
    generalize w2.alloc (.cells #[.int .u64 0, .int .i64 0, .int .i64 0] TC) = W0 at T0 ⊢
    rw [← hbc] at T0 ⊢
    clear hbc HB2 HB HO
    have HN8 := Lib.hid hn8
    have HN63 := Lib.hid hn63
    clear hn8 hn63
    go_loopg [8, 10, 12] A.length (fun kx s8 s10 s12 wr => ∃ (i b r0 r1 : Nat) (x : Dr) (M : Wm) (QA QB : List Rk.Sec) (LL : List (List Rk.Sec)) (fz : Int), s12 = .int .i64 (i : Int) ∧ s8 = .pointer (some ⟨b, 0, none⟩) ∧ s10 = .int .i64 fz ∧ -1 ≤ fz ∧ fz ≤ 11 ∧ i ≤ A.length ∧ Hid (Fl w n bc g wr b r0 r1 x M QA QB LL) ∧ A.length ≤ i + kx)
    case atStart => exact ⟨0, b, r0, r1, _, _, _, _, _, -1, rfl, rfl, rfl, by omega, by omega, Nat.zero_le _, T0, by omega⟩
    case round =>
      clear T0
      obtain ⟨i, b, r0, r1, x, M, QA, QB, LL, fz, rfl, rfl, rfl, fz0, fz1, hi', TT, hkx⟩ := hrel
      by_cases hlt : i < A.length
      · clear_value *
        obtain ⟨ab, ao, rfl, hat⟩ := HA.out i hlt
        have HAT := Lib.hid hat
        have hyf := HFIT.out A[i] (List.getElem_mem hlt)
        have hsm := HSM.out A[i] (List.getElem_mem hlt)
        obtain ⟨y, hy⟩ : ∃ y, A[i] = y := ⟨_, rfl⟩
        rw [hy] at HAT hyf hsm
        obtain ⟨hab, sl, cl, c0', c1', hstr, c2', c3', c4', c5'⟩ := HAT.out
        obtain ⟨l, hle⟩ : ∃ l, l = y.l := ⟨_, rfl⟩
        rw [← hle] at c1' hstr hsm
        have HSTR := Lib.hid hstr
        have kc : ∀ q, wr.cell? ⟨ab, q, none⟩ = w.cell? ⟨ab, q, none⟩ := fun q => TT.out.fm.b.cell (p := ⟨ab, q, none⟩) hab
        have c0 := (kc _).trans c0'
        have c1 := (kc _).trans c1'
        have c2 := (kc _).trans c2'
        have c3 := (kc _).trans c3'
        have c4 := (kc _).trans c4'
        have c5 := (kc _).trans c5'
        have HSL := Lib.hid hsm
        have hl10 := hsm.1
        have j0 : (0 : Int) ≤ (i : Int) := by omega
        have j1 : (i : Int) < (A.length : Int) := by omega
        have yw0 := hyf.what.1
        have yw1 := hyf.what.2
        have yf0 := hyf.fuse.1
        have yf1 := hyf.fuse.2
        have YC := Lib.hid hyf.c
        clear hat hy hyf hsm hstr hle kc c0' c1' c2' c3' c4' c5'
        go_upto_region 12 with (fail)
        clear c0 c1 c2 c3 c4 c5
        have hkb : Below wr.heap.size wr (wr.alloc (.cells #[.int .u8 y.what, .slice sl l.length cl, .int .u8 y.fuse, .int .u64 (y.c.keep : Int), .int .i64 y.c.torn, .int .i64 y.c.at'] 37)) := (Below.refl _ _).alloc (Nat.le_refl _) _
        obtain ⟨c, hcf, hcc⟩ := TT.out.cc
        have hcl := hcc.lt
        have hszw := TT.out.fm.b.size
        have hsz1 : (wr.alloc (.cells #[.int .u8 y.what, .slice sl l.length cl, .int .u8 y.fuse, .int .u64 (y.c.keep : Int), .int .i64 y.c.torn, .int .i64 y.c.at'] 37)).heap.size = wr.heap.size + 1 := by simp
        have T1 : Hid (Fm w (fun j => (j < w.heap.size ∨ j = bc) ∨ j = wr.heap.size) (wr.alloc (.cells #[.int .u8 y.what, .slice sl l.length cl, .int .u8 y.fuse, .int .u64 (y.c.keep : Int), .int .i64 y.c.torn, .int .i64 y.c.at'] 37)) (wr.alloc (.cells #[.int .u8 y.what, .slice sl l.length cl, .int .u8 y.fuse, .int .u64 (y.c.keep : Int), .int .i64 y.c.torn, .int .i64 y.c.at'] 37)) b r0 r1 g x M) := TT.out.fm.grow hkb _ (fun j hj => hj.imp id fun e => by rw [e]; exact Nat.le_refl _) (fun j hj => by
          rw [hsz1]
          rcases hj with (hj | rfl) | rfl <;> omega)
        have X1 : Hid (Rw (wr.alloc (.cells #[.int .u8 y.what, .slice sl l.length cl, .int .u8 y.fuse, .int .u64 (y.c.keep : Int), .int .i64 y.c.torn, .int .i64 y.c.at'] 37)) wr.heap.size TAc (acCells y sl l.length cl)) := Rw.new wr (acCells y sl l.length cl) TAc
        have C1 : Hid (Rw (wr.alloc (.cells #[.int .u8 y.what, .slice sl l.length cl, .int .u8 y.fuse, .int .u64 (y.c.keep : Int), .int .i64 y.c.torn, .int .i64 y.c.at'] 37)) bc TC (crCells c)) := hcc.later hkb
        have hne : wr.heap.size ≠ bc := by omega
        have GF := Lib.hid TT.out.gf
        have HBW := Lib.hid TT.out.bw
        clear hkb hcc hcl hszw hsz1 TT
        obtain ⟨bx, hbx⟩ : ∃ bx, bx = wr.heap.size := ⟨_, rfl⟩
        generalize wr.alloc (.cells #[.int .u8 y.what, .slice sl l.length cl, .int .u8 y.fuse, .int .u64 (y.c.keep : Int), .int .i64 y.c.torn, .int .i64 y.c.at'] 37) = W1 at T1 X1 C1 ⊢
        rw [← hbx] at T1 X1 hne ⊢
        have HNE := Lib.hid hne
        clear hbx hne
        have KTX := Lib.hid (fm_txns T1.out GF.out.tx)
        go_wp2_with fail
        refine KTX.out.mono ?_
        rintro e w5 ⟨v, rfl, hv, hb⟩
        obtain ⟨a0, c0, rfl⟩ := hv.lsr.slice
        have T2 : Hid (Fm w (fun j => ((j < w.heap.size ∨ j = bc) ∨ j = bx) ∨ (W1.heap.size ≤ j ∧ j < w5.heap.size)) w5 w5 b r0 r1 g x M) := T1.out.grow hb _ (fun j hj => hj.imp id fun h => h.1) (fun j hj => hj.elim (fun hj => Nat.lt_of_lt_of_le (T1.out.l j hj) hb.size) fun h => h.2)
        have S2 : Hid (St w w5 (fun j => ((j < w.heap.size ∨ j = bc) ∨ j = bx) ∨ (W1.heap.size ≤ j ∧ j < w5.heap.size)) bc bx y sl cl l c (.slice a0 LL.length c0) LL) :=
          ⟨X1.out.later hb, C1.out.later hb, hcf, hv.lsr.mono (fun j hj => ⟨.inr hj, fun e => by have := C1.out.lt; omega⟩), fun j hj => .inl (.inl (.inl hj)), .inl (.inl (.inr rfl)), .inl (.inr rfl), HNE.out, HBW.out⟩
        generalize (fun j => ((j < w.heap.size ∨ j = bc) ∨ j = bx) ∨ (W1.heap.size ≤ j ∧ j < w5.heap.size)) = Pr at T2 S2
        clear T1 X1 C1 hv hb hcf KTX
        have hLL9 : LL.length ≤ 10000 := by have := GF.out.tx.l; have := GF.out.tx.many; have := GF.out.tx.len; omega
        have d0 : w5.cell? ⟨bx, 0, none⟩ = some (.int .u8 y.what) := (S2.out.boxx T2.out).cell 0
        by_cases h4 : y.what % 7 = 4
        · as_aux_lemma =>
            have d3 : w5.cell? ⟨bx, 3, none⟩ = some (.int .u64 (y.c.keep : Int)) := (S2.out.boxx T2.out).cell 3
            have d4 : w5.cell? ⟨bx, 4, none⟩ = some (.int .i64 y.c.torn) := (S2.out.boxx T2.out).cell 4
            have d5 : w5.cell? ⟨bx, 5, none⟩ = some (.int .i64 y.c.at') := (S2.out.boxx T2.out).cell 5
            have e0 : w5.cell? ⟨bc, 0, none⟩ = some (.int .u64 (c.keep : Int)) := (S2.out.boxc T2.out).cell 0
            have e1 : w5.cell? ⟨bc, 1, none⟩ = some (.int .i64 c.torn) := (S2.out.boxc T2.out).cell 1
            have e2 : w5.cell? ⟨bc, 2, none⟩ = some (.int .i64 c.at') := (S2.out.boxc T2.out).cell 2
            have g0 := (S2.out.boxc T2.out).frozen 0
            have g1 := (S2.out.boxc T2.out).frozen 1
            have g2 := (S2.out.boxc T2.out).frozen 2
            have d2 : w5.cell? ⟨bx, 2, none⟩ = some (.int .u8 y.fuse) := (S2.out.boxx T2.out).cell 2
            have b4 : (y.what % 7 == 4) = true := by rw [h4]; rfl
            obtain ⟨t3, s3, _⟩ := S2.out.set T2.out y.c YC.out rfl
            have F9 := Lib.hid (s3.fl t3 GF.out)
            clear t3 s3 T2 S2 GF h4
            go_wp2_with fail
            go_roundg (A.length - (i + 1))
            case measure => omega
            case rel => exact ⟨i + 1, b, r0, r1, x, M, QA, QB, LL, y.fuse % 12, by simp, rfl, rfl, by omega, by omega, by omega, F9, by omega⟩
        · have b4 : (y.what % 7 == 4) = false := beq_eq_false_iff_ne.2 h4
          have HN4 := Lib.hid h4
          clear h4
          have KFZ := Lib.hid (fm_fuse T2.out GF.out.g.ok fz)
          go_wp2_with fail
          refine KFZ.out.mono ?_
          rintro e w6 ⟨rfl, t6⟩
          have T6 := Lib.hid t6
          clear t6 KFZ T2 d0 b4
          go_upto_region 18 with (fail)
          go_cut [16] from 53 to 215 (fun s16 wx => s16 = .int .i64 0 ∧ w6 = wx)
          case first =>
            go_wp2_with fail
            go_meet
            exact ⟨rfl, rfl⟩
          obtain ⟨rfl, rfl⟩ := hcut
          rename_i hK
          apply hK
          refine wp_seq_k (fun K2 hK2 => ?_)
          go_cut [15, 16] from 53 to 215 (fun s15 s16 wx => ∃ (vn : Value) (z : Int), vn = s15 ∧ s16 = .int .i64 z ∧ Hid (Mid w n bc bx g y sl cl l b r0 r1 (.slice a0 LL.length c0) vn z wx))
          case rest =>
            obtain ⟨vn, z, rfl, rfl, MD⟩ := hcut
            apply hK2
            clear T6 S2 GF hLL9
            refine wp_seq_k (fun K3 hK3 => ?_)
            go_cut [14] from 53 to 215 (fun s14 wx => ∃ vw : Value, vw = s14 ∧ Hid (MidA w n bc bx g y sl cl l b r0 r1 z wx ∨ MidB w n bc bx g y sl cl l b r0 r1 vw vn z wx))
            case rest =>
              obtain ⟨vw, rfl, MD⟩ := hcut
              apply hK3
              refine wp_seq_k (fun K4 hK4 => ?_)
              go_cut [16] from 53 to 215 (fun s16 wx => s16 = .int .i64 z ∧ Hid (MidA w n bc bx g y sl cl l b r0 r1 z wx ∨ MidB w n bc bx g y sl cl l b r0 r1 vw vn z wx))
              case rest =>
                obtain ⟨rfl, MD⟩ := hcut
                apply hK4
                refine wp_seq_k (fun K5 hK5 => ?_)
                go_cut [16] from 53 to 215 (fun s16 wx => s16 = .int .i64 z ∧ Hid (MidB w n bc bx g y sl cl l b r0 r1 vw vn z wx))
                case rest =>
                  obtain ⟨rfl, MD⟩ := hcut
                  apply hK5
                  refine wp_seq_k (fun K6 hK6 => ?_)
                  go_cut [16] from 53 to 215 (fun s16 wx => s16 = .int .i64 z ∧ Hid (MidB w n bc bx g y sl cl l b r0 r1 vw vn z wx))
                  case rest =>
                    obtain ⟨rfl, MD⟩ := hcut
                    apply hK6
                    as_aux_lemma =>
                      have mb := MD.out
                      obtain ⟨W, Pr', c', x', M', LL', L2, ss, ln, tm, li1, li2, lost, hk⟩ := mb
                      have SS := Lib.hid ss
                      have LN := Lib.hid ln
                      have TM := Lib.hid tm
                      have LI1 := Lib.hid li1
                      have LI2 := Lib.hid li2
                      have LO := Lib.hid lost
                      clear ss ln tm li1 li2 lost
                      obtain ⟨SA, SB, L3, A', B', hA, hB, hps, h3, hg⟩ := LO.out.opens c'
                      have e0 : wc.cell? ⟨bc, 0, none⟩ = some (.int .u64 (c'.keep : Int)) := (SS.out.boxc TM.out).cell 0
                      have e1 : wc.cell? ⟨bc, 1, none⟩ = some (.int .i64 c'.torn) := (SS.out.boxc TM.out).cell 1
                      have e2 : wc.cell? ⟨bc, 2, none⟩ = some (.int .i64 c'.at') := (SS.out.boxc TM.out).cell 2
                      have KCR : Hid (Calls Tryd.prog 13 #[.pointer (some ⟨g, 0, Option.none⟩), .agg #[.int .u64 (c'.keep : Int), .int .i64 c'.torn, .int .i64 c'.at']] wc fun e w' => e = .returned (.tuple #[]) ∧ Fm w Pr' W w' b r0 r1 g (x'.crash c') M') := fm_crash TM.out LO.out.wf.f0.hx (by have := LO.out.P; omega) c' SS.out.cf
                      have KO1 : Hid (∀ u, Fm w Pr' W u b r0 r1 g (x'.crash c') M' → Calls Tryd.prog 5 #[.pointer (some ⟨g, 0, none⟩)] u fun e w' => ∃ b' r0' r1', e = .returned (.tuple #[.pointer (some ⟨b', 0, none⟩), .int .i64 0]) ∧ Fm w Pr' W w' b' r0' r1' g (x'.crash c') (openW (x'.crash c') (n / 2) SA SB)) := fun u hu => fm_open hu hg.g.ok hg.g.D hg.g.n8 hg.g.n9 hA hB hps
                      have KO2 : Hid (∀ (lo : Nat) (u : World) (g2 : Nat), Dv.Os (fun j => lo ≤ j) u g2 (x'.crash c') → lo ≤ u.heap.size → Calls Tryd.prog 5 #[.pointer (some ⟨g2, 0, none⟩)] u fun e w' => ∃ b' r0' r1', e = .returned (.tuple #[.pointer (some ⟨b', 0, none⟩), .int .i64 0]) ∧ (∃ U : Nat → Prop, Trio U w' b' r0' r1' g2 (x'.crash c') (openW (x'.crash c') (n / 2) SA SB)) ∧ Below lo u w') := fun lo u g2 ho hlo => second_open ho hlo hg.g.ok hg.g.D hg.g.n8 hg.g.n9 hA hB hps
                      obtain ⟨Mo, hMo⟩ : ∃ Mo, Mo = openW (x'.crash c') (n / 2) SA SB := ⟨_, rfl⟩
                      rw [← hMo] at KO1 KO2 hg
                      obtain ⟨xo, hxo⟩ : ∃ xo, xo = x'.crash c' := ⟨_, rfl⟩
                      rw [← hxo] at KCR KO1 KO2 hg
                      have HG := Lib.hid hg
                      have H3 := Lib.hid h3
                      have HKK := Lib.hid hk
                      clear MD hMo hxo hg hA hB hps h3 hk
                      go_wp2_with fail
                      refine KCR.out.mono ?_
                      rintro e wA ⟨rfl, tA⟩
                      have KO := Lib.hid (KO1.out _ tA)
                      clear tA KCR KO1 e0 e1 e2 TM
                      go_wp2_with fail
                      refine KO.out.mono ?_
                      rintro e wB ⟨b', r0', r1', rfl, tB⟩
                      have TB := Lib.hid tB
                      have KT := Lib.hid (fm_txns tB HG.out.tx)
                      clear tB KO
                      go_upto_region 44 with (fail)
                      go_cut [17] from 53 to 215 (fun s17 wx => ∃ v : Value, v = s17 ∧ Hid (Lss wB.heap.size wx v L3 ∧ Below wB.heap.size wB wx))
                      case first =>
                        go_wp2_with fail
                        refine KT.out.mono ?_
                        rintro e w8 ⟨v, rfl, hv, hb⟩
                        have HV := Lib.hid (And.intro hv hb)
                        clear hv hb
                        go_wp2_with fail
                        go_meet
                        exact ⟨_, rfl, HV⟩
                      obtain ⟨v, rfl, HV⟩ := hcut
                      rename_i hK
                      apply hK
                      clear KT
                      obtain ⟨av, cv, rfl⟩ := HV.out.1.lsr.slice
                      have TC : Hid (Fm w Pr' W wc b' r0' r1' g xo Mo) := TB.out.later HV.out.2
                      have LV := Lib.hid HV.out.1.lsr
                      generalize (fun j => wB.heap.size ≤ j ∧ j < wc.heap.size) = PV at LV
                      have LI3 := Lib.hid HG.out.tx.lim
                      clear HV TB
                      refine wp_seq_k (fun K7 hK7 => ?_)
                      go_cut [16] from 53 to 215 (fun s16 wx => s16 = .int .i64 z ∧ Hid (Below wc.heap.size wc wx))
                      case rest =>
                        rename_i wd _
                        obtain ⟨rfl, HBE⟩ := hcut
                        apply hK7
                        have TE := Lib.hid (TC.out.later HBE.out)
                        have LVE := Lib.hid (LV.out.later HBE.out)
                        have KCP := Lib.hid (fm_copy TE.out HG.out.g.ok (by rw [HG.out.p]; exact Nat.zero_le _))
                        clear HBE LV TC
                        go_wp2_with fail
                        refine KCP.out.mono ?_
                        rintro e wF ⟨g2, rfl, ho, hbF⟩
                        have KO := Lib.hid (KO2.out _ _ _ ho hbF.size)
                        have HBF := Lib.hid hbF
                        clear ho hbF KCP KO2
                        go_wp2_with fail
                        refine KO.out.mono ?_
                        rintro e wG ⟨b2, r02, r12, rfl, ht, hbG⟩
                        have HT := Lib.hid ht
                        have HBG := Lib.hid (HBF.out.trans hbG)
                        have KT2 := Lib.hid (second_txns ht HG.out.tx)
                        have KR2 : Hid (∀ u, Below wG.heap.size wG u → Calls Tryd.prog 15 #[.pointer (some ⟨b2, 0, none⟩)] u fun e w' => e = .returned (.int .i64 (Mo.room : Int)) ∧ Below u.heap.size u w') := fun u hu => by
                          obtain ⟨U, h⟩ := HT.out
                          exact second_room ⟨U, h.later hu⟩ HG.out.tx.now
                        have TG := Lib.hid (TE.out.later HBG.out)
                        have LVG := Lib.hid (LVE.out.later HBG.out)
                        clear ht hbG KO HBF
                        go_wp2_with fail
                        refine KT2.out.mono ?_
                        rintro e wH ⟨v2, rfl, hv2, hbH⟩
                        obtain ⟨a2, c2, rfl⟩ := hv2.lsr.slice
                        have HBH := Lib.hid hbH
                        have KS : Hid (Calls Tryd.prog 12 #[.slice a2 L3.length c2, .slice av L3.length cv] wH fun e w' => e = .returned (.bool true) ∧ Below wH.heap.size wH w') := by
                          have := same_lim hv2.lsr (LVG.out.later hbH) LI3.out LI3.out
                          rwa [decide_eq_true rfl] at this
                        clear hv2 hbH KT2
                        go_wp2_with fail
                        refine KS.out.mono ?_
                        rintro e wI ⟨rfl, hb⟩
                        have HBI : Hid (Below wG.heap.size wG wI) := HBH.out.trans (hb.mono HBH.out.size)
                        have KR := Lib.hid (KR2.out _ HBI.out)
                        clear hb KS
                        go_wp2_with fail
                        refine KR.out.mono ?_
                        rintro e wJ ⟨rfl, hb⟩
                        have HBJ : Hid (Below wG.heap.size wG wJ) := HBI.out.trans (hb.mono HBI.out.size)
                        have TJ := Lib.hid (TG.out.later HBJ.out)
                        have KRM := Lib.hid (fm_room TJ.out HG.out.tx.now)
                        clear hb KR
                        go_wp2_with fail
                        refine KRM.out.mono ?_
                        rintro e wK ⟨rfl, hb⟩
                        have TK := Lib.hid (TJ.out.later hb)
                        have KP := Lib.hid (fm_pending TK.out HG.out.g.ok HG.out.p)
                        have hrm : ((Mo.room : Int) != (Mo.room : Int)) = false := by simp
                        clear hb KRM
                        go_wp2_with fail
                        refine KP.out.mono ?_
                        rintro e w' ⟨rfl, rfl⟩
                        have F9 := Lib.hid (SS.out.fl TK.out HG.out)
                        clear KP hrm SS
                        go_wp2_with fail
                        go_roundg (A.length - (i + 1))
                        case measure => omega
                        case rel => exact ⟨i + 1, b', r0', r1', xo, Mo, A', B', L3, -1, by simp, rfl, rfl, by omega, by omega, by omega, F9, by omega⟩
                      have KS1 : Hid (Calls Tryd.prog 12 #[.slice av L3.length cv, vw] wc fun e w' => e = .returned (.bool (decide (L3 = LL'))) ∧ Below wc.heap.size wc w') := same_lim LV.out (SS.out.list TC.out) LI3.out LI1.out
                      by_cases hq : L3 = LL'
                      · rw [decide_eq_true hq] at KS1
                        clear hq
                        go_wp2_with fail
                        refine KS1.out.mono ?_
                        rintro e w9 ⟨rfl, hb⟩
                        have HB9 := Lib.hid hb
                        clear hb KS1
                        go_wp2_with fail
                        go_meet
                        exact ⟨rfl, HB9⟩
                      · rw [decide_eq_false hq] at KS1
                        obtain rfl : L3 = L2 := H3.out.resolve_left hq
                        obtain rfl : z = 30 := by
                          rcases HKK.out with h | h
                          · exact h.2.1
                          · exact absurd h.2.2 hq
                        clear hq
                        go_wp2_with fail
                        refine KS1.out.mono ?_
                        rintro e w9 ⟨rfl, hb⟩
                        have HB9 := Lib.hid hb
                        have KS2 : Hid (Calls Tryd.prog 12 #[.slice av L3.length cv, vn] w9 fun e w' => e = .returned (.bool true) ∧ Below w9.heap.size w9 w') := by
                          have := same_lim (LV.out.later hb) ((TC.out.ls2 LN.out).later hb) LI3.out LI2.out
                          rwa [decide_eq_true rfl] at this
                        clear hb KS1
                        go_wp2_with fail
                        refine KS2.out.mono ?_
                        rintro e wX ⟨rfl, hb⟩
                        have HBX : Hid (Below wc.heap.size wc wX) := HB9.out.trans (hb.mono HB9.out.size)
                        clear hb KS2
                        go_wp2_with fail
                        go_meet
                        exact ⟨rfl, HBX⟩
                  as_aux_lemma =>
                    have HM := MD
                    have mb := MD.out
                    obtain ⟨W, Pr', c', x', M', LL', L2, ss, ln, tm, li1, li2, lost, hk⟩ := mb
                    have SS := Lib.hid ss
                    have LN := Lib.hid ln
                    have TM := Lib.hid tm
                    have LI1 := Lib.hid li1
                    have LI2 := Lib.hid li2
                    have LO := Lib.hid lost
                    clear ss ln tm li1 li2 lost
                    have d0 : wc.cell? ⟨bx, 0, none⟩ = some (.int .u8 y.what) := (SS.out.boxx TM.out).cell 0
                    by_cases h6 : y.what % 7 = 6
                    · have d3 : wc.cell? ⟨bx, 3, none⟩ = some (.int .u64 (y.c.keep : Int)) := (SS.out.boxx TM.out).cell 3
                      have d4 : wc.cell? ⟨bx, 4, none⟩ = some (.int .i64 y.c.torn) := (SS.out.boxx TM.out).cell 4
                      have d5 : wc.cell? ⟨bx, 5, none⟩ = some (.int .i64 y.c.at') := (SS.out.boxx TM.out).cell 5
                      have e0 : wc.cell? ⟨bc, 0, none⟩ = some (.int .u64 (c'.keep : Int)) := (SS.out.boxc TM.out).cell 0
                      have e1 : wc.cell? ⟨bc, 1, none⟩ = some (.int .i64 c'.torn) := (SS.out.boxc TM.out).cell 1
                      have e2 : wc.cell? ⟨bc, 2, none⟩ = some (.int .i64 c'.at') := (SS.out.boxc TM.out).cell 2
                      have g0 := (SS.out.boxc TM.out).frozen 0
                      have g1 := (SS.out.boxc TM.out).frozen 1
                      have g2 := (SS.out.boxc TM.out).frozen 2
                      obtain ⟨t3, s3, l3⟩ := SS.out.set TM.out y.c YC.out rfl
                      have HM2 : Hid (MidB w n bc bx g y sl cl l b r0 r1 vw vn z (((wc.setCell ⟨bc, 0, none⟩ (.int .u64 (y.c.keep : Int))).setCell ⟨bc, 1, none⟩ (.int .i64 y.c.torn)).setCell ⟨bc, 2, none⟩ (.int .i64 y.c.at'))) := ⟨_, Pr', _, x', M', LL', L2, s3, l3 _ _ (TM.out.ls2 LN.out), t3, LI1.out, LI2.out, LO.out, hk⟩
                      clear t3 s3 l3
                      go_wp2_with fail
                      go_meet
                      exact ⟨rfl, HM2⟩
                    · have b6 : (y.what % 7 == 6) = false := beq_eq_false_iff_ne.2 h6
                      go_wp2_with fail
                      go_meet
                      exact ⟨rfl, HM⟩
                as_aux_lemma =>
                  rcases MD.out with ma | mb
                  · obtain ⟨W, Pr', c', x', M', vw', LL', L, A', B', ss, tm, ok, hg, k3, hz⟩ := ma
                    have SS := Lib.hid ss
                    have TM := Lib.hid tm
                    have OK := Lib.hid ok
                    have HG := Lib.hid hg
                    clear ss tm ok hg
                    have d0 : wc.cell? ⟨bx, 0, none⟩ = some (.int .u8 y.what) := (SS.out.boxx TM.out).cell 0
                    have k5 : y.what % 7 < 5 := by omega
                    have KF := Lib.hid (fm_fuse TM.out OK.out (-1))
                    clear MD
                    rcases hz with rfl | rfl
                    · go_wp2_with fail
                      refine KF.out.mono ?_
                      rintro e w8 ⟨rfl, t8⟩
                      have F9 := Lib.hid (SS.out.fl t8 HG.out)
                      clear t8 KF d0 SS TM OK HG
                      go_wp2_with fail
                      go_roundg (A.length - (i + 1))
                      case measure => omega
                      case rel => exact ⟨i + 1, b, r0, r1, _, M', A', B', L, -1, by simp, rfl, rfl, by omega, by omega, by omega, F9, by omega⟩
                    · go_wp2_with fail
                      refine KF.out.mono ?_
                      rintro e w8 ⟨rfl, t8⟩
                      have F9 := Lib.hid (SS.out.fl t8 HG.out)
                      clear t8 KF d0 SS TM OK HG
                      go_wp2_with fail
                      go_roundg (A.length - (i + 1))
                      case measure => omega
                      case rel => exact ⟨i + 1, b, r0, r1, _, M', A', B', L, -1, by simp, rfl, rfl, by omega, by omega, by omega, F9, by omega⟩
                  · have HM := Lib.hid mb
                    obtain ⟨W, Pr', c', x', M', LL', L2, ss, ln, tm, li1, li2, lost, hk⟩ := mb
                    have SS := Lib.hid ss
                    have LN := Lib.hid ln
                    have TM := Lib.hid tm
                    have LI1 := Lib.hid li1
                    have LI2 := Lib.hid li2
                    have LO := Lib.hid lost
                    clear ss ln tm li1 li2 lost
                    have d0 : wc.cell? ⟨bx, 0, none⟩ = some (.int .u8 y.what) := (SS.out.boxx TM.out).cell 0
                    rcases hk with ⟨k3, rfl, _⟩ | ⟨k5, rfl, rfl⟩
                    · go_wp2_with fail
                      go_meet
                      exact ⟨rfl, HM⟩
                    · have k4 : ¬ y.what % 7 < 5 := by omega
                      go_wp2_with fail
                      go_meet
                      exact ⟨rfl, HM⟩
              as_aux_lemma =>
                rcases MD.out with ma | mb
                · have HM := Lib.hid ma
                  obtain ⟨W, Pr', c', x', M', vw', LL', L, A', B', _, _, _, _, k3, hz⟩ := ma
                  rcases hz with rfl | rfl
                  · go_wp2_with fail
                    go_meet
                    exact ⟨rfl, Lib.hid (.inl HM.out)⟩
                  · go_wp2_with fail
                    go_meet
                    exact ⟨rfl, Lib.hid (.inl HM.out)⟩
                · have HM := Lib.hid mb
                  obtain ⟨W, Pr', c', x', M', LL', L2, ss, ln, tm, li1, li2, lost, hk⟩ := mb
                  have SS := Lib.hid ss
                  have LN := Lib.hid ln
                  have TM := Lib.hid tm
                  have LI1 := Lib.hid li1
                  have LI2 := Lib.hid li2
                  have LO := Lib.hid lost
                  clear ss ln tm li1 li2 lost
                  rcases hk with ⟨k3, rfl, hd⟩ | ⟨k5, rfl, rfl⟩
                  · have HD := Lib.hid hd
                    have KA : Hid (∀ u, Fm w Pr' W u b r0 r1 g x' M' → Calls Tryd.prog 10 #[.pointer (some ⟨b, 0, none⟩), .slice none 0 0] u fun e w' => e = .returned (.int .i64 30) ∧ Fm w Pr' W w' b r0 r1 g x' M') := fun u hu => by
                      have := hu.code (f := 10) (s := .slice none 0 0) (C := commitW M' x' []) (fun U ht => commit_c (l := []) ht LO.out.wf small2 0 (fun j hj => absurd hj (by simp [bas])))
                      rwa [commit_dead HD.out] at this
                    have KB : Hid (∀ u, Fm w Pr' W u b r0 r1 g x' M' → Calls Tryd.prog 11 #[.pointer (some ⟨b, 0, none⟩), .slice none 0 0] u fun e w' => e = .returned (.int .i64 30) ∧ Fm w Pr' W w' b r0 r1 g x' M') := fun u hu => by
                      have := hu.code (f := 11) (s := .slice none 0 0) (C := saveW M' x' []) (fun U ht => save_c (l := []) ht LO.out.wf small2 0 (fun j hj => absurd hj (by simp [bas])))
                      rwa [save_dead HD.out] at this
                    clear hd MD HM
                    go_wp2_with fail
                    refine (KA.out _ TM.out).mono ?_
                    rintro e wA ⟨rfl, tA⟩
                    have TA := Lib.hid tA
                    clear tA
                    go_wp2_with fail
                    refine (KB.out _ TA.out).mono ?_
                    rintro e wB ⟨rfl, tB⟩
                    have TB := Lib.hid tB
                    have KT := Lib.hid (fm_txns tB LO.out.tx)
                    clear tB KA KB
                    go_wp2_with fail
                    refine KT.out.mono ?_
                    rintro e w8 ⟨v, rfl, hv, hb⟩
                    obtain ⟨a8, c8, rfl⟩ := hv.lsr.slice
                    have T8 := Lib.hid (TB.out.later hb)
                    have KS : Hid (Calls Tryd.prog 12 #[.slice a8 LL'.length c8, vw] w8 fun e w' => e = .returned (.bool true) ∧ Below w8.heap.size w8 w') := by
                      have := same_lim hv.lsr (SS.out.list T8.out) LI1.out LI1.out
                      rwa [decide_eq_true rfl] at this
                    clear hv hb KT
                    go_wp2_with fail
                    refine KS.out.mono ?_
                    rintro e w9 ⟨rfl, hb⟩
                    have HM : Hid (MidB w n bc bx g y sl cl l b r0 r1 vw vn 30 w9) := ⟨W, Pr', c', x', M', LL', L2, SS.out, LN.out, T8.out.later hb, LI1.out, LI2.out, LO.out, .inl ⟨k3, rfl, HD.out⟩⟩
                    clear hb
                    go_wp2_with fail
                    go_meet
                    exact ⟨rfl, Lib.hid (.inr HM.out)⟩
                  · go_wp2_with fail
                    go_meet
                    exact ⟨rfl, Lib.hid (.inr HM.out)⟩
            as_aux_lemma =>
              obtain ⟨W, Pr', c', x', M', LL', L2, ss, ln, tm, ok, li1, li2, kd⟩ := MD.out
              have SS := Lib.hid ss
              have LN := Lib.hid ln
              have TM := Lib.hid tm
              have OK := Lib.hid ok
              have LI1 := Lib.hid li1
              have LI2 := Lib.hid li2
              clear ss ln tm ok li1 li2 MD
              have d0 : wc.cell? ⟨bx, 0, none⟩ = some (.int .u8 y.what) := (SS.out.boxx TM.out).cell 0
              rcases kd with ⟨k3, hz, A', B', L, hg, hL⟩ | ⟨lost, hk⟩
              · have HG := Lib.hid hg
                have k4 : y.what % 7 < 4 := by omega
                clear hg
                rcases hz with rfl | rfl
                · obtain rfl := hL rfl
                  have KT := Lib.hid (fm_txns TM.out HG.out.tx)
                  go_wp2_with fail
                  refine KT.out.mono ?_
                  rintro e w8 ⟨v, rfl, hv, hb⟩
                  obtain ⟨a8, c8, rfl⟩ := hv.lsr.slice
                  have T8 := Lib.hid (TM.out.later hb)
                  have KS : Hid (Calls Tryd.prog 12 #[.slice a8 L.length c8, vn] w8 fun e w' => e = .returned (.bool true) ∧ Below w8.heap.size w8 w') := by
                    have := same_lim hv.lsr (T8.out.ls2 LN.out) LI2.out LI2.out
                    rwa [decide_eq_true rfl] at this
                  clear hv hb KT d0
                  go_wp2_with fail
                  refine KS.out.mono ?_
                  rintro e w9 ⟨rfl, hb⟩
                  have HM : Hid (MidA w n bc bx g y sl cl l b r0 r1 0 w9) := ⟨W, Pr', c', x', M', _, LL', L, A', B', SS.out, T8.out.later hb, OK.out, HG.out, k3, .inl rfl⟩
                  clear hb
                  go_wp2_with fail
                  go_meet
                  exact ⟨_, rfl, Lib.hid (.inl HM.out)⟩
                · have HM : Hid (MidA w n bc bx g y sl cl l b r0 r1 6 wc) := ⟨W, Pr', c', x', M', _, LL', L, A', B', SS.out, TM.out, OK.out, HG.out, k3, .inr rfl⟩
                  go_wp2_with fail
                  go_meet
                  exact ⟨_, rfl, Lib.hid (.inl HM.out)⟩
              · have HM : Hid (MidB w n bc bx g y sl cl l b r0 r1 (.slice a0 LL.length c0) vn z wc) := ⟨W, Pr', c', x', M', LL', L2, SS.out, LN.out, TM.out, LI1.out, LI2.out, lost, hk⟩
                clear lost
                rcases hk with ⟨k3, rfl, _⟩ | ⟨k5, rfl, rfl⟩
                · go_wp2_with fail
                  go_meet
                  exact ⟨_, rfl, Lib.hid (.inr HM.out)⟩
                · have k4 : ¬ y.what % 7 < 4 := by omega
                  go_wp2_with fail
                  go_meet
                  exact ⟨_, rfl, Lib.hid (.inr HM.out)⟩
          have HX6 : Hid ((x.fuse fz).Ok) := GF.out.g.ok.fuse fz (by omega)
          have WF := Lib.hid (GF.out.idle fz (by omega)).wf
          have d0 : w6.cell? ⟨bx, 0, none⟩ = some (.int .u8 y.what) := (S2.out.boxx T6.out).cell 0
          have d1 : w6.cell? ⟨bx, 1, none⟩ = some (.slice sl l.length cl) := (S2.out.boxx T6.out).cell 1
          have h7 : y.what % 7 = 0 ∨ y.what % 7 = 1 ∨ y.what % 7 = 2 ∨ y.what % 7 = 3 ∨ y.what % 7 = 4 ∨ y.what % 7 = 5 ∨ y.what % 7 = 6 := by omega
          rcases h7 with h7 | h7 | h7 | h7 | h7 | h7 | h7
          · as_aux_lemma =>
              have HST := Lib.hid (HSTR.out.later T6.out.b)
              have HDID := Lib.hid (GF.out.commit HSL.out fz (by omega))
              have KC0 := Lib.hid (T6.out.code (f := 10) (s := .slice sl l.length cl) (C := commitW M (x.fuse fz) l) (fun U ht => commit_c ht WF.out HSL.out cl HST.out))
              obtain ⟨C, hC⟩ : ∃ C, C = commitW M (x.fuse fz) l := ⟨_, rfl⟩
              rw [← hC] at HDID KC0
              obtain ⟨M', x', z⟩ := C
              have HKD := Lib.hid (did_kind HDID.out GF.out (by omega) (show y.what % 7 ≤ 3 by omega))
              have KC : Hid (Calls Tryd.prog 10 #[.pointer (some ⟨b, 0, none⟩), .slice sl l.length cl] w6 fun e w' => e = .returned (.int .i64 z) ∧ Fm w Pr w5 w' b r0 r1 g x' M') := KC0.out
              clear hC HDID HST KC0
              go_wp2_with fail
              refine KC.out.mono ?_
              rintro e w7 ⟨rfl, t7⟩
              have T7 := Lib.hid t7
              clear KC d0 d1 h7
              obtain ⟨vs, hv1, _, hv3, hv4, hv5⟩ := (S2.out.list t7).row
              have HV1 := Lib.hid hv1
              have HV3 := Lib.hid hv3
              have HV4 := Lib.hid hv4
              have HV5 := Lib.hid hv5
              have HQ : Hid (∀ u, Below w7.heap.size w7 u → u.cell? ⟨bx, 1, none⟩ = some (.slice sl l.length cl)) := fun u hu => ((S2.out.boxx T7.out).later hu).cell 1
              have HD : Hid (Below w7.heap.size w7 w7.drew) := (Below.refl _ _).drew
              clear t7 hv1 hv3 hv4 hv5
              go_upto_region 24 with (fail)
              refine wp_region_inv (I := (fun A0 L a u => ∃ (v0 : Value) (v2 : Value) (v5 : Value) (v6 : Value) (x0 x1 x2 x3 x4 x5 x6 x7 : Value), a = putAll A0 [(90, x0), (91, x1), (92, x2), (93, x3), (94, x4), (95, x5), (96, x6), (15, x7)] ∧ (L 0 = true → x0 = v0) ∧ (L 1 = true → x1 = (.slice a0 LL.length c0)) ∧ (L 2 = true → x2 = v2) ∧ (L 3 = true → x3 = (.pointer (some ⟨bx, 1, Option.none⟩))) ∧ (L 4 = true → x4 = (.slice sl l.length cl)) ∧ (L 5 = true → x5 = v5) ∧ (L 6 = true → x6 = v6) ∧ (L 7 = true → x7 = v6) ∧ Ap2 w7 vs (.slice sl l.length cl) (L 0) (L 2) (L 5) (L 6) (L 7) v0 v2 v5 v6 u)) (by kernel_rfl) (by kernel_rfl) ?_ ?_ ?_
              · intro L hL
                exact ⟨undef, undef, undef, undef, _, _, _, _, _, _, _, _, by (simp only [putAll, Act.put, List.setIfInBounds_toArray, List.set_cons_zero, List.set_cons_succ]; rfl), (fun h => absurd h (by rw [hL 0 (by decide)]; decide)), (fun h => absurd h (by rw [hL 1 (by decide)]; decide)), (fun h => absurd h (by rw [hL 2 (by decide)]; decide)), (fun h => absurd h (by rw [hL 3 (by decide)]; decide)), (fun h => absurd h (by rw [hL 4 (by decide)]; decide)), (fun h => absurd h (by rw [hL 5 (by decide)]; decide)), (fun h => absurd h (by rw [hL 6 (by decide)]; decide)), (fun h => absurd h (by rw [hL 7 (by decide)]; decide)), by rw [hL 0 (by decide), hL 2 (by decide), hL 5 (by decide), hL 6 (by decide), hL 7 (by decide)]; exact Ap2.start HD.out⟩
              refine Steps.cons (i := 0) rfl ?_ ?_
              · rintro L a u ⟨v0, v2, v5, v6, x0, x1, x2, x3, x4, x5, x6, x7, rfl, h0, h1, h2, h3, h4, h5, h6, h7, hm⟩ hi hd K hK
                simp only [putAll, Act.put, List.setIfInBounds_toArray, List.set_cons_zero, List.set_cons_succ]
                (try simp [Region.binds] at hd)
                replace h0 := Lib.hid h0
                replace h1 := Lib.hid h1
                replace h2 := Lib.hid h2
                replace h3 := Lib.hid h3
                replace h4 := Lib.hid h4
                replace h5 := Lib.hid h5
                replace h6 := Lib.hid h6
                replace h7 := Lib.hid h7
                go_simp
                exact hK.out _ _ ⟨_, v2, v5, v6, _, _, _, _, _, _, _, _, by ((simp only [putAll, Act.put, List.setIfInBounds_toArray, List.set_cons_zero, List.set_cons_succ]) <;> rfl), (fun _ => rfl), h1.out, h2.out, h3.out, h4.out, h5.out, h6.out, h7.out, (hm.zero hi)⟩
              refine Steps.cons (i := 1) rfl ?_ ?_
              · rintro L a u ⟨v0, v2, v5, v6, x0, x1, x2, x3, x4, x5, x6, x7, rfl, h0, h1, h2, h3, h4, h5, h6, h7, hm⟩ hi hd K hK
                simp only [putAll, Act.put, List.setIfInBounds_toArray, List.set_cons_zero, List.set_cons_succ]
                (try simp [Region.binds] at hd)
                replace h0 := Lib.hid h0
                replace h1 := Lib.hid h1
                replace h2 := Lib.hid h2
                replace h3 := Lib.hid h3
                replace h4 := Lib.hid h4
                replace h5 := Lib.hid h5
                replace h6 := Lib.hid h6
                replace h7 := Lib.hid h7
                go_simp
                exact hK.out _ _ ⟨v0, v2, v5, v6, _, _, _, _, _, _, _, _, by ((simp only [putAll, Act.put, List.setIfInBounds_toArray, List.set_cons_zero, List.set_cons_succ]) <;> rfl), h0.out, (fun _ => rfl), h2.out, h3.out, h4.out, h5.out, h6.out, h7.out, hm⟩
              refine Steps.cons (i := 2) rfl ?_ ?_
              · rintro L a u ⟨v0, v2, v5, v6, x0, x1, x2, x3, x4, x5, x6, x7, rfl, h0, h1, h2, h3, h4, h5, h6, h7, hm⟩ hi hd K hK
                simp only [putAll, Act.put, List.setIfInBounds_toArray, List.set_cons_zero, List.set_cons_succ]
                (try simp [Region.binds] at hd)
                replace h0 := Lib.hid h0
                replace h1 := Lib.hid h1
                replace h2 := Lib.hid h2
                replace h3 := Lib.hid h3
                replace h4 := Lib.hid h4
                replace h5 := Lib.hid h5
                replace h6 := Lib.hid h6
                replace h7 := Lib.hid h7
                obtain rfl := (h0.out (by simp [hd])).symm
                obtain rfl := (h1.out (by simp [hd])).symm
                have hl0 : L 0 = true := by simp [hd]
                have hown := hm.r0 hl0 hi
                rw [if_pos (by rfl)]
                refine wp_append_any (.tmp 90) (.tmp 91) 38 rfl w7.heap.size TLs i0 (.slice none 0 0) 1 24 Tryd.underlying38 hi0 hz0 hz1 hz2 rfl (by decide) v0 0 [] (by rfl) hown a0 LL.length c0 vs (by rfl) (HV3.out u hm.b) HV4.out (by unfold maxLen; omega) (by omega) hm.b.size ?_
                intro v3 u3 hown2 hgrow hat
                exact hK.out _ _ ⟨v0, _, v5, v6, _, _, _, _, _, _, _, _, by ((simp only [putAll, Act.put, List.setIfInBounds_toArray, List.set_cons_zero, List.set_cons_succ]) <;> rfl), h0.out, h1.out, (fun _ => rfl), h3.out, h4.out, h5.out, h6.out, h7.out, (hm.first hi hown2 hgrow hat hown hl0 HV1.out.symm)⟩
              refine Steps.cons (i := 3) rfl ?_ ?_
              · rintro L a u ⟨v0, v2, v5, v6, x0, x1, x2, x3, x4, x5, x6, x7, rfl, h0, h1, h2, h3, h4, h5, h6, h7, hm⟩ hi hd K hK
                simp only [putAll, Act.put, List.setIfInBounds_toArray, List.set_cons_zero, List.set_cons_succ]
                (try simp [Region.binds] at hd)
                replace h0 := Lib.hid h0
                replace h1 := Lib.hid h1
                replace h2 := Lib.hid h2
                replace h3 := Lib.hid h3
                replace h4 := Lib.hid h4
                replace h5 := Lib.hid h5
                replace h6 := Lib.hid h6
                replace h7 := Lib.hid h7
                go_simp
                exact hK.out _ _ ⟨v0, v2, v5, v6, _, _, _, _, _, _, _, _, by ((simp only [putAll, Act.put, List.setIfInBounds_toArray, List.set_cons_zero, List.set_cons_succ]) <;> rfl), h0.out, h1.out, h2.out, (fun _ => rfl), h4.out, h5.out, h6.out, h7.out, hm⟩
              refine Steps.cons (i := 4) rfl ?_ ?_
              · rintro L a u ⟨v0, v2, v5, v6, x0, x1, x2, x3, x4, x5, x6, x7, rfl, h0, h1, h2, h3, h4, h5, h6, h7, hm⟩ hi hd K hK
                simp only [putAll, Act.put, List.setIfInBounds_toArray, List.set_cons_zero, List.set_cons_succ]
                (try simp [Region.binds] at hd)
                replace h0 := Lib.hid h0
                replace h1 := Lib.hid h1
                replace h2 := Lib.hid h2
                replace h3 := Lib.hid h3
                replace h4 := Lib.hid h4
                replace h5 := Lib.hid h5
                replace h6 := Lib.hid h6
                replace h7 := Lib.hid h7
                obtain rfl := (h3.out (by simp [hd])).symm
                have c1 := HQ.out u hm.b
                go_simp
                exact hK.out _ _ ⟨v0, v2, v5, v6, _, _, _, _, _, _, _, _, by ((simp only [putAll, Act.put, List.setIfInBounds_toArray, List.set_cons_zero, List.set_cons_succ]) <;> rfl), h0.out, h1.out, h2.out, h3.out, (fun _ => rfl), h5.out, h6.out, h7.out, hm⟩
              refine Steps.cons (i := 5) rfl ?_ ?_
              · rintro L a u ⟨v0, v2, v5, v6, x0, x1, x2, x3, x4, x5, x6, x7, rfl, h0, h1, h2, h3, h4, h5, h6, h7, hm⟩ hi hd K hK
                simp only [putAll, Act.put, List.setIfInBounds_toArray, List.set_cons_zero, List.set_cons_succ]
                (try simp [Region.binds] at hd)
                replace h0 := Lib.hid h0
                replace h1 := Lib.hid h1
                replace h2 := Lib.hid h2
                replace h3 := Lib.hid h3
                replace h4 := Lib.hid h4
                replace h5 := Lib.hid h5
                replace h6 := Lib.hid h6
                replace h7 := Lib.hid h7
                obtain rfl := (h4.out (by simp [hd])).symm
                go_simp
                exact hK.out _ _ ⟨v0, v2, _, v6, _, _, _, _, _, _, _, _, by ((simp only [putAll, Act.put, List.setIfInBounds_toArray, List.set_cons_zero, List.set_cons_succ]) <;> rfl), h0.out, h1.out, h2.out, h3.out, h4.out, (fun _ => rfl), h6.out, h7.out, (hm.one hi)⟩
              refine Steps.cons (i := 6) rfl ?_ ?_
              · rintro L a u ⟨v0, v2, v5, v6, x0, x1, x2, x3, x4, x5, x6, x7, rfl, h0, h1, h2, h3, h4, h5, h6, h7, hm⟩ hi hd K hK
                simp only [putAll, Act.put, List.setIfInBounds_toArray, List.set_cons_zero, List.set_cons_succ]
                (try simp [Region.binds] at hd)
                replace h0 := Lib.hid h0
                replace h1 := Lib.hid h1
                replace h2 := Lib.hid h2
                replace h3 := Lib.hid h3
                replace h4 := Lib.hid h4
                replace h5 := Lib.hid h5
                replace h6 := Lib.hid h6
                replace h7 := Lib.hid h7
                obtain rfl := (h2.out (by simp [hd])).symm
                obtain rfl := (h5.out (by simp [hd])).symm
                have hl2 : L 2 = true := by simp [hd]
                have hl5 : L 5 = true := by simp [hd]
                have hown := hm.r2 hl2 hi
                obtain ⟨g5, hv5e, hrw5, _, _⟩ := hm.r5 hl5 hi
                subst hv5e
                rw [if_pos (by rfl)]
                refine wp_append_any (.tmp 92) (.tmp 95) 38 rfl w7.heap.size TLs i0 (.slice none 0 0) 1 24 Tryd.underlying38 hi0 hz0 hz1 hz2 rfl (by decide) v2 vs.length vs (by rfl) hown (some ⟨g5, 0, none⟩) 1 1 [.slice sl l.length cl] (by rfl) (.inr ⟨_, rfl, rfl, fun j q hq => by rw [Go.WideShapes.add_plain, Nat.zero_add, hrw5.cell]; exact hq⟩) (by simp [Value.oneCell']) (by have := HV1.out; unfold maxLen; omega) (by have := HV1.out; omega) hm.b.size ?_
                intro v3 u3 hown2 hgrow hat
                exact hK.out _ _ ⟨v0, v2, _, _, _, _, _, _, _, _, _, _, by ((simp only [putAll, Act.put, List.setIfInBounds_toArray, List.set_cons_zero, List.set_cons_succ]) <;> rfl), h0.out, h1.out, h2.out, h3.out, h4.out, h5.out, (fun _ => rfl), (fun h => absurd (hm.m7 h) (by rw [hi]; decide)), (hm.second hi hown2 hgrow hown hl2 hl5 rfl)⟩
              refine Steps.cons (i := 7) rfl ?_ ?_
              · rintro L a u ⟨v0, v2, v5, v6, x0, x1, x2, x3, x4, x5, x6, x7, rfl, h0, h1, h2, h3, h4, h5, h6, h7, hm⟩ hi hd K hK
                simp only [putAll, Act.put, List.setIfInBounds_toArray, List.set_cons_zero, List.set_cons_succ]
                (try simp [Region.binds] at hd)
                replace h0 := Lib.hid h0
                replace h1 := Lib.hid h1
                replace h2 := Lib.hid h2
                replace h3 := Lib.hid h3
                replace h4 := Lib.hid h4
                replace h5 := Lib.hid h5
                replace h6 := Lib.hid h6
                replace h7 := Lib.hid h7
                obtain rfl := (h6.out (by simp [hd])).symm
                go_simp
                exact hK.out _ _ ⟨v0, v2, v5, v6, _, _, _, _, _, _, _, _, by ((simp only [putAll, Act.put, List.setIfInBounds_toArray, List.set_cons_zero, List.set_cons_succ]) <;> rfl), h0.out, h1.out, h2.out, h3.out, h4.out, h5.out, h6.out, (fun _ => rfl), (hm.last (by simp [hd]))⟩
              · exact Steps.nil
              · rintro L a u ⟨v0, v2, v5, v6, x0, x1, x2, x3, x4, x5, x6, x7, rfl, h0, h1, h2, h3, h4, h5, h6, h7, hm⟩ hall
                obtain rfl := (h7 (hall 7 (by decide))).symm
                simp only [putAll, Act.put, List.setIfInBounds_toArray, List.set_cons_zero, List.set_cons_succ]
                have HMID : Hid (Mid w n bc bx g y sl cl l b r0 r1 (.slice a0 LL.length c0) v6 z u) := mid_app S2.out T7.out hm.b HSTR.out HV1.out HV5.out (hm.r6 (hall 6 (by decide))) GF.out.tx.lim (GF.out.tx.lim1 HSL.out) HKD.out.1 HKD.out.2
                clear hm h0 h1 h2 h3 h4 h5 h6 hall
                go_wp2_with fail
                go_meet
                exact ⟨_, _, rfl, rfl, HMID⟩
          · as_aux_lemma =>
              have HST := Lib.hid (HSTR.out.later T6.out.b)
              have HDID := Lib.hid (GF.out.commit HSL.out fz (by omega))
              have KC0 := Lib.hid (T6.out.code (f := 10) (s := .slice sl l.length cl) (C := commitW M (x.fuse fz) l) (fun U ht => commit_c ht WF.out HSL.out cl HST.out))
              obtain ⟨C, hC⟩ : ∃ C, C = commitW M (x.fuse fz) l := ⟨_, rfl⟩
              rw [← hC] at HDID KC0
              obtain ⟨M', x', z⟩ := C
              have HKD := Lib.hid (did_kind HDID.out GF.out (by omega) (show y.what % 7 ≤ 3 by omega))
              have KC : Hid (Calls Tryd.prog 10 #[.pointer (some ⟨b, 0, none⟩), .slice sl l.length cl] w6 fun e w' => e = .returned (.int .i64 z) ∧ Fm w Pr w5 w' b r0 r1 g x' M') := KC0.out
              clear hC HDID HST KC0
              go_wp2_with fail
              refine KC.out.mono ?_
              rintro e w7 ⟨rfl, t7⟩
              have T7 := Lib.hid t7
              clear KC d0 d1 h7
              obtain ⟨vs, hv1, _, hv3, hv4, hv5⟩ := (S2.out.list t7).row
              have HV1 := Lib.hid hv1
              have HV3 := Lib.hid hv3
              have HV4 := Lib.hid hv4
              have HV5 := Lib.hid hv5
              have HQ : Hid (∀ u, Below w7.heap.size w7 u → u.cell? ⟨bx, 1, none⟩ = some (.slice sl l.length cl)) := fun u hu => ((S2.out.boxx T7.out).later hu).cell 1
              have HD : Hid (Below w7.heap.size w7 w7.drew) := (Below.refl _ _).drew
              clear t7 hv1 hv3 hv4 hv5
              go_upto_region 24 with (fail)
              refine wp_region_inv (I := (fun A0 L a u => ∃ (v0 : Value) (v2 : Value) (v5 : Value) (v6 : Value) (x0 x1 x2 x3 x4 x5 x6 x7 : Value), a = putAll A0 [(90, x0), (91, x1), (92, x2), (93, x3), (94, x4), (95, x5), (96, x6), (15, x7)] ∧ (L 0 = true → x0 = v0) ∧ (L 1 = true → x1 = (.slice a0 LL.length c0)) ∧ (L 2 = true → x2 = v2) ∧ (L 3 = true → x3 = (.pointer (some ⟨bx, 1, Option.none⟩))) ∧ (L 4 = true → x4 = (.slice sl l.length cl)) ∧ (L 5 = true → x5 = v5) ∧ (L 6 = true → x6 = v6) ∧ (L 7 = true → x7 = v6) ∧ Ap2 w7 vs (.slice sl l.length cl) (L 0) (L 2) (L 5) (L 6) (L 7) v0 v2 v5 v6 u)) (by kernel_rfl) (by kernel_rfl) ?_ ?_ ?_
              · intro L hL
                exact ⟨undef, undef, undef, undef, _, _, _, _, _, _, _, _, by (simp only [putAll, Act.put, List.setIfInBounds_toArray, List.set_cons_zero, List.set_cons_succ]; rfl), (fun h => absurd h (by rw [hL 0 (by decide)]; decide)), (fun h => absurd h (by rw [hL 1 (by decide)]; decide)), (fun h => absurd h (by rw [hL 2 (by decide)]; decide)), (fun h => absurd h (by rw [hL 3 (by decide)]; decide)), (fun h => absurd h (by rw [hL 4 (by decide)]; decide)), (fun h => absurd h (by rw [hL 5 (by decide)]; decide)), (fun h => absurd h (by rw [hL 6 (by decide)]; decide)), (fun h => absurd h (by rw [hL 7 (by decide)]; decide)), by rw [hL 0 (by decide), hL 2 (by decide), hL 5 (by decide), hL 6 (by decide), hL 7 (by decide)]; exact Ap2.start HD.out⟩
              refine Steps.cons (i := 0) rfl ?_ ?_
              · rintro L a u ⟨v0, v2, v5, v6, x0, x1, x2, x3, x4, x5, x6, x7, rfl, h0, h1, h2, h3, h4, h5, h6, h7, hm⟩ hi hd K hK
                simp only [putAll, Act.put, List.setIfInBounds_toArray, List.set_cons_zero, List.set_cons_succ]
                (try simp [Region.binds] at hd)
                replace h0 := Lib.hid h0
                replace h1 := Lib.hid h1
                replace h2 := Lib.hid h2
                replace h3 := Lib.hid h3
                replace h4 := Lib.hid h4
                replace h5 := Lib.hid h5
                replace h6 := Lib.hid h6
                replace h7 := Lib.hid h7
                go_simp
                exact hK.out _ _ ⟨_, v2, v5, v6, _, _, _, _, _, _, _, _, by ((simp only [putAll, Act.put, List.setIfInBounds_toArray, List.set_cons_zero, List.set_cons_succ]) <;> rfl), (fun _ => rfl), h1.out, h2.out, h3.out, h4.out, h5.out, h6.out, h7.out, (hm.zero hi)⟩
              refine Steps.cons (i := 1) rfl ?_ ?_
              · rintro L a u ⟨v0, v2, v5, v6, x0, x1, x2, x3, x4, x5, x6, x7, rfl, h0, h1, h2, h3, h4, h5, h6, h7, hm⟩ hi hd K hK
                simp only [putAll, Act.put, List.setIfInBounds_toArray, List.set_cons_zero, List.set_cons_succ]
                (try simp [Region.binds] at hd)
                replace h0 := Lib.hid h0
                replace h1 := Lib.hid h1
                replace h2 := Lib.hid h2
                replace h3 := Lib.hid h3
                replace h4 := Lib.hid h4
                replace h5 := Lib.hid h5
                replace h6 := Lib.hid h6
                replace h7 := Lib.hid h7
                go_simp
                exact hK.out _ _ ⟨v0, v2, v5, v6, _, _, _, _, _, _, _, _, by ((simp only [putAll, Act.put, List.setIfInBounds_toArray, List.set_cons_zero, List.set_cons_succ]) <;> rfl), h0.out, (fun _ => rfl), h2.out, h3.out, h4.out, h5.out, h6.out, h7.out, hm⟩
              refine Steps.cons (i := 2) rfl ?_ ?_
              · rintro L a u ⟨v0, v2, v5, v6, x0, x1, x2, x3, x4, x5, x6, x7, rfl, h0, h1, h2, h3, h4, h5, h6, h7, hm⟩ hi hd K hK
                simp only [putAll, Act.put, List.setIfInBounds_toArray, List.set_cons_zero, List.set_cons_succ]
                (try simp [Region.binds] at hd)
                replace h0 := Lib.hid h0
                replace h1 := Lib.hid h1
                replace h2 := Lib.hid h2
                replace h3 := Lib.hid h3
                replace h4 := Lib.hid h4
                replace h5 := Lib.hid h5
                replace h6 := Lib.hid h6
                replace h7 := Lib.hid h7
                obtain rfl := (h0.out (by simp [hd])).symm
                obtain rfl := (h1.out (by simp [hd])).symm
                have hl0 : L 0 = true := by simp [hd]
                have hown := hm.r0 hl0 hi
                rw [if_pos (by rfl)]
                refine wp_append_any (.tmp 90) (.tmp 91) 38 rfl w7.heap.size TLs i0 (.slice none 0 0) 1 24 Tryd.underlying38 hi0 hz0 hz1 hz2 rfl (by decide) v0 0 [] (by rfl) hown a0 LL.length c0 vs (by rfl) (HV3.out u hm.b) HV4.out (by unfold maxLen; omega) (by omega) hm.b.size ?_
                intro v3 u3 hown2 hgrow hat
                exact hK.out _ _ ⟨v0, _, v5, v6, _, _, _, _, _, _, _, _, by ((simp only [putAll, Act.put, List.setIfInBounds_toArray, List.set_cons_zero, List.set_cons_succ]) <;> rfl), h0.out, h1.out, (fun _ => rfl), h3.out, h4.out, h5.out, h6.out, h7.out, (hm.first hi hown2 hgrow hat hown hl0 HV1.out.symm)⟩
              refine Steps.cons (i := 3) rfl ?_ ?_
              · rintro L a u ⟨v0, v2, v5, v6, x0, x1, x2, x3, x4, x5, x6, x7, rfl, h0, h1, h2, h3, h4, h5, h6, h7, hm⟩ hi hd K hK
                simp only [putAll, Act.put, List.setIfInBounds_toArray, List.set_cons_zero, List.set_cons_succ]
                (try simp [Region.binds] at hd)
                replace h0 := Lib.hid h0
                replace h1 := Lib.hid h1
                replace h2 := Lib.hid h2
                replace h3 := Lib.hid h3
                replace h4 := Lib.hid h4
                replace h5 := Lib.hid h5
                replace h6 := Lib.hid h6
                replace h7 := Lib.hid h7
                go_simp
                exact hK.out _ _ ⟨v0, v2, v5, v6, _, _, _, _, _, _, _, _, by ((simp only [putAll, Act.put, List.setIfInBounds_toArray, List.set_cons_zero, List.set_cons_succ]) <;> rfl), h0.out, h1.out, h2.out, (fun _ => rfl), h4.out, h5.out, h6.out, h7.out, hm⟩
              refine Steps.cons (i := 4) rfl ?_ ?_
              · rintro L a u ⟨v0, v2, v5, v6, x0, x1, x2, x3, x4, x5, x6, x7, rfl, h0, h1, h2, h3, h4, h5, h6, h7, hm⟩ hi hd K hK
                simp only [putAll, Act.put, List.setIfInBounds_toArray, List.set_cons_zero, List.set_cons_succ]
                (try simp [Region.binds] at hd)
                replace h0 := Lib.hid h0
                replace h1 := Lib.hid h1
                replace h2 := Lib.hid h2
                replace h3 := Lib.hid h3
                replace h4 := Lib.hid h4
                replace h5 := Lib.hid h5
                replace h6 := Lib.hid h6
                replace h7 := Lib.hid h7
                obtain rfl := (h3.out (by simp [hd])).symm
                have c1 := HQ.out u hm.b
                go_simp
                exact hK.out _ _ ⟨v0, v2, v5, v6, _, _, _, _, _, _, _, _, by ((simp only [putAll, Act.put, List.setIfInBounds_toArray, List.set_cons_zero, List.set_cons_succ]) <;> rfl), h0.out, h1.out, h2.out, h3.out, (fun _ => rfl), h5.out, h6.out, h7.out, hm⟩
              refine Steps.cons (i := 5) rfl ?_ ?_
              · rintro L a u ⟨v0, v2, v5, v6, x0, x1, x2, x3, x4, x5, x6, x7, rfl, h0, h1, h2, h3, h4, h5, h6, h7, hm⟩ hi hd K hK
                simp only [putAll, Act.put, List.setIfInBounds_toArray, List.set_cons_zero, List.set_cons_succ]
                (try simp [Region.binds] at hd)
                replace h0 := Lib.hid h0
                replace h1 := Lib.hid h1
                replace h2 := Lib.hid h2
                replace h3 := Lib.hid h3
                replace h4 := Lib.hid h4
                replace h5 := Lib.hid h5
                replace h6 := Lib.hid h6
                replace h7 := Lib.hid h7
                obtain rfl := (h4.out (by simp [hd])).symm
                go_simp
                exact hK.out _ _ ⟨v0, v2, _, v6, _, _, _, _, _, _, _, _, by ((simp only [putAll, Act.put, List.setIfInBounds_toArray, List.set_cons_zero, List.set_cons_succ]) <;> rfl), h0.out, h1.out, h2.out, h3.out, h4.out, (fun _ => rfl), h6.out, h7.out, (hm.one hi)⟩
              refine Steps.cons (i := 6) rfl ?_ ?_
              · rintro L a u ⟨v0, v2, v5, v6, x0, x1, x2, x3, x4, x5, x6, x7, rfl, h0, h1, h2, h3, h4, h5, h6, h7, hm⟩ hi hd K hK
                simp only [putAll, Act.put, List.setIfInBounds_toArray, List.set_cons_zero, List.set_cons_succ]
                (try simp [Region.binds] at hd)
                replace h0 := Lib.hid h0
                replace h1 := Lib.hid h1
                replace h2 := Lib.hid h2
                replace h3 := Lib.hid h3
                replace h4 := Lib.hid h4
                replace h5 := Lib.hid h5
                replace h6 := Lib.hid h6
                replace h7 := Lib.hid h7
                obtain rfl := (h2.out (by simp [hd])).symm
                obtain rfl := (h5.out (by simp [hd])).symm
                have hl2 : L 2 = true := by simp [hd]
                have hl5 : L 5 = true := by simp [hd]
                have hown := hm.r2 hl2 hi
                obtain ⟨g5, hv5e, hrw5, _, _⟩ := hm.r5 hl5 hi
                subst hv5e
                rw [if_pos (by rfl)]
                refine wp_append_any (.tmp 92) (.tmp 95) 38 rfl w7.heap.size TLs i0 (.slice none 0 0) 1 24 Tryd.underlying38 hi0 hz0 hz1 hz2 rfl (by decide) v2 vs.length vs (by rfl) hown (some ⟨g5, 0, none⟩) 1 1 [.slice sl l.length cl] (by rfl) (.inr ⟨_, rfl, rfl, fun j q hq => by rw [Go.WideShapes.add_plain, Nat.zero_add, hrw5.cell]; exact hq⟩) (by simp [Value.oneCell']) (by have := HV1.out; unfold maxLen; omega) (by have := HV1.out; omega) hm.b.size ?_
                intro v3 u3 hown2 hgrow hat
                exact hK.out _ _ ⟨v0, v2, _, _, _, _, _, _, _, _, _, _, by ((simp only [putAll, Act.put, List.setIfInBounds_toArray, List.set_cons_zero, List.set_cons_succ]) <;> rfl), h0.out, h1.out, h2.out, h3.out, h4.out, h5.out, (fun _ => rfl), (fun h => absurd (hm.m7 h) (by rw [hi]; decide)), (hm.second hi hown2 hgrow hown hl2 hl5 rfl)⟩
              refine Steps.cons (i := 7) rfl ?_ ?_
              · rintro L a u ⟨v0, v2, v5, v6, x0, x1, x2, x3, x4, x5, x6, x7, rfl, h0, h1, h2, h3, h4, h5, h6, h7, hm⟩ hi hd K hK
                simp only [putAll, Act.put, List.setIfInBounds_toArray, List.set_cons_zero, List.set_cons_succ]
                (try simp [Region.binds] at hd)
                replace h0 := Lib.hid h0
                replace h1 := Lib.hid h1
                replace h2 := Lib.hid h2
                replace h3 := Lib.hid h3
                replace h4 := Lib.hid h4
                replace h5 := Lib.hid h5
                replace h6 := Lib.hid h6
                replace h7 := Lib.hid h7
                obtain rfl := (h6.out (by simp [hd])).symm
                go_simp
                exact hK.out _ _ ⟨v0, v2, v5, v6, _, _, _, _, _, _, _, _, by ((simp only [putAll, Act.put, List.setIfInBounds_toArray, List.set_cons_zero, List.set_cons_succ]) <;> rfl), h0.out, h1.out, h2.out, h3.out, h4.out, h5.out, h6.out, (fun _ => rfl), (hm.last (by simp [hd]))⟩
              · exact Steps.nil
              · rintro L a u ⟨v0, v2, v5, v6, x0, x1, x2, x3, x4, x5, x6, x7, rfl, h0, h1, h2, h3, h4, h5, h6, h7, hm⟩ hall
                obtain rfl := (h7 (hall 7 (by decide))).symm
                simp only [putAll, Act.put, List.setIfInBounds_toArray, List.set_cons_zero, List.set_cons_succ]
                have HMID : Hid (Mid w n bc bx g y sl cl l b r0 r1 (.slice a0 LL.length c0) v6 z u) := mid_app S2.out T7.out hm.b HSTR.out HV1.out HV5.out (hm.r6 (hall 6 (by decide))) GF.out.tx.lim (GF.out.tx.lim1 HSL.out) HKD.out.1 HKD.out.2
                clear hm h0 h1 h2 h3 h4 h5 h6 hall
                go_wp2_with fail
                go_meet
                exact ⟨_, _, rfl, rfl, HMID⟩
          · as_aux_lemma =>
              have HST := Lib.hid (HSTR.out.later T6.out.b)
              have HDID := Lib.hid (GF.out.commit HSL.out fz (by omega))
              have KC0 := Lib.hid (T6.out.code (f := 10) (s := .slice sl l.length cl) (C := commitW M (x.fuse fz) l) (fun U ht => commit_c ht WF.out HSL.out cl HST.out))
              obtain ⟨C, hC⟩ : ∃ C, C = commitW M (x.fuse fz) l := ⟨_, rfl⟩
              rw [← hC] at HDID KC0
              obtain ⟨M', x', z⟩ := C
              have HKD := Lib.hid (did_kind HDID.out GF.out (by omega) (show y.what % 7 ≤ 3 by omega))
              have KC : Hid (Calls Tryd.prog 10 #[.pointer (some ⟨b, 0, none⟩), .slice sl l.length cl] w6 fun e w' => e = .returned (.int .i64 z) ∧ Fm w Pr w5 w' b r0 r1 g x' M') := KC0.out
              clear hC HDID HST KC0
              go_wp2_with fail
              refine KC.out.mono ?_
              rintro e w7 ⟨rfl, t7⟩
              have T7 := Lib.hid t7
              clear KC d0 d1 h7
              obtain ⟨vs, hv1, _, hv3, hv4, hv5⟩ := (S2.out.list t7).row
              have HV1 := Lib.hid hv1
              have HV3 := Lib.hid hv3
              have HV4 := Lib.hid hv4
              have HV5 := Lib.hid hv5
              have HQ : Hid (∀ u, Below w7.heap.size w7 u → u.cell? ⟨bx, 1, none⟩ = some (.slice sl l.length cl)) := fun u hu => ((S2.out.boxx T7.out).later hu).cell 1
              have HD : Hid (Below w7.heap.size w7 w7.drew) := (Below.refl _ _).drew
              clear t7 hv1 hv3 hv4 hv5
              go_upto_region 24 with (fail)
              refine wp_region_inv (I := (fun A0 L a u => ∃ (v0 : Value) (v2 : Value) (v5 : Value) (v6 : Value) (x0 x1 x2 x3 x4 x5 x6 x7 : Value), a = putAll A0 [(90, x0), (91, x1), (92, x2), (93, x3), (94, x4), (95, x5), (96, x6), (15, x7)] ∧ (L 0 = true → x0 = v0) ∧ (L 1 = true → x1 = (.slice a0 LL.length c0)) ∧ (L 2 = true → x2 = v2) ∧ (L 3 = true → x3 = (.pointer (some ⟨bx, 1, Option.none⟩))) ∧ (L 4 = true → x4 = (.slice sl l.length cl)) ∧ (L 5 = true → x5 = v5) ∧ (L 6 = true → x6 = v6) ∧ (L 7 = true → x7 = v6) ∧ Ap2 w7 vs (.slice sl l.length cl) (L 0) (L 2) (L 5) (L 6) (L 7) v0 v2 v5 v6 u)) (by kernel_rfl) (by kernel_rfl) ?_ ?_ ?_
              · intro L hL
                exact ⟨undef, undef, undef, undef, _, _, _, _, _, _, _, _, by (simp only [putAll, Act.put, List.setIfInBounds_toArray, List.set_cons_zero, List.set_cons_succ]; rfl), (fun h => absurd h (by rw [hL 0 (by decide)]; decide)), (fun h => absurd h (by rw [hL 1 (by decide)]; decide)), (fun h => absurd h (by rw [hL 2 (by decide)]; decide)), (fun h => absurd h (by rw [hL 3 (by decide)]; decide)), (fun h => absurd h (by rw [hL 4 (by decide)]; decide)), (fun h => absurd h (by rw [hL 5 (by decide)]; decide)), (fun h => absurd h (by rw [hL 6 (by decide)]; decide)), (fun h => absurd h (by rw [hL 7 (by decide)]; decide)), by rw [hL 0 (by decide), hL 2 (by decide), hL 5 (by decide), hL 6 (by decide), hL 7 (by decide)]; exact Ap2.start HD.out⟩
              refine Steps.cons (i := 0) rfl ?_ ?_
              · rintro L a u ⟨v0, v2, v5, v6, x0, x1, x2, x3, x4, x5, x6, x7, rfl, h0, h1, h2, h3, h4, h5, h6, h7, hm⟩ hi hd K hK
                simp only [putAll, Act.put, List.setIfInBounds_toArray, List.set_cons_zero, List.set_cons_succ]
                (try simp [Region.binds] at hd)
                replace h0 := Lib.hid h0
                replace h1 := Lib.hid h1
                replace h2 := Lib.hid h2
                replace h3 := Lib.hid h3
                replace h4 := Lib.hid h4
                replace h5 := Lib.hid h5
                replace h6 := Lib.hid h6
                replace h7 := Lib.hid h7
                go_simp
                exact hK.out _ _ ⟨_, v2, v5, v6, _, _, _, _, _, _, _, _, by ((simp only [putAll, Act.put, List.setIfInBounds_toArray, List.set_cons_zero, List.set_cons_succ]) <;> rfl), (fun _ => rfl), h1.out, h2.out, h3.out, h4.out, h5.out, h6.out, h7.out, (hm.zero hi)⟩
              refine Steps.cons (i := 1) rfl ?_ ?_
              · rintro L a u ⟨v0, v2, v5, v6, x0, x1, x2, x3, x4, x5, x6, x7, rfl, h0, h1, h2, h3, h4, h5, h6, h7, hm⟩ hi hd K hK
                simp only [putAll, Act.put, List.setIfInBounds_toArray, List.set_cons_zero, List.set_cons_succ]
                (try simp [Region.binds] at hd)
                replace h0 := Lib.hid h0
                replace h1 := Lib.hid h1
                replace h2 := Lib.hid h2
                replace h3 := Lib.hid h3
                replace h4 := Lib.hid h4
                replace h5 := Lib.hid h5
                replace h6 := Lib.hid h6
                replace h7 := Lib.hid h7
                go_simp
                exact hK.out _ _ ⟨v0, v2, v5, v6, _, _, _, _, _, _, _, _, by ((simp only [putAll, Act.put, List.setIfInBounds_toArray, List.set_cons_zero, List.set_cons_succ]) <;> rfl), h0.out, (fun _ => rfl), h2.out, h3.out, h4.out, h5.out, h6.out, h7.out, hm⟩
              refine Steps.cons (i := 2) rfl ?_ ?_
              · rintro L a u ⟨v0, v2, v5, v6, x0, x1, x2, x3, x4, x5, x6, x7, rfl, h0, h1, h2, h3, h4, h5, h6, h7, hm⟩ hi hd K hK
                simp only [putAll, Act.put, List.setIfInBounds_toArray, List.set_cons_zero, List.set_cons_succ]
                (try simp [Region.binds] at hd)
                replace h0 := Lib.hid h0
                replace h1 := Lib.hid h1
                replace h2 := Lib.hid h2
                replace h3 := Lib.hid h3
                replace h4 := Lib.hid h4
                replace h5 := Lib.hid h5
                replace h6 := Lib.hid h6
                replace h7 := Lib.hid h7
                obtain rfl := (h0.out (by simp [hd])).symm
                obtain rfl := (h1.out (by simp [hd])).symm
                have hl0 : L 0 = true := by simp [hd]
                have hown := hm.r0 hl0 hi
                rw [if_pos (by rfl)]
                refine wp_append_any (.tmp 90) (.tmp 91) 38 rfl w7.heap.size TLs i0 (.slice none 0 0) 1 24 Tryd.underlying38 hi0 hz0 hz1 hz2 rfl (by decide) v0 0 [] (by rfl) hown a0 LL.length c0 vs (by rfl) (HV3.out u hm.b) HV4.out (by unfold maxLen; omega) (by omega) hm.b.size ?_
                intro v3 u3 hown2 hgrow hat
                exact hK.out _ _ ⟨v0, _, v5, v6, _, _, _, _, _, _, _, _, by ((simp only [putAll, Act.put, List.setIfInBounds_toArray, List.set_cons_zero, List.set_cons_succ]) <;> rfl), h0.out, h1.out, (fun _ => rfl), h3.out, h4.out, h5.out, h6.out, h7.out, (hm.first hi hown2 hgrow hat hown hl0 HV1.out.symm)⟩
              refine Steps.cons (i := 3) rfl ?_ ?_
              · rintro L a u ⟨v0, v2, v5, v6, x0, x1, x2, x3, x4, x5, x6, x7, rfl, h0, h1, h2, h3, h4, h5, h6, h7, hm⟩ hi hd K hK
                simp only [putAll, Act.put, List.setIfInBounds_toArray, List.set_cons_zero, List.set_cons_succ]
                (try simp [Region.binds] at hd)
                replace h0 := Lib.hid h0
                replace h1 := Lib.hid h1
                replace h2 := Lib.hid h2
                replace h3 := Lib.hid h3
                replace h4 := Lib.hid h4
                replace h5 := Lib.hid h5
                replace h6 := Lib.hid h6
                replace h7 := Lib.hid h7
                go_simp
                exact hK.out _ _ ⟨v0, v2, v5, v6, _, _, _, _, _, _, _, _, by ((simp only [putAll, Act.put, List.setIfInBounds_toArray, List.set_cons_zero, List.set_cons_succ]) <;> rfl), h0.out, h1.out, h2.out, (fun _ => rfl), h4.out, h5.out, h6.out, h7.out, hm⟩
              refine Steps.cons (i := 4) rfl ?_ ?_
              · rintro L a u ⟨v0, v2, v5, v6, x0, x1, x2, x3, x4, x5, x6, x7, rfl, h0, h1, h2, h3, h4, h5, h6, h7, hm⟩ hi hd K hK
                simp only [putAll, Act.put, List.setIfInBounds_toArray, List.set_cons_zero, List.set_cons_succ]
                (try simp [Region.binds] at hd)
                replace h0 := Lib.hid h0
                replace h1 := Lib.hid h1
                replace h2 := Lib.hid h2
                replace h3 := Lib.hid h3
                replace h4 := Lib.hid h4
                replace h5 := Lib.hid h5
                replace h6 := Lib.hid h6
                replace h7 := Lib.hid h7
                obtain rfl := (h3.out (by simp [hd])).symm
                have c1 := HQ.out u hm.b
                go_simp
                exact hK.out _ _ ⟨v0, v2, v5, v6, _, _, _, _, _, _, _, _, by ((simp only [putAll, Act.put, List.setIfInBounds_toArray, List.set_cons_zero, List.set_cons_succ]) <;> rfl), h0.out, h1.out, h2.out, h3.out, (fun _ => rfl), h5.out, h6.out, h7.out, hm⟩
              refine Steps.cons (i := 5) rfl ?_ ?_
              · rintro L a u ⟨v0, v2, v5, v6, x0, x1, x2, x3, x4, x5, x6, x7, rfl, h0, h1, h2, h3, h4, h5, h6, h7, hm⟩ hi hd K hK
                simp only [putAll, Act.put, List.setIfInBounds_toArray, List.set_cons_zero, List.set_cons_succ]
                (try simp [Region.binds] at hd)
                replace h0 := Lib.hid h0
                replace h1 := Lib.hid h1
                replace h2 := Lib.hid h2
                replace h3 := Lib.hid h3
                replace h4 := Lib.hid h4
                replace h5 := Lib.hid h5
                replace h6 := Lib.hid h6
                replace h7 := Lib.hid h7
                obtain rfl := (h4.out (by simp [hd])).symm
                go_simp
                exact hK.out _ _ ⟨v0, v2, _, v6, _, _, _, _, _, _, _, _, by ((simp only [putAll, Act.put, List.setIfInBounds_toArray, List.set_cons_zero, List.set_cons_succ]) <;> rfl), h0.out, h1.out, h2.out, h3.out, h4.out, (fun _ => rfl), h6.out, h7.out, (hm.one hi)⟩
              refine Steps.cons (i := 6) rfl ?_ ?_
              · rintro L a u ⟨v0, v2, v5, v6, x0, x1, x2, x3, x4, x5, x6, x7, rfl, h0, h1, h2, h3, h4, h5, h6, h7, hm⟩ hi hd K hK
                simp only [putAll, Act.put, List.setIfInBounds_toArray, List.set_cons_zero, List.set_cons_succ]
                (try simp [Region.binds] at hd)
                replace h0 := Lib.hid h0
                replace h1 := Lib.hid h1
                replace h2 := Lib.hid h2
                replace h3 := Lib.hid h3
                replace h4 := Lib.hid h4
                replace h5 := Lib.hid h5
                replace h6 := Lib.hid h6
                replace h7 := Lib.hid h7
                obtain rfl := (h2.out (by simp [hd])).symm
                obtain rfl := (h5.out (by simp [hd])).symm
                have hl2 : L 2 = true := by simp [hd]
                have hl5 : L 5 = true := by simp [hd]
                have hown := hm.r2 hl2 hi
                obtain ⟨g5, hv5e, hrw5, _, _⟩ := hm.r5 hl5 hi
                subst hv5e
                rw [if_pos (by rfl)]
                refine wp_append_any (.tmp 92) (.tmp 95) 38 rfl w7.heap.size TLs i0 (.slice none 0 0) 1 24 Tryd.underlying38 hi0 hz0 hz1 hz2 rfl (by decide) v2 vs.length vs (by rfl) hown (some ⟨g5, 0, none⟩) 1 1 [.slice sl l.length cl] (by rfl) (.inr ⟨_, rfl, rfl, fun j q hq => by rw [Go.WideShapes.add_plain, Nat.zero_add, hrw5.cell]; exact hq⟩) (by simp [Value.oneCell']) (by have := HV1.out; unfold maxLen; omega) (by have := HV1.out; omega) hm.b.size ?_
                intro v3 u3 hown2 hgrow hat
                exact hK.out _ _ ⟨v0, v2, _, _, _, _, _, _, _, _, _, _, by ((simp only [putAll, Act.put, List.setIfInBounds_toArray, List.set_cons_zero, List.set_cons_succ]) <;> rfl), h0.out, h1.out, h2.out, h3.out, h4.out, h5.out, (fun _ => rfl), (fun h => absurd (hm.m7 h) (by rw [hi]; decide)), (hm.second hi hown2 hgrow hown hl2 hl5 rfl)⟩
              refine Steps.cons (i := 7) rfl ?_ ?_
              · rintro L a u ⟨v0, v2, v5, v6, x0, x1, x2, x3, x4, x5, x6, x7, rfl, h0, h1, h2, h3, h4, h5, h6, h7, hm⟩ hi hd K hK
                simp only [putAll, Act.put, List.setIfInBounds_toArray, List.set_cons_zero, List.set_cons_succ]
                (try simp [Region.binds] at hd)
                replace h0 := Lib.hid h0
                replace h1 := Lib.hid h1
                replace h2 := Lib.hid h2
                replace h3 := Lib.hid h3
                replace h4 := Lib.hid h4
                replace h5 := Lib.hid h5
                replace h6 := Lib.hid h6
                replace h7 := Lib.hid h7
                obtain rfl := (h6.out (by simp [hd])).symm
                go_simp
                exact hK.out _ _ ⟨v0, v2, v5, v6, _, _, _, _, _, _, _, _, by ((simp only [putAll, Act.put, List.setIfInBounds_toArray, List.set_cons_zero, List.set_cons_succ]) <;> rfl), h0.out, h1.out, h2.out, h3.out, h4.out, h5.out, h6.out, (fun _ => rfl), (hm.last (by simp [hd]))⟩
              · exact Steps.nil
              · rintro L a u ⟨v0, v2, v5, v6, x0, x1, x2, x3, x4, x5, x6, x7, rfl, h0, h1, h2, h3, h4, h5, h6, h7, hm⟩ hall
                obtain rfl := (h7 (hall 7 (by decide))).symm
                simp only [putAll, Act.put, List.setIfInBounds_toArray, List.set_cons_zero, List.set_cons_succ]
                have HMID : Hid (Mid w n bc bx g y sl cl l b r0 r1 (.slice a0 LL.length c0) v6 z u) := mid_app S2.out T7.out hm.b HSTR.out HV1.out HV5.out (hm.r6 (hall 6 (by decide))) GF.out.tx.lim (GF.out.tx.lim1 HSL.out) HKD.out.1 HKD.out.2
                clear hm h0 h1 h2 h3 h4 h5 h6 hall
                go_wp2_with fail
                go_meet
                exact ⟨_, _, rfl, rfl, HMID⟩
          · as_aux_lemma =>
              have HST := Lib.hid (HSTR.out.later T6.out.b)
              have HDID := Lib.hid (GF.out.save HSL.out fz (by omega))
              have KC0 := Lib.hid (T6.out.code (f := 11) (s := .slice sl l.length cl) (C := saveW M (x.fuse fz) l) (fun U ht => save_c ht WF.out HSL.out cl HST.out))
              obtain ⟨C, hC⟩ : ∃ C, C = saveW M (x.fuse fz) l := ⟨_, rfl⟩
              rw [← hC] at HDID KC0
              obtain ⟨M', x', z⟩ := C
              have HKD := Lib.hid (did_kind HDID.out GF.out (by omega) (show y.what % 7 ≤ 3 by omega))
              have KC : Hid (Calls Tryd.prog 11 #[.pointer (some ⟨b, 0, none⟩), .slice sl l.length cl] w6 fun e w' => e = .returned (.int .i64 z) ∧ Fm w Pr w5 w' b r0 r1 g x' M') := KC0.out
              clear hC HDID HST KC0
              go_wp2_with fail
              refine KC.out.mono ?_
              rintro e w7 ⟨rfl, t7⟩
              have T7 := Lib.hid t7
              clear KC d0 d1 h7
              have d1 : w7.cell? ⟨bx, 1, none⟩ = some (.slice sl l.length cl) := (S2.out.boxx t7).cell 1
              have HMID : Hid (Mid w n bc bx g y sl cl l b r0 r1 (.slice a0 LL.length c0) (.slice (some ⟨w7.heap.size, 0, none⟩) 1 1) z (w7.alloc (.cells #[.slice sl l.length cl] TLs))) :=
                mid_app (LP := []) (vs := []) S2.out T7.out ((Below.refl _ _).alloc (Nat.le_refl _) _) HSTR.out rfl (fun i q m hq => (by simp at hq)) (own_one w7 (.slice sl l.length cl) TLs w7.heap.size (Nat.le_refl _)) GF.out.tx.lim (lim_one HSL.out) HKD.out.1 HKD.out.2
              clear t7
              go_wp2_with fail
              go_meet
              exact ⟨_, _, rfl, rfl, HMID⟩
          · exact absurd h7 HN4.out
          · as_aux_lemma =>
              have HMID : Hid (Mid w n bc bx g y sl cl l b r0 r1 (.slice a0 LL.length c0) (.slice a0 LL.length c0) 0 w6) := ⟨w5, Pr, c, x.fuse fz, M, LL, LL, S2.out, S2.out.ll, T6.out, HX6.out, GF.out.tx.lim, GF.out.tx.lim, .inr ⟨GF.out.idle fz (by omega), .inr ⟨by omega, rfl, rfl⟩⟩⟩
              go_wp2_with fail
              go_meet
              exact ⟨_, _, rfl, rfl, HMID⟩
          · as_aux_lemma =>
              have HMID : Hid (Mid w n bc bx g y sl cl l b r0 r1 (.slice a0 LL.length c0) (.slice a0 LL.length c0) 0 w6) := ⟨w5, Pr, c, x.fuse fz, M, LL, LL, S2.out, S2.out.ll, T6.out, HX6.out, GF.out.tx.lim, GF.out.tx.lim, .inr ⟨GF.out.idle fz (by omega), .inr ⟨by omega, rfl, rfl⟩⟩⟩
              go_wp2_with fail
              go_meet
              exact ⟨_, _, rfl, rfl, HMID⟩
      · have KH : Hid (Calls Tryd.prog 7 #[] wr fun e w' => e = .returned (.bool true) ∧ Below wr.heap.size wr w') := head_c wr
        have HBW : Hid (Below w.heap.size w wr) := TT.out.fm.b
        have hend : ¬ (i : Int) < (A.length : Int) := by omega
        clear hkx hlt hi'
        go_wp2_with fail
        refine KH.out.mono ?_
        rintro e w3 ⟨rfl, hb⟩
        have HB3 : Hid (Below w.heap.size w w3) := HBW.out.trans (hb.mono HBW.out.size)
        clear hb
        go_wp2_with fail
        go_ret
        exact ⟨rfl, HB3.out⟩
end Go.Proofs.YtjlncjabiofklaaDoor.Wl
