/- RowFails: the law. -/
import Derived.Test.YtnfjgmdpokpbbaaDoorRkFails1
namespace Go.Proofs.YtnfjgmdpokpbbaaDoor.Rk
open Go Go.RowKit Dv Rf Shf
open Tal (Strs bas)
theorem stampN_lt' {top : Nat} {more : Int} (h : more ≤ 32767) : stampN top more ≤ top + 32768 := by unfold stampN; split <;> omega
theorem len_ba' (t : ByteArray) : t.data.toList.length = t.size := by simp
/-- What an act's box holds, all of it. -/
structure Bxa (w : World) (b : Nat) (y : Ac) : Prop where
  c0 : w.cell? ⟨b, 0, none⟩ = some (.int .u8 y.what)
  c1 : w.cell? ⟨b, 1, none⟩ = some (.int .i16 y.more)
  c2 : w.cell? ⟨b, 2, none⟩ = some (.string y.s)
  c3 : w.cell? ⟨b, 3, none⟩ = some (.int .u8 y.fuse)
  c4 : w.cell? ⟨b, 4, none⟩ = some (.int .u64 (y.c.keep : Int))
  c5 : w.cell? ⟨b, 5, none⟩ = some (.int .i64 y.c.torn)
  c6 : w.cell? ⟨b, 6, none⟩ = some (.int .i64 y.c.at')
theorem Bxa.new (w : World) (y : Ac) (T : TypeId) : Bxa (w.alloc (.cells #[.int .u8 y.what, .int .i16 y.more, .string y.s, .int .u8 y.fuse, .int .u64 (y.c.keep : Int), .int .i64 y.c.torn, .int .i64 y.c.at'] T)) w.heap.size y := by
  refine ⟨?_, ?_, ?_, ?_, ?_, ?_, ?_⟩ <;> simp [go_sem]
theorem Bxa.block {w w' : World} {b : Nat} {y : Ac} (h : Bxa w b y) (k : w'.heap[b]? = w.heap[b]?) : Bxa w' b y :=
  ⟨(World.cell?_of_block (a := ⟨b, 0, none⟩) k).trans h.c0, (World.cell?_of_block (a := ⟨b, 1, none⟩) k).trans h.c1, (World.cell?_of_block (a := ⟨b, 2, none⟩) k).trans h.c2, (World.cell?_of_block (a := ⟨b, 3, none⟩) k).trans h.c3, (World.cell?_of_block (a := ⟨b, 4, none⟩) k).trans h.c4, (World.cell?_of_block (a := ⟨b, 5, none⟩) k).trans h.c5, (World.cell?_of_block (a := ⟨b, 6, none⟩) k).trans h.c6⟩
theorem flm_bx {w W1 u : World} {bc bx r g : Nat} {x : Dr} {R : Rm} {vs vn : Value} {T0 S : List Sec} {y : Ac} (h : Flm w bc (fun j => j = bx) W1 u r g x R vs vn T0 S) (hb : Bxa W1 bx y) : Bxa u bx y := hb.block (h.p bx rfl).2.1
theorem putM_cases {R : Rm} {x : Dr} {p n : Nat} {t : List UInt8} (hd : R.down = false) (ht : t.length ≤ 98304) :
    (∃ z, putM R x p n t = (R, x, z) ∧ z ≠ 0 ∧ z ≠ 30) ∨
    (R.top < n ∧ p + Sf.many t.length ≤ R.n ∧ putM R x p n t = (⟨R.f, R.n, (if p = 0 then Ld.zero else R.S).took n t (Sf.many t.length), n, false⟩, drv x (R.f + p) (Sf.sheaf n t), 0)) ∨
    (R.top < n ∧ p + Sf.many t.length ≤ R.n ∧ ∃ m, putM R x p n t = (⟨R.f, R.n, R.S, R.top, true⟩, drv x (R.f + p) ((Sf.sheaf n t).take m), 30)) := by
  unfold putM
  rw [if_neg (by simp [hd])]
  by_cases h1 : n ≤ R.top
  · rw [if_pos h1]; exact .inl ⟨2, rfl, by decide, by decide⟩
  rw [if_neg h1, if_neg (show ¬ 98304 < t.length by omega)]
  by_cases h2 : R.n < p + Sf.many t.length
  · rw [if_pos h2]; exact .inl ⟨6, rfl, by decide, by decide⟩
  rw [if_neg h2]
  by_cases h3 : through x.F (Sf.many t.length) = Sf.many t.length
  · rw [if_pos h3]; exact .inr (.inl ⟨by omega, by omega, rfl⟩)
  · rw [if_neg h3]; exact .inr (.inr ⟨by omega, by omega, _, rfl⟩)
theorem putM_dead {R : Rm} {x : Dr} {p n : Nat} {t : List UInt8} (hd : R.down = true) : putM R x p n t = (R, x, 30) := by unfold putM; rw [if_pos hd]
theorem sync_cases (x : Dr) : (∃ F, x.sync = (⟨x.V, [], F⟩, 0)) ∨ x.sync = (x, 30) := by
  unfold Dr.sync
  cases burn x.F with
  | none => exact .inr rfl
  | some F => exact .inl ⟨F, rfl⟩
theorem took_e {L : List Sec} {R : Rm} {n k : Nat} {t : List UInt8} (h : Reads L R.S) : (if R.S.e = 0 then Ld.zero else R.S).took n t k = R.S.took n t k := by
  by_cases h0 : R.S.e = 0
  · rw [if_pos h0, h.fine.z (by have := h.fine.tl; omega)]
  · rw [if_neg h0]
theorem fuse_no (x : Dr) : x.fuse (-1) = ⟨x.D, x.P, none⟩ := rfl
theorem take_all (n : Nat) (t : List UInt8) : (Sf.sheaf n t).take (Sf.sheaf n t).length = Sf.sheaf n t := List.take_length
theorem through_take (x : Dr) (q n : Nat) (t : List UInt8) (m : Nat) : (drv x q ((Sf.sheaf n t).take m)).P.length ≤ x.P.length + Sf.many t.length := by
  have := Sf.sheaf_len n t
  unfold drv
  simp only [List.length_append, ws_len, List.length_take]
  omega
theorem drv_len (x : Dr) (q n : Nat) (t : List UInt8) : (drv x q (Sf.sheaf n t)).P.length ≤ x.P.length + Sf.many t.length := by
  have := through_take x q n t (Sf.sheaf n t).length
  rwa [take_all] at this
theorem drv_okM {x : Dr} (hx : x.Ok) {q n m : Nat} {t : List UInt8} (hn : n < 18446744073709551616) (hq : q + Sf.many t.length ≤ x.D.length) : (drv x q ((Sf.sheaf n t).take m)).Ok :=
  drv_ok hx (fun b hb => sheaf_64 hn b (List.mem_of_mem_take hb)) (by have := Sf.sheaf_len n t; simp; omega)
set_option maxRecDepth 100000 in
set_option maxHeartbeats 25600000 in
theorem fails_law (mn : Int) (a : Option Addr) (cap : Nat) (A : List Ac) (w : World) (hmn : 0 ≤ mn ∧ mn ≤ 255) (hA : Acs w a A) (hl : A.length ≤ 9223372036854775807) (hfit : ∀ x ∈ A, x.Fits) :
    Calls Tryd.prog 5 #[.int .u8 mn, .slice a A.length cap] w fun e w' => e = .returned (.bool true) ∧ Below w.heap.size w w' := by
  obtain ⟨m0, m1⟩ := hmn
  obtain ⟨n, hn⟩ : ∃ n : Nat, (n : Int) = 1 + mn % 16 := ⟨(1 + mn % 16).toNat, by omega⟩
  have hn1 : 1 ≤ n := by omega
  have hn16 : n ≤ 16 := by omega
  have HN := Lib.hid hn
  have HA := Lib.hid hA
  have HFIT := Lib.hid hfit
  obtain ⟨i0, hi, hz0, hz1, hz2⟩ := info_parts infoStr
  clear hA hfit hn
  go_enter Tryd.func5, Tryd.ntmps5
  go_wp2_with fail
  refine (os_new 16 (by decide) (by decide) _).mono ?_
  rintro e w1 ⟨g, rfl, ho, hb⟩
  have HO := Lib.hid ho
  have HB := Lib.hid hb
  clear ho hb
  go_wp2_with fail
  rw [← HN.out]
  have KO : Hid (Calls Tryd.prog 7 #[.pointer (some ⟨g, 0, none⟩), .int .i64 0, .int .i64 (n : Int)] w1 (OpRes (Dr.new 16) 0 n g w1)) :=
    open_c HO.out (Dr.new_ok 16 (by decide) (by decide)) 0 n hn1 (by omega) (by rw [show (Dr.new 16).D.length = 16 from rfl]; omega)
  refine KO.out.mono ?_
  intro e w2 hr
  obtain ⟨r, s, rfl, hs, hB2, hb⟩ := op_both HO.out hr
  have hsg : seg (Dr.new 16).V 0 n = List.replicate n (List.replicate 64 0) := by
    rw [show (Dr.new 16).V = List.replicate 16 (List.replicate 64 0) from rfl]; unfold seg; rw [List.drop_zero, List.take_replicate, Nat.min_eq_left (by omega)]
  rw [hsg] at hs hB2
  obtain rfl := hs.one (loaded_zero n)
  rw [top_zero] at hB2
  have FL0 : Hid (Fl0 n (Dr.new 16) ⟨0, n, Ld.zero, 0, false⟩ [] []) := by
    have hfs : Fs (seg (Dr.new 16).V 0 n) := by rw [hsg]; exact fs_zero n
    have hld : Loaded (seg (Dr.new 16).V 0 n) Ld.zero := by rw [hsg]; exact loaded_zero n
    have htp : Sf.top (seg (Dr.new 16).V 0 n) = 0 := by rw [hsg]; exact top_zero n
    exact ⟨Dr.new_ok 16 (by decide) (by decide), rfl, rfl, rfl, rfl, rfl, hfs, hld, htp.symm, rfl, safe_sure (z := Ld.zero) hfs hld (Nat.le_of_eq htp)⟩
  have HB2 : Hid (Below w.heap.size w w2) := HB.out.trans (hb.mono HB.out.size)
  have HT2 : Hid (Both (fun j => w.heap.size ≤ j) w2 r g (Dr.new 16) ⟨0, n, Ld.zero, 0, false⟩) := hB2.mono fun j hj => hj.elim id fun h => Nat.le_trans HB.out.size h
  clear hs hB2 hb hr hsg
  go_wp2_with fail
  have KG := Lib.hid (great_c A a cap w2 (HA.out.later HB2.out) hl)
  have HGR : Hid (greatB A = false → A.length ≤ 40 ∧ ∀ x ∈ A, x.s.size ≤ 600) := fun h => by
    unfold greatB at h
    rw [Bool.or_eq_false_iff] at h
    refine ⟨by simpa using h.2, fun x hx => ?_⟩
    have := List.any_eq_false.1 h.1 x hx
    simpa using this
  refine KG.out.mono ?_
  rintro e w' ⟨rfl, rfl⟩
  cases hg : greatB A with
  | true =>
    have KH := Lib.hid (head_c w2)
    clear hg
    go_wp2_with fail
    refine KH.out.mono ?_
    rintro e w3 ⟨rfl, hb⟩
    have HB3 : Hid (Below w.heap.size w w3) := HB2.out.trans (hb.mono HB2.out.size)
    clear hb
    go_wp2_with fail
    go_ret
    exact ⟨rfl, HB3.out⟩
  | false =>
    obtain ⟨h40, h600⟩ := HGR.out hg
    have H600 := Lib.hid h600
    clear hg h600
    go_wp2_with fail
    have KX : Hid (Calls Tryd.prog 22 #[.pointer (some ⟨r, 0, none⟩)] w2 (TxRes [] w2)) := by
      obtain ⟨tv, _, h2', _⟩ := HT2.out
      exact texts_c r g tv _ w2 h2' hn1 (Nat.zero_le _)
    refine KX.out.mono ?_
    rintro e w3 ⟨v0, rfl, ho, hb⟩
    have hv0 : ∃ a0 c0, v0 = .slice a0 0 c0 := own_slice ho
    obtain ⟨a0, c0, rfl⟩ := hv0
    have HT3 : Hid (Both (fun j => w.heap.size ≤ j ∧ j < w2.heap.size) w3 r g (Dr.new 16) ⟨0, n, Ld.zero, 0, false⟩) := HT2.out.lt.later hb
    have HO3 : Hid (Ow w2.heap.size w3 (.slice a0 0 c0) []) := ho
    have HB3 : Hid (Below w.heap.size w w3) := HB2.out.trans (hb.mono HB2.out.size)
    have hs23 := hb.size
    clear ho hb
    go_wp2_with fail
    have TT0 : Hid (Flm w w3.heap.size (fun _ => False) w (w3.alloc (.cells #[.int .u64 0, .int .i64 0, .int .i64 0] TC)) r g (Dr.new 16) ⟨0, n, Ld.zero, 0, false⟩ (.slice a0 0 c0) (.slice none 0 0) [] []) := by
      have hb : Below w3.heap.size w3 (w3.alloc (.cells #[.int .u64 0, .int .i64 0, .int .i64 0] TC)) := (Below.refl _ w3).alloc (Nat.le_refl _) _
      refine ⟨⟨_, HT3.out.later hb, fun j hj => hj.1, ?_⟩, (HO3.out.later hb).lower HB2.out.size, World.ownsRow_nil _ _ _ _, fun j _ e => by simp [Value.ownBlock] at e, ⟨⟨0, 0, 0⟩, ⟨by decide, by decide, by decide⟩, Rw.new w3 [.int .u64 0, .int .i64 0, .int .i64 0] TC⟩, fun _ h => h.elim, HB3.out.size, HB3.out.trans (hb.mono HB3.out.size)⟩
      rintro j (hj | hj | rfl | hj) hu
      · have := (HO3.out.lt j hj).1; have := hu.2; omega
      · simp [Value.ownBlock] at hj
      · have := hu.2; omega
      · exact hj
    obtain ⟨bc, hbc⟩ : ∃ bc, bc = w3.heap.size := ⟨_, rfl⟩
    generalize w3.alloc (.cells #[.int .u64 0, .int .i64 0, .int .i64 0] TC) = w4 at TT0 ⊢
    rw [← hbc] at TT0 ⊢
    clear hbc hs23
    go_loopg [8, 10, 11, 12, 13, 14, 16] A.length (fun kx s8 s10 s11 s12 s13 s14 s16 wr => ∃ (i r : Nat) (vs vn : Value) (x : Dr) (R : Rm) (T0 S : List Sec) (fz : Int) (tx : ByteArray), s16 = .int .i64 (i : Int) ∧ s8 = .pointer (some ⟨r, 0, none⟩) ∧ vs = s10 ∧ vn = s11 ∧ s12 = .int .i64 fz ∧ s13 = .int .u64 0 ∧ s14 = .string tx ∧ -1 ≤ fz ∧ fz ≤ 11 ∧ i ≤ A.length ∧ Hid (Flm w bc (fun _ => False) w wr r g x R vs vn T0 S) ∧ Hid (Fl0 n x R T0 S) ∧ x.P.length ≤ 20 * i ∧ A.length ≤ i + kx)
    case atStart => exact ⟨0, r, _, _, _, _, _, _, -1, ⟨#[]⟩, rfl, rfl, rfl, rfl, rfl, rfl, rfl, by omega, by omega, Nat.zero_le _, TT0, FL0, Nat.zero_le _, by omega⟩
    case round =>
      clear TT0 FL0
      obtain ⟨i, r, vs, vn, x, R, T0, S, fz, tx, rfl, rfl, rfl, rfl, rfl, rfl, rfl, fz0, fz1, hi', TT, FL, hP, hkx⟩ := hrel
      by_cases hlt : i < A.length
      · have hP2 : x.P.length ≤ 800 := by omega
        have HP2 := Lib.hid hP2
        have HP := Lib.hid hP
        have hyf := HFIT.out A[i] (List.getElem_mem hlt)
        have hy6 := H600.out A[i] (List.getElem_mem hlt)
        obtain ⟨ab, ao, rfl, hab, hc⟩ := (HA.out.later TT.out.b) i hlt
        obtain ⟨y, hy⟩ : ∃ y, A[i]'hlt = y := ⟨_, rfl⟩
        rw [hy] at hyf hy6
        have hc' : ∀ k v, y.cs[k]? = some v → wr.cell? ⟨ab, ao + i * 7 + k, none⟩ = some v := by rw [← hy]; exact hc
        have c0 : wr.cell? ⟨ab, ao + i * 7, none⟩ = some (.int .u8 y.what) := by simpa using hc' 0 _ rfl
        have c1 : wr.cell? ⟨ab, ao + i * 7 + 1, none⟩ = some (.int .i16 y.more) := hc' 1 _ rfl
        have c2 : wr.cell? ⟨ab, ao + i * 7 + 2, none⟩ = some (.string y.s) := hc' 2 _ rfl
        have c3 : wr.cell? ⟨ab, ao + i * 7 + 3, none⟩ = some (.int .u8 y.fuse) := hc' 3 _ rfl
        have c4 : wr.cell? ⟨ab, ao + i * 7 + 4, none⟩ = some (.int .u64 (y.c.keep : Int)) := hc' 4 _ rfl
        have c5 : wr.cell? ⟨ab, ao + i * 7 + 5, none⟩ = some (.int .i64 y.c.torn) := hc' 5 _ rfl
        have c6 : wr.cell? ⟨ab, ao + i * 7 + 6, none⟩ = some (.int .i64 y.c.at') := hc' 6 _ rfl
        have j0 : (0 : Int) ≤ (i : Int) := by omega
        have j1 : (i : Int) < (A.length : Int) := by omega
        have yw0 := hyf.what.1
        have yw1 := hyf.what.2
        have ym0 := hyf.more.1
        have ym1 := hyf.more.2
        have yf0 := hyf.fuse.1
        have yf1 := hyf.fuse.2
        have YC := Lib.hid hyf.c
        clear hc hc' hy hyf hab hP
        go_upto_region 15 with (fail)
        clear c0 c1 c2 c3 c4 c5 c6
        have T1 := Lib.hid (TT.out.box (.cells #[.int .u8 y.what, .int .i16 y.more, .string y.s, .int .u8 y.fuse, .int .u64 (y.c.keep : Int), .int .i64 y.c.torn, .int .i64 y.c.at'] 39))
        have X1 := Lib.hid (Bxa.new wr y 39)
        generalize wr.alloc (.cells #[.int .u8 y.what, .int .i16 y.more, .string y.s, .int .u8 y.fuse, .int .u64 (y.c.keep : Int), .int .i64 y.c.torn, .int .i64 y.c.at'] 39) = W1 at T1 X1 ⊢
        obtain ⟨bx, hbx⟩ : ∃ bx, bx = wr.heap.size := ⟨_, rfl⟩
        rw [← hbx] at T1 X1 ⊢
        clear hbx TT
        have HRN : Hid (0 < R.n) := by show 0 < R.n; rw [FL.out.nn]; exact hn1
        have HFT : Hid (∀ k : Int, k ≤ 9223372036854775807 → Fit (x.fuse k) R) := fun k hk => FL.out.fit hn1 hn16 (by omega) k hk
        have KTOP := Lib.hid (flm_top T1.out HRN.out)
        go_wp2_with fail
        refine KTOP.out.mono ?_
        rintro e w' ⟨rfl, rfl⟩
        by_cases hbig : 4611686018427387904 ≤ R.top
        · have hbig' : (4611686018427387904 : Int) ≤ (R.top : Int) := by omega
          have HBW : Hid (Below w.heap.size w W1) := T1.out.b
          clear hbig
          go_wp2_with fail
          refine (head_c _).mono ?_
          rintro e w3 ⟨rfl, hb⟩
          have HB3 : Hid (Below w.heap.size w w3) := HBW.out.trans (hb.mono HBW.out.size)
          clear hb
          go_wp2_with fail
          go_ret
          exact ⟨rfl, HB3.out⟩
        · have hbig' : (R.top : Int) < (4611686018427387904 : Int) := by omega
          have HRT9 : Hid (R.top ≤ 4611686018427387904) := by show _ ≤ _; omega
          clear hbig
          have dbig : decide ((4611686018427387904 : Int) ≤ (R.top : Int)) = false := decide_eq_false (by omega)
          clear hbig'
          go_wp2_with fail
          clear dbig
          have d1 := X1.out.c1
          have T1d : Hid (Flm w bc (fun j => j = bx) W1 W1.drew r g x R vs vn T0 S) := T1.out.later (Below.refl _ W1).drew
          have KTOPd := Lib.hid (flm_top T1d.out HRN.out)
          have d1d : W1.drew.cell? ⟨bx, 1, none⟩ = some (.int .i16 y.more) := by simpa using d1
          go_region_held3 (fun u => u.cell? ⟨bx, 1, none⟩ = some (.int .i16 y.more)) (go_keep) ((first | (go_at_call 23; refine KTOPd.out.mono ?_; rintro e w' ⟨rfl, rfl⟩) | (go_at_call 11; refine (stamp_c _ _ _ HRT9.out ym0 ym1).mono ?_; rintro e w' ⟨rfl, rfl⟩)))
          obtain ⟨st, hst⟩ : ∃ st, st = stampN R.top y.more := ⟨_, rfl⟩
          have hst9 : st ≤ R.top + 32768 := by rw [hst]; exact stampN_lt' ym1
          have HS64 : Hid (st < 18446744073709551616) := by have := HRT9.out; show _ < _; omega
          rw [← hst]
          clear hst d1 d1d hst9 KTOP KTOPd T1
          have X2 := flm_bx T1d.out X1.out
          generalize W1.drew = W2 at T1d X2 ⊢
          have d0 := X2.c0
          have h7 : y.what % 7 = 0 ∨ y.what % 7 = 1 ∨ y.what % 7 = 2 ∨ y.what % 7 = 3 ∨ y.what % 7 = 4 ∨ y.what % 7 = 5 ∨ y.what % 7 = 6 := by omega
          rcases h7 with h7 | h7 | h7 | h7 | h7 | h7 | h7
          · clear_value *
            as_aux_lemma =>
              have KFZ := Lib.hid (flm_fuse T1d.out FL.out.hx fz)
              go_wp2_with fail
              refine KFZ.out.mono ?_
              rintro e w3 ⟨rfl, t3⟩
              have T3 := Lib.hid t3
              have X3 := flm_bx t3 X1.out
              have hfit : Fit (x.fuse fz) R := HFT.out fz (by omega)
              have HFIT3 := Lib.hid hfit
              clear t3 d0 X2 KFZ T1d hfit
              have d0 := X3.c0
              have d2 := X3.c2
              have hff := FL.out.ff
              have hnn := FL.out.nn
              have hl6 : y.s.data.toList.length ≤ 98304 := by rw [len_ba']; omega
              have HL6 := Lib.hid hl6
              rcases putM_cases (p := R.S.e) (n := st) (t := y.s.data.toList) (x := x.fuse fz) FL.out.down hl6 with ⟨z, hz, z0, z30⟩ | ⟨ht, hE, hz⟩ | ⟨ht, hE, m, hz⟩
              · have KAD : Hid (Calls Tryd.prog 15 #[.pointer (some ⟨r, 0, none⟩), .int .u64 (st : Int), .string y.s] w3 fun e w' => e = .returned (.int .i64 z) ∧ Flm w bc (fun j => j = bx) W1 w' r g (x.fuse fz) R vs vn T0 S) := flm_add T3.out HFIT3.out R.S.e st y.s rfl HS64.out (by omega) _ hz
                have b0 : (z == 0) = false := beq_eq_false_iff_ne.2 z0
                have b3 : (z == 30) = false := beq_eq_false_iff_ne.2 z30
                have b4 : (z != 30) = true := by simpa using z30
                clear hz hff hnn hl6 z0 z30
                go_wp2_with fail
                refine KAD.out.mono ?_
                rintro e w5 ⟨rfl, t5⟩
                have T5 := Lib.hid t5
                clear t5 KAD d0 d2
                have XT := flm_bx T5.out X1.out
                have d0 := XT.c0
                have KF1 := Lib.hid (flm_fuse T5.out HFIT3.out.hx (-1))
                clear XT
                go_wp2_with fail
                refine KF1.out.mono ?_
                rintro e w9 ⟨rfl, t9⟩
                have T9 := Lib.hid t9.forget
                have FL9 : Hid (Fl0 n ((x.fuse fz).fuse (-1)) R T0 S) := (by rw [show (x.fuse fz).fuse (-1) = x by rw [fuse_no]; have := FL.out.F; show (⟨x.D, x.P, none⟩ : Dr) = x; rw [← this]]; exact FL.out)
                have HP9 : Hid (((x.fuse fz).fuse (-1)).P.length ≤ 20 * (i + 1)) := (by have := HP.out; show x.P.length ≤ _; omega)
                clear t9 KF1 d0
                go_wp2_with fail
                go_roundg (A.length - (i + 1))
                case measure => omega
                case rel => exact ⟨i + 1, r, vs, vn, (x.fuse fz).fuse (-1), R, T0, S, -1, tx, by simp, rfl, rfl, rfl, rfl, rfl, rfl, by omega, by omega, by omega, T9, FL9, HP9.out, by omega⟩
              · rw [hff] at hz
                have HFF := Lib.hid hff
                have hz2 : putM R (x.fuse fz) R.S.e st y.s.data.toList = (⟨0, R.n, R.S.took st y.s.data.toList (Sf.many y.s.data.toList.length), st, false⟩, drv (x.fuse fz) (0 + R.S.e) (Sf.sheaf st y.s.data.toList), 0) := by rw [hz, took_e FL.out.ld.r]
                have hE2 : R.S.e + Sf.many y.s.data.toList.length ≤ n := by omega
                have HE2 := Lib.hid hE2
                have HTT := Lib.hid ht
                have hSl : S.length ≤ 16 := by
                  have h1 := FL.out.tx
                  have h2 := FL.out.ld.r.fine
                  have h3 := congrArg List.length h1
                  rw [List.length_append] at h3
                  have := h2.tl
                  have := h2.le
                  rw [seg_len (by have := Dr.vlen x; have := FL.out.D; omega)] at this
                  omega
                have KAD : Hid (Calls Tryd.prog 15 #[.pointer (some ⟨r, 0, none⟩), .int .u64 (st : Int), .string y.s] w3 fun e w' => e = .returned (.int .i64 0) ∧ Flm w bc (fun j => j = bx) W1 w' r g (drv (x.fuse fz) (0 + R.S.e) (Sf.sheaf st y.s.data.toList)) ⟨0, R.n, R.S.took st y.s.data.toList (Sf.many y.s.data.toList.length), st, false⟩ vs vn T0 S) := flm_add T3.out HFIT3.out R.S.e st y.s rfl HS64.out (by omega) _ hz2
                clear hz hz2 hff hnn hl6 ht hE hE2
                go_wp2_with fail
                refine KAD.out.mono ?_
                rintro e w5 ⟨rfl, t5⟩
                have T5 := Lib.hid t5
                have X5 := flm_bx t5 X1.out
                clear d0 d2
                have d2 := X5.c2
                have HWB := Lib.hid t5.b
                clear t5 KAD X5
                go_wp2_with (at_builtin; refine wpList_append_own_at _ rfl _ _ 32 rfl w.heap.size TStr i0 (.string ⟨#[]⟩) 1 16 Tryd.underlying32 hi hz0 hz1 hz2 rfl (by decide) _ _ _ rfl (Rf.own_later T5.out.n ((Below.refl _ w5).alloc (Nat.le_refl _) _)) ⟨w5.heap.size, 0, none⟩ 1 1 [.string y.s] rfl rfl (one_new' _ _ _) (by simp [Value.oneCell']) (by unfold maxLen; omega) (by omega) (by have := HWB.out.size; simp; omega) ?_)
                intro vp w6 hown hgrow hnil hat
                obtain ⟨ap, cp, rfl⟩ := own_slice hown
                have T6 := Lib.hid (T5.out.push (t := y.s.data.toList) hown hgrow (by simpa using hat))
                clear hown hgrow hnil hat T5 d2
                have XT := flm_bx T6.out X1.out
                have d0 := XT.c0
                have KF1 := Lib.hid (flm_fuse T6.out (drv_ok HFIT3.out.hx (sheaf_64 HS64.out) (by rw [Sf.sheaf_len]; have := HE2.out; have := FL.out.D; show 0 + R.S.e + _ ≤ x.D.length; omega)) (-1))
                clear XT
                go_wp2_with fail
                refine KF1.out.mono ?_
                rintro e w9 ⟨rfl, t9⟩
                have T9 := Lib.hid t9.forget
                have FL9 : Hid (Fl0 n ((drv (x.fuse fz) (0 + R.S.e) (Sf.sheaf st y.s.data.toList)).fuse (-1)) ⟨0, R.n, R.S.took st y.s.data.toList (Sf.many y.s.data.toList.length), st, false⟩ T0 (S ++ [y.s.data.toList])) := (by have h := FL.out.add (F := (x.fuse fz).F) (s := st) (t := y.s.data.toList) hn16 HS64.out HTT.out HL6.out HE2.out; rw [HFF.out] at h; exact h)
                have HP9 : Hid (((drv (x.fuse fz) (0 + R.S.e) (Sf.sheaf st y.s.data.toList)).fuse (-1)).P.length ≤ 20 * (i + 1)) := (by have := HP.out; have := drv_len (x.fuse fz) (0 + R.S.e) st y.s.data.toList; have h5 : (x.fuse fz).P = x.P := rfl; rw [h5] at this; have := HE2.out; show (drv (x.fuse fz) (0 + R.S.e) (Sf.sheaf st y.s.data.toList)).P.length ≤ _; omega)
                clear t9 KF1 d0
                go_wp2_with fail
                go_roundg (A.length - (i + 1))
                case measure => omega
                case rel => exact ⟨i + 1, r, vs, _, (drv (x.fuse fz) (0 + R.S.e) (Sf.sheaf st y.s.data.toList)).fuse (-1), ⟨0, R.n, R.S.took st y.s.data.toList (Sf.many y.s.data.toList.length), st, false⟩, T0, (S ++ [y.s.data.toList]), -1, tx, by simp, rfl, rfl, rfl, rfl, rfl, rfl, by omega, by omega, by omega, T9, FL9, HP9.out, by omega⟩
              · rw [hff] at hz
                have HFF := Lib.hid hff
                have hE2 : R.S.e + Sf.many y.s.data.toList.length ≤ n := by omega
                have HE2 := Lib.hid hE2
                have HTT := Lib.hid ht
                have hDX : x.D.length = 16 := FL.out.D
                have HOKX : Hid ((drv (x.fuse fz) (0 + R.S.e) ((Sf.sheaf st y.s.data.toList).take m)).Ok) := drv_okM HFIT3.out.hx HS64.out (by show 0 + R.S.e + _ ≤ x.D.length; omega)
                have HPX : Hid ((drv (x.fuse fz) (0 + R.S.e) ((Sf.sheaf st y.s.data.toList).take m)).P.length ≤ 900) := by
                  have := through_take (x.fuse fz) (0 + R.S.e) st y.s.data.toList m
                  have h5 : (x.fuse fz).P = x.P := rfl
                  rw [h5] at this
                  have := HP2.out
                  show _ ≤ 900
                  omega
                have HDX : Hid ((drv (x.fuse fz) (0 + R.S.e) ((Sf.sheaf st y.s.data.toList).take m)).D.length = 16) := hDX
                have HFX : Hid (Fit (drv (x.fuse fz) (0 + R.S.e) ((Sf.sheaf st y.s.data.toList).take m)) ⟨0, R.n, R.S, R.top, true⟩) := by
                  have h := HFIT3.out
                  exact ⟨HOKX.out, by have := HPX.out; omega, h.n0, h.n9, by show 0 + R.n ≤ x.D.length; omega, h.t, h.e⟩
                have hSl : T0.length + S.length ≤ 16 := by
                  have h1 := FL.out.tx
                  have h2 := FL.out.ld.r.fine
                  have h3 := congrArg List.length h1
                  rw [List.length_append] at h3
                  have := h2.tl
                  have := h2.le
                  rw [seg_len (by have := Dr.vlen x; have := FL.out.D; omega)] at this
                  omega
                have hST : Hid (T0.length + (S ++ [y.s.data.toList]).length ≤ 17) := by show _ ≤ 17; simp; omega
                have HSF := FL.out.safe.add (s := st) (m := m) (t := y.s.data.toList) (by omega) ht HS64.out hl6 hE2
                have HCR : Hid (Safe (drv (x.fuse fz) (0 + R.S.e) ((Sf.sheaf st y.s.data.toList).take m)) n st (R.S.e + Sf.many y.s.data.toList.length) T0 (S ++ [y.s.data.toList])) := HSF
                have KAD : Hid (Calls Tryd.prog 15 #[.pointer (some ⟨r, 0, none⟩), .int .u64 (st : Int), .string y.s] w3 fun e w' => e = .returned (.int .i64 30) ∧ Flm w bc (fun j => j = bx) W1 w' r g (drv (x.fuse fz) (0 + R.S.e) ((Sf.sheaf st y.s.data.toList).take m)) ⟨0, R.n, R.S, R.top, true⟩ vs vn T0 S) := flm_add T3.out HFIT3.out R.S.e st y.s rfl HS64.out (by omega) _ hz
                clear hz hff hnn hl6 ht hE hE2 hDX HSF
                go_wp2_with fail
                refine KAD.out.mono ?_
                rintro e w5 ⟨rfl, t5⟩
                have T5 := Lib.hid t5
                have X5 := flm_bx t5 X1.out
                clear d0 d2
                have d2 := X5.c2
                have HWB := Lib.hid t5.b
                clear t5 KAD X5
                go_wp2_with (at_builtin; refine wpList_append_own_at _ rfl _ _ 32 rfl w.heap.size TStr i0 (.string ⟨#[]⟩) 1 16 Tryd.underlying32 hi hz0 hz1 hz2 rfl (by decide) _ _ _ rfl (Rf.own_later T5.out.n ((Below.refl _ w5).alloc (Nat.le_refl _) _)) ⟨w5.heap.size, 0, none⟩ 1 1 [.string y.s] rfl rfl (one_new' _ _ _) (by simp [Value.oneCell']) (by unfold maxLen; omega) (by omega) (by have := HWB.out.size; simp; omega) ?_)
                intro vp w6 hown hgrow hnil hat
                obtain ⟨ap, cp, rfl⟩ := own_slice hown
                have T6 := Lib.hid (T5.out.push (t := y.s.data.toList) hown hgrow (by simpa using hat))
                clear hown hgrow hnil hat T5 d2
                have hrn : 0 < (⟨0, R.n, R.S, R.top, true⟩ : Rm).n := by show 0 < _; first | omega | (have := HRN.out; omega)
                have KA : Hid (∀ u, Flm w bc (fun j => j = bx) W1 u r g (drv (x.fuse fz) (0 + R.S.e) ((Sf.sheaf st y.s.data.toList).take m)) ⟨0, R.n, R.S, R.top, true⟩ vs (.slice ap (S.length + 1) cp) T0 (S ++ [y.s.data.toList]) → Calls Tryd.prog 15 #[.pointer (some ⟨r, 0, none⟩), .int .u64 ((R.top : Int) + 1), .string ⟨#[]⟩] u fun e w' => e = .returned (.int .i64 30) ∧ Flm w bc (fun j => j = bx) W1 w' r g (drv (x.fuse fz) (0 + R.S.e) ((Sf.sheaf st y.s.data.toList).take m)) ⟨0, R.n, R.S, R.top, true⟩ vs (.slice ap (S.length + 1) cp) T0 (S ++ [y.s.data.toList])) := fun u hu => by
                  have := flm_add hu HFX.out (⟨0, R.n, R.S, R.top, true⟩ : Rm).S.e (R.top + 1) ⟨#[]⟩ rfl (by have := HRT9.out; omega) (by decide) _ (putM_dead rfl)
                  rwa [show ((R.top + 1 : Nat) : Int) = (R.top : Int) + 1 by omega] at this
                have KBG : Hid (∀ u, Flm w bc (fun j => j = bx) W1 u r g (drv (x.fuse fz) (0 + R.S.e) ((Sf.sheaf st y.s.data.toList).take m)) ⟨0, R.n, R.S, R.top, true⟩ vs (.slice ap (S.length + 1) cp) T0 (S ++ [y.s.data.toList]) → Calls Tryd.prog 16 #[.pointer (some ⟨r, 0, none⟩), .int .u64 ((R.top : Int) + 1), .string ⟨#[]⟩] u fun e w' => e = .returned (.int .i64 30) ∧ Flm w bc (fun j => j = bx) W1 w' r g (drv (x.fuse fz) (0 + R.S.e) ((Sf.sheaf st y.s.data.toList).take m)) ⟨0, R.n, R.S, R.top, true⟩ vs (.slice ap (S.length + 1) cp) T0 (S ++ [y.s.data.toList])) := fun u hu => by
                  have := flm_begin hu HFX.out (R.top + 1) ⟨#[]⟩ (by have := HRT9.out; omega) (by decide) _ (putM_dead rfl)
                  rwa [show ((R.top + 1 : Nat) : Int) = (R.top : Int) + 1 by omega] at this
                have q9 : (R.top : Int) + 1 ≤ 18446744073709551615 := by have := HRT9.out; omega
                go_wp2_with fail
                refine (flm_top T6.out hrn).mono ?_
                rintro e w' ⟨rfl, rfl⟩
                go_wp2_with fail
                refine (KA.out _ T6.out).mono ?_
                rintro e wA ⟨rfl, tA⟩
                have TA := Lib.hid tA
                clear tA
                go_wp2_with fail
                refine (flm_top TA.out hrn).mono ?_
                rintro e w' ⟨rfl, rfl⟩
                go_wp2_with fail
                refine (KBG.out _ TA.out).mono ?_
                rintro e wB ⟨rfl, tB⟩
                have TB := Lib.hid tB
                clear tB q9 hrn KA KBG
                have XD := flm_bx TB.out X1.out
                have d0 := XD.c0
                obtain ⟨cq, hcf, hcq⟩ := TB.out.c
                have e0 : wB.cell? ⟨bc, 0, none⟩ = some (.int .u64 (cq.keep : Int)) := hcq.cell 0
                have e1 : wB.cell? ⟨bc, 1, none⟩ = some (.int .i64 cq.torn) := hcq.cell 1
                have e2 : wB.cell? ⟨bc, 2, none⟩ = some (.int .i64 cq.at') := hcq.cell 2
                have KC : Hid (Calls Tryd.prog 25 #[.pointer (some ⟨g, 0, Option.none⟩), .agg #[.int .u64 (cq.keep : Int), .int .i64 cq.torn, .int .i64 cq.at']] wB fun e w' => e = .returned (.tuple #[]) ∧ Flm w bc (fun j => j = bx) W1 w' r g ((drv (x.fuse fz) (0 + R.S.e) ((Sf.sheaf st y.s.data.toList).take m)).crash cq) ⟨0, R.n, R.S, R.top, true⟩ vs (.slice ap (S.length + 1) cp) T0 (S ++ [y.s.data.toList])) := flm_crash TB.out HOKX.out (by have := HPX.out; omega) cq hcf
                have HOC : Hid (((drv (x.fuse fz) (0 + R.S.e) ((Sf.sheaf st y.s.data.toList).take m)).crash cq).Ok) := (HOKX.out).crash cq
                have HDC : Hid (((drv (x.fuse fz) (0 + R.S.e) ((Sf.sheaf st y.s.data.toList).take m)).crash cq).D.length = 16) := by show (crashTo _ _ _ _).length = 16; rw [crashTo_len]; exact HDX.out
                clear XD hcf hcq
                go_wp2_with fail
                refine KC.out.mono ?_
                rintro e wC ⟨rfl, tC⟩
                have TC1 := Lib.hid tC
                have KOP := Lib.hid (flm_open tC HOC.out n hn1 hn16 HDC.out)
                clear tC d0 e0 e1 e2 KC
                go_wp2_with fail
                refine KOP.out.mono ?_
                rintro e wD ⟨r', z, rfl, hz, tD⟩
                have TD := Lib.hid tD
                have HZ := Lib.hid hz
                have hzl : z.T.length ≤ 16 := by
                  have h2 := hz.r.fine
                  have := h2.tl
                  have := h2.le
                  rw [seg_len (by have := Dr.vlen ((drv (x.fuse fz) (0 + R.S.e) ((Sf.sheaf st y.s.data.toList).take m)).crash cq); have := HDC.out; omega)] at this
                  omega
                have KXX := Lib.hid (flm_texts tD hn1 (by show z.T.length ≤ _; omega))
                clear tD hz KOP
                go_wp2_with fail
                refine KXX.out.mono ?_
                rintro e wE ⟨vz, rfl, hv, hb⟩
                obtain ⟨av, cv, rfl⟩ := own_slice hv
                have HV : Hid (Ow wD.heap.size wE (.slice av z.T.length cv) z.T) := hv
                have HBE := Lib.hid hb
                clear hv hb KXX
                obtain ⟨hT, z2, jz, hz2, hj, hzT, _, _⟩ := HCR.out cq
                obtain rfl := hz2.one HZ.out
                have HT9 := Lib.hid hT
                have KB : Hid (Calls Tryd.prog 26 #[.slice av z2.T.length cv, vs, (.slice ap (S.length + 1) cp)] wE fun e w' => e = .returned (.bool true) ∧ Below wE.heap.size wE w') := by
                  have hst := TD.out.later HBE.out
                  have ho := HV.out
                  have hln := congrArg List.length hzT
                  refine begins_c wE wD.heap.size w.heap.size w.heap.size _ _ _ (T0) ((S ++ [y.s.data.toList])) jz hj ?_ (by rw [← hzT]; exact ho) hst.s hst.n
                  have h1 := hST.out
                  omega
                clear hT hz2 hj hzT hzl
                go_wp2_with fail
                refine KB.out.mono ?_
                rintro e wF ⟨rfl, hb⟩
                have HBF : Hid (Below wD.heap.size wD wF) := HBE.out.trans (hb.mono HBE.out.size)
                have HVF := Lib.hid (HV.out.later hb)
                clear hb KB
                have T9 := Lib.hid ((TD.out.fresh (HBF.out) (HVF.out)).forget)
                have FL9 : Hid (Fl0 n ((drv (x.fuse fz) (0 + R.S.e) ((Sf.sheaf st y.s.data.toList).take m)).crash cq) ⟨0, n, z2, Sf.top (seg ((drv (x.fuse fz) (0 + R.S.e) ((Sf.sheaf st y.s.data.toList).take m)).crash cq).V 0 n), false⟩ z2.T []) := fl0_open HOKX.out HDX.out (HT9.out) HZ.out
                go_wp2_with fail
                go_roundg (A.length - (i + 1))
                case measure => omega
                case rel => exact ⟨i + 1, r', _, _, (drv (x.fuse fz) (0 + R.S.e) ((Sf.sheaf st y.s.data.toList).take m)).crash cq, _, z2.T, [], -1, tx, by simp, rfl, rfl, rfl, rfl, rfl, rfl, by omega, by omega, by omega, T9, FL9, Nat.zero_le _, by omega⟩

          · clear_value *
            as_aux_lemma =>
              have KFZ := Lib.hid (flm_fuse T1d.out FL.out.hx fz)
              go_wp2_with fail
              refine KFZ.out.mono ?_
              rintro e w3 ⟨rfl, t3⟩
              have T3 := Lib.hid t3
              have X3 := flm_bx t3 X1.out
              have hfit : Fit (x.fuse fz) R := HFT.out fz (by omega)
              have HFIT3 := Lib.hid hfit
              clear t3 d0 X2 KFZ T1d hfit
              have d0 := X3.c0
              have d2 := X3.c2
              have hff := FL.out.ff
              have hnn := FL.out.nn
              have hl6 : y.s.data.toList.length ≤ 98304 := by rw [len_ba']; omega
              have HL6 := Lib.hid hl6
              rcases putM_cases (p := R.S.e) (n := st) (t := y.s.data.toList) (x := x.fuse fz) FL.out.down hl6 with ⟨z, hz, z0, z30⟩ | ⟨ht, hE, hz⟩ | ⟨ht, hE, m, hz⟩
              · have KAD : Hid (Calls Tryd.prog 15 #[.pointer (some ⟨r, 0, none⟩), .int .u64 (st : Int), .string y.s] w3 fun e w' => e = .returned (.int .i64 z) ∧ Flm w bc (fun j => j = bx) W1 w' r g (x.fuse fz) R vs vn T0 S) := flm_add T3.out HFIT3.out R.S.e st y.s rfl HS64.out (by omega) _ hz
                have b0 : (z == 0) = false := beq_eq_false_iff_ne.2 z0
                have b3 : (z == 30) = false := beq_eq_false_iff_ne.2 z30
                have b4 : (z != 30) = true := by simpa using z30
                clear hz hff hnn hl6 z0 z30
                go_wp2_with fail
                refine KAD.out.mono ?_
                rintro e w5 ⟨rfl, t5⟩
                have T5 := Lib.hid t5
                clear t5 KAD d0 d2
                have XT := flm_bx T5.out X1.out
                have d0 := XT.c0
                have KF1 := Lib.hid (flm_fuse T5.out HFIT3.out.hx (-1))
                clear XT
                go_wp2_with fail
                refine KF1.out.mono ?_
                rintro e w9 ⟨rfl, t9⟩
                have T9 := Lib.hid t9.forget
                have FL9 : Hid (Fl0 n ((x.fuse fz).fuse (-1)) R T0 S) := (by rw [show (x.fuse fz).fuse (-1) = x by rw [fuse_no]; have := FL.out.F; show (⟨x.D, x.P, none⟩ : Dr) = x; rw [← this]]; exact FL.out)
                have HP9 : Hid (((x.fuse fz).fuse (-1)).P.length ≤ 20 * (i + 1)) := (by have := HP.out; show x.P.length ≤ _; omega)
                clear t9 KF1 d0
                go_wp2_with fail
                go_roundg (A.length - (i + 1))
                case measure => omega
                case rel => exact ⟨i + 1, r, vs, vn, (x.fuse fz).fuse (-1), R, T0, S, -1, tx, by simp, rfl, rfl, rfl, rfl, rfl, rfl, by omega, by omega, by omega, T9, FL9, HP9.out, by omega⟩
              · rw [hff] at hz
                have HFF := Lib.hid hff
                have hz2 : putM R (x.fuse fz) R.S.e st y.s.data.toList = (⟨0, R.n, R.S.took st y.s.data.toList (Sf.many y.s.data.toList.length), st, false⟩, drv (x.fuse fz) (0 + R.S.e) (Sf.sheaf st y.s.data.toList), 0) := by rw [hz, took_e FL.out.ld.r]
                have hE2 : R.S.e + Sf.many y.s.data.toList.length ≤ n := by omega
                have HE2 := Lib.hid hE2
                have HTT := Lib.hid ht
                have hSl : S.length ≤ 16 := by
                  have h1 := FL.out.tx
                  have h2 := FL.out.ld.r.fine
                  have h3 := congrArg List.length h1
                  rw [List.length_append] at h3
                  have := h2.tl
                  have := h2.le
                  rw [seg_len (by have := Dr.vlen x; have := FL.out.D; omega)] at this
                  omega
                have KAD : Hid (Calls Tryd.prog 15 #[.pointer (some ⟨r, 0, none⟩), .int .u64 (st : Int), .string y.s] w3 fun e w' => e = .returned (.int .i64 0) ∧ Flm w bc (fun j => j = bx) W1 w' r g (drv (x.fuse fz) (0 + R.S.e) (Sf.sheaf st y.s.data.toList)) ⟨0, R.n, R.S.took st y.s.data.toList (Sf.many y.s.data.toList.length), st, false⟩ vs vn T0 S) := flm_add T3.out HFIT3.out R.S.e st y.s rfl HS64.out (by omega) _ hz2
                clear hz hz2 hff hnn hl6 ht hE hE2
                go_wp2_with fail
                refine KAD.out.mono ?_
                rintro e w5 ⟨rfl, t5⟩
                have T5 := Lib.hid t5
                have X5 := flm_bx t5 X1.out
                clear d0 d2
                have d2 := X5.c2
                have HWB := Lib.hid t5.b
                clear t5 KAD X5
                go_wp2_with (at_builtin; refine wpList_append_own_at _ rfl _ _ 32 rfl w.heap.size TStr i0 (.string ⟨#[]⟩) 1 16 Tryd.underlying32 hi hz0 hz1 hz2 rfl (by decide) _ _ _ rfl (Rf.own_later T5.out.n ((Below.refl _ w5).alloc (Nat.le_refl _) _)) ⟨w5.heap.size, 0, none⟩ 1 1 [.string y.s] rfl rfl (one_new' _ _ _) (by simp [Value.oneCell']) (by unfold maxLen; omega) (by omega) (by have := HWB.out.size; simp; omega) ?_)
                intro vp w6 hown hgrow hnil hat
                obtain ⟨ap, cp, rfl⟩ := own_slice hown
                have T6 := Lib.hid (T5.out.push (t := y.s.data.toList) hown hgrow (by simpa using hat))
                clear hown hgrow hnil hat T5 d2
                have XT := flm_bx T6.out X1.out
                have d0 := XT.c0
                have KF1 := Lib.hid (flm_fuse T6.out (drv_ok HFIT3.out.hx (sheaf_64 HS64.out) (by rw [Sf.sheaf_len]; have := HE2.out; have := FL.out.D; show 0 + R.S.e + _ ≤ x.D.length; omega)) (-1))
                clear XT
                go_wp2_with fail
                refine KF1.out.mono ?_
                rintro e w9 ⟨rfl, t9⟩
                have T9 := Lib.hid t9.forget
                have FL9 : Hid (Fl0 n ((drv (x.fuse fz) (0 + R.S.e) (Sf.sheaf st y.s.data.toList)).fuse (-1)) ⟨0, R.n, R.S.took st y.s.data.toList (Sf.many y.s.data.toList.length), st, false⟩ T0 (S ++ [y.s.data.toList])) := (by have h := FL.out.add (F := (x.fuse fz).F) (s := st) (t := y.s.data.toList) hn16 HS64.out HTT.out HL6.out HE2.out; rw [HFF.out] at h; exact h)
                have HP9 : Hid (((drv (x.fuse fz) (0 + R.S.e) (Sf.sheaf st y.s.data.toList)).fuse (-1)).P.length ≤ 20 * (i + 1)) := (by have := HP.out; have := drv_len (x.fuse fz) (0 + R.S.e) st y.s.data.toList; have h5 : (x.fuse fz).P = x.P := rfl; rw [h5] at this; have := HE2.out; show (drv (x.fuse fz) (0 + R.S.e) (Sf.sheaf st y.s.data.toList)).P.length ≤ _; omega)
                clear t9 KF1 d0
                go_wp2_with fail
                go_roundg (A.length - (i + 1))
                case measure => omega
                case rel => exact ⟨i + 1, r, vs, _, (drv (x.fuse fz) (0 + R.S.e) (Sf.sheaf st y.s.data.toList)).fuse (-1), ⟨0, R.n, R.S.took st y.s.data.toList (Sf.many y.s.data.toList.length), st, false⟩, T0, (S ++ [y.s.data.toList]), -1, tx, by simp, rfl, rfl, rfl, rfl, rfl, rfl, by omega, by omega, by omega, T9, FL9, HP9.out, by omega⟩
              · rw [hff] at hz
                have HFF := Lib.hid hff
                have hE2 : R.S.e + Sf.many y.s.data.toList.length ≤ n := by omega
                have HE2 := Lib.hid hE2
                have HTT := Lib.hid ht
                have hDX : x.D.length = 16 := FL.out.D
                have HOKX : Hid ((drv (x.fuse fz) (0 + R.S.e) ((Sf.sheaf st y.s.data.toList).take m)).Ok) := drv_okM HFIT3.out.hx HS64.out (by show 0 + R.S.e + _ ≤ x.D.length; omega)
                have HPX : Hid ((drv (x.fuse fz) (0 + R.S.e) ((Sf.sheaf st y.s.data.toList).take m)).P.length ≤ 900) := by
                  have := through_take (x.fuse fz) (0 + R.S.e) st y.s.data.toList m
                  have h5 : (x.fuse fz).P = x.P := rfl
                  rw [h5] at this
                  have := HP2.out
                  show _ ≤ 900
                  omega
                have HDX : Hid ((drv (x.fuse fz) (0 + R.S.e) ((Sf.sheaf st y.s.data.toList).take m)).D.length = 16) := hDX
                have HFX : Hid (Fit (drv (x.fuse fz) (0 + R.S.e) ((Sf.sheaf st y.s.data.toList).take m)) ⟨0, R.n, R.S, R.top, true⟩) := by
                  have h := HFIT3.out
                  exact ⟨HOKX.out, by have := HPX.out; omega, h.n0, h.n9, by show 0 + R.n ≤ x.D.length; omega, h.t, h.e⟩
                have hSl : T0.length + S.length ≤ 16 := by
                  have h1 := FL.out.tx
                  have h2 := FL.out.ld.r.fine
                  have h3 := congrArg List.length h1
                  rw [List.length_append] at h3
                  have := h2.tl
                  have := h2.le
                  rw [seg_len (by have := Dr.vlen x; have := FL.out.D; omega)] at this
                  omega
                have hST : Hid (T0.length + (S ++ [y.s.data.toList]).length ≤ 17) := by show _ ≤ 17; simp; omega
                have HSF := FL.out.safe.add (s := st) (m := m) (t := y.s.data.toList) (by omega) ht HS64.out hl6 hE2
                have HCR : Hid (Safe (drv (x.fuse fz) (0 + R.S.e) ((Sf.sheaf st y.s.data.toList).take m)) n st (R.S.e + Sf.many y.s.data.toList.length) T0 (S ++ [y.s.data.toList])) := HSF
                have KAD : Hid (Calls Tryd.prog 15 #[.pointer (some ⟨r, 0, none⟩), .int .u64 (st : Int), .string y.s] w3 fun e w' => e = .returned (.int .i64 30) ∧ Flm w bc (fun j => j = bx) W1 w' r g (drv (x.fuse fz) (0 + R.S.e) ((Sf.sheaf st y.s.data.toList).take m)) ⟨0, R.n, R.S, R.top, true⟩ vs vn T0 S) := flm_add T3.out HFIT3.out R.S.e st y.s rfl HS64.out (by omega) _ hz
                clear hz hff hnn hl6 ht hE hE2 hDX HSF
                go_wp2_with fail
                refine KAD.out.mono ?_
                rintro e w5 ⟨rfl, t5⟩
                have T5 := Lib.hid t5
                have X5 := flm_bx t5 X1.out
                clear d0 d2
                have d2 := X5.c2
                have HWB := Lib.hid t5.b
                clear t5 KAD X5
                go_wp2_with (at_builtin; refine wpList_append_own_at _ rfl _ _ 32 rfl w.heap.size TStr i0 (.string ⟨#[]⟩) 1 16 Tryd.underlying32 hi hz0 hz1 hz2 rfl (by decide) _ _ _ rfl (Rf.own_later T5.out.n ((Below.refl _ w5).alloc (Nat.le_refl _) _)) ⟨w5.heap.size, 0, none⟩ 1 1 [.string y.s] rfl rfl (one_new' _ _ _) (by simp [Value.oneCell']) (by unfold maxLen; omega) (by omega) (by have := HWB.out.size; simp; omega) ?_)
                intro vp w6 hown hgrow hnil hat
                obtain ⟨ap, cp, rfl⟩ := own_slice hown
                have T6 := Lib.hid (T5.out.push (t := y.s.data.toList) hown hgrow (by simpa using hat))
                clear hown hgrow hnil hat T5 d2
                have hrn : 0 < (⟨0, R.n, R.S, R.top, true⟩ : Rm).n := by show 0 < _; first | omega | (have := HRN.out; omega)
                have KA : Hid (∀ u, Flm w bc (fun j => j = bx) W1 u r g (drv (x.fuse fz) (0 + R.S.e) ((Sf.sheaf st y.s.data.toList).take m)) ⟨0, R.n, R.S, R.top, true⟩ vs (.slice ap (S.length + 1) cp) T0 (S ++ [y.s.data.toList]) → Calls Tryd.prog 15 #[.pointer (some ⟨r, 0, none⟩), .int .u64 ((R.top : Int) + 1), .string ⟨#[]⟩] u fun e w' => e = .returned (.int .i64 30) ∧ Flm w bc (fun j => j = bx) W1 w' r g (drv (x.fuse fz) (0 + R.S.e) ((Sf.sheaf st y.s.data.toList).take m)) ⟨0, R.n, R.S, R.top, true⟩ vs (.slice ap (S.length + 1) cp) T0 (S ++ [y.s.data.toList])) := fun u hu => by
                  have := flm_add hu HFX.out (⟨0, R.n, R.S, R.top, true⟩ : Rm).S.e (R.top + 1) ⟨#[]⟩ rfl (by have := HRT9.out; omega) (by decide) _ (putM_dead rfl)
                  rwa [show ((R.top + 1 : Nat) : Int) = (R.top : Int) + 1 by omega] at this
                have KBG : Hid (∀ u, Flm w bc (fun j => j = bx) W1 u r g (drv (x.fuse fz) (0 + R.S.e) ((Sf.sheaf st y.s.data.toList).take m)) ⟨0, R.n, R.S, R.top, true⟩ vs (.slice ap (S.length + 1) cp) T0 (S ++ [y.s.data.toList]) → Calls Tryd.prog 16 #[.pointer (some ⟨r, 0, none⟩), .int .u64 ((R.top : Int) + 1), .string ⟨#[]⟩] u fun e w' => e = .returned (.int .i64 30) ∧ Flm w bc (fun j => j = bx) W1 w' r g (drv (x.fuse fz) (0 + R.S.e) ((Sf.sheaf st y.s.data.toList).take m)) ⟨0, R.n, R.S, R.top, true⟩ vs (.slice ap (S.length + 1) cp) T0 (S ++ [y.s.data.toList])) := fun u hu => by
                  have := flm_begin hu HFX.out (R.top + 1) ⟨#[]⟩ (by have := HRT9.out; omega) (by decide) _ (putM_dead rfl)
                  rwa [show ((R.top + 1 : Nat) : Int) = (R.top : Int) + 1 by omega] at this
                have q9 : (R.top : Int) + 1 ≤ 18446744073709551615 := by have := HRT9.out; omega
                go_wp2_with fail
                refine (flm_top T6.out hrn).mono ?_
                rintro e w' ⟨rfl, rfl⟩
                go_wp2_with fail
                refine (KA.out _ T6.out).mono ?_
                rintro e wA ⟨rfl, tA⟩
                have TA := Lib.hid tA
                clear tA
                go_wp2_with fail
                refine (flm_top TA.out hrn).mono ?_
                rintro e w' ⟨rfl, rfl⟩
                go_wp2_with fail
                refine (KBG.out _ TA.out).mono ?_
                rintro e wB ⟨rfl, tB⟩
                have TB := Lib.hid tB
                clear tB q9 hrn KA KBG
                have XD := flm_bx TB.out X1.out
                have d0 := XD.c0
                obtain ⟨cq, hcf, hcq⟩ := TB.out.c
                have e0 : wB.cell? ⟨bc, 0, none⟩ = some (.int .u64 (cq.keep : Int)) := hcq.cell 0
                have e1 : wB.cell? ⟨bc, 1, none⟩ = some (.int .i64 cq.torn) := hcq.cell 1
                have e2 : wB.cell? ⟨bc, 2, none⟩ = some (.int .i64 cq.at') := hcq.cell 2
                have KC : Hid (Calls Tryd.prog 25 #[.pointer (some ⟨g, 0, Option.none⟩), .agg #[.int .u64 (cq.keep : Int), .int .i64 cq.torn, .int .i64 cq.at']] wB fun e w' => e = .returned (.tuple #[]) ∧ Flm w bc (fun j => j = bx) W1 w' r g ((drv (x.fuse fz) (0 + R.S.e) ((Sf.sheaf st y.s.data.toList).take m)).crash cq) ⟨0, R.n, R.S, R.top, true⟩ vs (.slice ap (S.length + 1) cp) T0 (S ++ [y.s.data.toList])) := flm_crash TB.out HOKX.out (by have := HPX.out; omega) cq hcf
                have HOC : Hid (((drv (x.fuse fz) (0 + R.S.e) ((Sf.sheaf st y.s.data.toList).take m)).crash cq).Ok) := (HOKX.out).crash cq
                have HDC : Hid (((drv (x.fuse fz) (0 + R.S.e) ((Sf.sheaf st y.s.data.toList).take m)).crash cq).D.length = 16) := by show (crashTo _ _ _ _).length = 16; rw [crashTo_len]; exact HDX.out
                clear XD hcf hcq
                go_wp2_with fail
                refine KC.out.mono ?_
                rintro e wC ⟨rfl, tC⟩
                have TC1 := Lib.hid tC
                have KOP := Lib.hid (flm_open tC HOC.out n hn1 hn16 HDC.out)
                clear tC d0 e0 e1 e2 KC
                go_wp2_with fail
                refine KOP.out.mono ?_
                rintro e wD ⟨r', z, rfl, hz, tD⟩
                have TD := Lib.hid tD
                have HZ := Lib.hid hz
                have hzl : z.T.length ≤ 16 := by
                  have h2 := hz.r.fine
                  have := h2.tl
                  have := h2.le
                  rw [seg_len (by have := Dr.vlen ((drv (x.fuse fz) (0 + R.S.e) ((Sf.sheaf st y.s.data.toList).take m)).crash cq); have := HDC.out; omega)] at this
                  omega
                have KXX := Lib.hid (flm_texts tD hn1 (by show z.T.length ≤ _; omega))
                clear tD hz KOP
                go_wp2_with fail
                refine KXX.out.mono ?_
                rintro e wE ⟨vz, rfl, hv, hb⟩
                obtain ⟨av, cv, rfl⟩ := own_slice hv
                have HV : Hid (Ow wD.heap.size wE (.slice av z.T.length cv) z.T) := hv
                have HBE := Lib.hid hb
                clear hv hb KXX
                obtain ⟨hT, z2, jz, hz2, hj, hzT, _, _⟩ := HCR.out cq
                obtain rfl := hz2.one HZ.out
                have HT9 := Lib.hid hT
                have KB : Hid (Calls Tryd.prog 26 #[.slice av z2.T.length cv, vs, (.slice ap (S.length + 1) cp)] wE fun e w' => e = .returned (.bool true) ∧ Below wE.heap.size wE w') := by
                  have hst := TD.out.later HBE.out
                  have ho := HV.out
                  have hln := congrArg List.length hzT
                  refine begins_c wE wD.heap.size w.heap.size w.heap.size _ _ _ (T0) ((S ++ [y.s.data.toList])) jz hj ?_ (by rw [← hzT]; exact ho) hst.s hst.n
                  have h1 := hST.out
                  omega
                clear hT hz2 hj hzT hzl
                go_wp2_with fail
                refine KB.out.mono ?_
                rintro e wF ⟨rfl, hb⟩
                have HBF : Hid (Below wD.heap.size wD wF) := HBE.out.trans (hb.mono HBE.out.size)
                have HVF := Lib.hid (HV.out.later hb)
                clear hb KB
                have T9 := Lib.hid ((TD.out.fresh (HBF.out) (HVF.out)).forget)
                have FL9 : Hid (Fl0 n ((drv (x.fuse fz) (0 + R.S.e) ((Sf.sheaf st y.s.data.toList).take m)).crash cq) ⟨0, n, z2, Sf.top (seg ((drv (x.fuse fz) (0 + R.S.e) ((Sf.sheaf st y.s.data.toList).take m)).crash cq).V 0 n), false⟩ z2.T []) := fl0_open HOKX.out HDX.out (HT9.out) HZ.out
                go_wp2_with fail
                go_roundg (A.length - (i + 1))
                case measure => omega
                case rel => exact ⟨i + 1, r', _, _, (drv (x.fuse fz) (0 + R.S.e) ((Sf.sheaf st y.s.data.toList).take m)).crash cq, _, z2.T, [], -1, tx, by simp, rfl, rfl, rfl, rfl, rfl, rfl, by omega, by omega, by omega, T9, FL9, Nat.zero_le _, by omega⟩

          · clear_value *
            as_aux_lemma =>
              have KFZ := Lib.hid (flm_fuse T1d.out FL.out.hx fz)
              go_wp2_with fail
              refine KFZ.out.mono ?_
              rintro e w3 ⟨rfl, t3⟩
              have T3 := Lib.hid t3
              have X3 := flm_bx t3 X1.out
              have hfit : Fit (x.fuse fz) R := HFT.out fz (by omega)
              have HFIT3 := Lib.hid hfit
              clear t3 d0 X2 KFZ T1d hfit
              have d0 := X3.c0
              have d2 := X3.c2
              have hff := FL.out.ff
              have hnn := FL.out.nn
              have hl6 : y.s.data.toList.length ≤ 98304 := by rw [len_ba']; omega
              have HL6 := Lib.hid hl6
              rcases putM_cases (p := 0) (n := st) (t := y.s.data.toList) (x := x.fuse fz) FL.out.down hl6 with ⟨z, hz, z0, z30⟩ | ⟨ht, hE, hz⟩ | ⟨ht, hE, m, hz⟩
              · have KAD : Hid (Calls Tryd.prog 16 #[.pointer (some ⟨r, 0, none⟩), .int .u64 (st : Int), .string y.s] w3 fun e w' => e = .returned (.int .i64 z) ∧ Flm w bc (fun j => j = bx) W1 w' r g (x.fuse fz) R vs vn T0 S) := flm_begin T3.out HFIT3.out st y.s HS64.out (by omega) _ hz
                have b0 : (z == 0) = false := beq_eq_false_iff_ne.2 z0
                have b3 : (z == 30) = false := beq_eq_false_iff_ne.2 z30
                have b4 : (z != 30) = true := by simpa using z30
                clear hz hff hnn hl6 z0 z30
                go_wp2_with fail
                refine KAD.out.mono ?_
                rintro e w5 ⟨rfl, t5⟩
                have T5 := Lib.hid t5
                clear t5 KAD d0 d2
                have XT := flm_bx T5.out X1.out
                have d0 := XT.c0
                have KF1 := Lib.hid (flm_fuse T5.out HFIT3.out.hx (-1))
                clear XT
                go_wp2_with fail
                refine KF1.out.mono ?_
                rintro e w9 ⟨rfl, t9⟩
                have T9 := Lib.hid t9.forget
                have FL9 : Hid (Fl0 n ((x.fuse fz).fuse (-1)) R T0 S) := (by rw [show (x.fuse fz).fuse (-1) = x by rw [fuse_no]; have := FL.out.F; show (⟨x.D, x.P, none⟩ : Dr) = x; rw [← this]]; exact FL.out)
                have HP9 : Hid (((x.fuse fz).fuse (-1)).P.length ≤ 20 * (i + 1)) := (by have := HP.out; show x.P.length ≤ _; omega)
                clear t9 KF1 d0
                go_wp2_with fail
                go_roundg (A.length - (i + 1))
                case measure => omega
                case rel => exact ⟨i + 1, r, vs, vn, (x.fuse fz).fuse (-1), R, T0, S, -1, tx, by simp, rfl, rfl, rfl, rfl, rfl, rfl, by omega, by omega, by omega, T9, FL9, HP9.out, by omega⟩
              · rw [hff, if_pos rfl] at hz
                have HFF := Lib.hid hff
                have hE2 : Sf.many y.s.data.toList.length ≤ n := by omega
                have HE2 := Lib.hid hE2
                have HTT := Lib.hid ht
                have KAD : Hid (Calls Tryd.prog 16 #[.pointer (some ⟨r, 0, none⟩), .int .u64 (st : Int), .string y.s] w3 fun e w' => e = .returned (.int .i64 0) ∧ Flm w bc (fun j => j = bx) W1 w' r g (drv (x.fuse fz) (0 + 0) (Sf.sheaf st y.s.data.toList)) ⟨0, R.n, Ld.zero.took st y.s.data.toList (Sf.many y.s.data.toList.length), st, false⟩ vs vn T0 S) := flm_begin T3.out HFIT3.out st y.s HS64.out (by omega) _ hz
                have hDX : x.D.length = 16 := FL.out.D
                have HOKX : Hid ((drv (x.fuse fz) (0 + 0) (Sf.sheaf st y.s.data.toList)).Ok) := drv_ok HFIT3.out.hx (sheaf_64 HS64.out) (by rw [Sf.sheaf_len]; show 0 + 0 + _ ≤ x.D.length; omega)
                have HPX : Hid ((drv (x.fuse fz) (0 + 0) (Sf.sheaf st y.s.data.toList)).P.length ≤ 900) := by
                  have := drv_len (x.fuse fz) (0 + 0) st y.s.data.toList
                  have h5 : (x.fuse fz).P = x.P := rfl
                  rw [h5] at this
                  have := HP2.out
                  show _ ≤ 900
                  omega
                have HDX : Hid ((drv (x.fuse fz) (0 + 0) (Sf.sheaf st y.s.data.toList)).D.length = 16) := hDX
                have HCR : Hid (∀ c : Cr, Tbs (seg (crashTo c (drv (x.fuse fz) (0 + 0) (Sf.sheaf st y.s.data.toList)).P 0 (drv (x.fuse fz) (0 + 0) (Sf.sheaf st y.s.data.toList)).D) 0 n) st ∧ ∀ z, Loaded (seg (crashTo c (drv (x.fuse fz) (0 + 0) (Sf.sheaf st y.s.data.toList)).P 0 (drv (x.fuse fz) (0 + 0) (Sf.sheaf st y.s.data.toList)).D) 0 n) z → z.first ≤ st ∧ (z.first = st → z.T = [y.s.data.toList])) := fun c => by
                  have h := begin_crash (m := (Sf.sheaf st y.s.data.toList).length) FL.out.safe (by have := FL.out.D; omega) HTT.out HS64.out HL6.out HE2.out c
                  rw [take_all] at h
                  exact h
                clear hz hff hnn hl6 ht hE hE2 hDX
                go_wp2_with fail
                refine KAD.out.mono ?_
                rintro e w5 ⟨rfl, t5⟩
                have T5 := Lib.hid t5
                have X5 := flm_bx t5 X1.out
                clear d0 d2 t5 KAD
                have d2 := X5.c2
                clear X5
                rcases sync_cases (drv (x.fuse fz) (0 + 0) (Sf.sheaf st y.s.data.toList)) with ⟨F, hsy⟩ | hsy
                · have HSY := Lib.hid hsy
                  have KSY := Lib.hid (flm_sync T5.out HOKX.out (by have := HPX.out; omega) 0 hsy)
                  clear hsy
                  go_wp2_with fail
                  refine KSY.out.mono ?_
                  rintro e w7 ⟨rfl, t7⟩
                  have T7 := Lib.hid t7
                  have X7 := flm_bx t7 X1.out
                  clear d2 t7 KSY T5
                  have d2 := X7.c2
                  have T8 : Hid (Flm w bc (fun j => j = bx) W1 (w7.alloc (.cells #[.string y.s] TStr)) r g ⟨(drv (x.fuse fz) (0 + 0) (Sf.sheaf st y.s.data.toList)).V, [], F⟩ ⟨0, R.n, Ld.zero.took st y.s.data.toList (Sf.many y.s.data.toList.length), st, false⟩ (.slice (some ⟨w7.heap.size, 0, none⟩) 1 1) (.slice none 0 0) [y.s.data.toList] []) :=
                    T7.out.fresh ((Below.refl _ w7).alloc (Nat.le_refl _) _) (own_one w7 (.string y.s) TStr w7.heap.size (Nat.le_refl _))
                  go_upto_region 47 with (fail)
                  clear d2 X7 T7
                  generalize w7.alloc (.cells #[.string y.s] TStr) = w8 at T8 ⊢
                  have XT := flm_bx T8.out X1.out
                  have d0 := XT.c0
                  have HOKS : Hid ((⟨(drv (x.fuse fz) (0 + 0) (Sf.sheaf st y.s.data.toList)).V, [], F⟩ : Dr).Ok) := by
                    have h := (HOKX.out).sync
                    rw [HSY.out] at h
                    exact h
                  have KF1 := Lib.hid (flm_fuse T8.out HOKS.out (-1))
                  clear XT
                  go_wp2_with fail
                  refine KF1.out.mono ?_
                  rintro e w9 ⟨rfl, t9⟩
                  have T9 := Lib.hid t9.forget
                  have FL9 : Hid (Fl0 n (((⟨(drv (x.fuse fz) (0 + 0) (Sf.sheaf st y.s.data.toList)).V, [], F⟩ : Dr)).fuse (-1)) ⟨0, R.n, Ld.zero.took st y.s.data.toList (Sf.many y.s.data.toList.length), st, false⟩ [y.s.data.toList] []) := (by have h := FL.out.begun (F := (x.fuse fz).F) (s := st) (t := y.s.data.toList) hn16 HS64.out HTT.out HL6.out HE2.out; rw [HFF.out] at h; exact h)
                  have HP9 : Hid ((((⟨(drv (x.fuse fz) (0 + 0) (Sf.sheaf st y.s.data.toList)).V, [], F⟩ : Dr)).fuse (-1)).P.length ≤ 20 * (i + 1)) := Nat.zero_le _
                  clear t9 KF1 d0
                  go_wp2_with fail
                  go_roundg (A.length - (i + 1))
                  case measure => omega
                  case rel => exact ⟨i + 1, r, _, _, ((⟨(drv (x.fuse fz) (0 + 0) (Sf.sheaf st y.s.data.toList)).V, [], F⟩ : Dr)).fuse (-1), ⟨0, R.n, Ld.zero.took st y.s.data.toList (Sf.many y.s.data.toList.length), st, false⟩, [y.s.data.toList], [], -1, y.s, by simp, rfl, rfl, rfl, rfl, rfl, rfl, by omega, by omega, by omega, T9, FL9, HP9.out, by omega⟩
                · have KSY := Lib.hid (flm_sync T5.out HOKX.out (by have := HPX.out; omega) 30 hsy)
                  clear hsy
                  go_wp2_with fail
                  refine KSY.out.mono ?_
                  rintro e w7 ⟨rfl, t7⟩
                  have T7 := Lib.hid t7
                  clear d2 t7 KSY T5
                  have XD := flm_bx T7.out X1.out
                  have d0 := XD.c0
                  obtain ⟨cq, hcf, hcq⟩ := T7.out.c
                  have e0 : w7.cell? ⟨bc, 0, none⟩ = some (.int .u64 (cq.keep : Int)) := hcq.cell 0
                  have e1 : w7.cell? ⟨bc, 1, none⟩ = some (.int .i64 cq.torn) := hcq.cell 1
                  have e2 : w7.cell? ⟨bc, 2, none⟩ = some (.int .i64 cq.at') := hcq.cell 2
                  have KC : Hid (Calls Tryd.prog 25 #[.pointer (some ⟨g, 0, Option.none⟩), .agg #[.int .u64 (cq.keep : Int), .int .i64 cq.torn, .int .i64 cq.at']] w7 fun e w' => e = .returned (.tuple #[]) ∧ Flm w bc (fun j => j = bx) W1 w' r g ((drv (x.fuse fz) (0 + 0) (Sf.sheaf st y.s.data.toList)).crash cq) ⟨0, R.n, Ld.zero.took st y.s.data.toList (Sf.many y.s.data.toList.length), st, false⟩ vs vn T0 S) := flm_crash T7.out HOKX.out (by have := HPX.out; omega) cq hcf
                  have HOC : Hid (((drv (x.fuse fz) (0 + 0) (Sf.sheaf st y.s.data.toList)).crash cq).Ok) := (HOKX.out).crash cq
                  have HDC : Hid (((drv (x.fuse fz) (0 + 0) (Sf.sheaf st y.s.data.toList)).crash cq).D.length = 16) := by show (crashTo _ _ _ _).length = 16; rw [crashTo_len]; exact HDX.out
                  clear XD hcf hcq
                  go_wp2_with fail
                  refine KC.out.mono ?_
                  rintro e wC ⟨rfl, tC⟩
                  have TC1 := Lib.hid tC
                  have KOP := Lib.hid (flm_open tC HOC.out n hn1 hn16 HDC.out)
                  clear tC d0 e0 e1 e2 KC
                  go_wp2_with fail
                  refine KOP.out.mono ?_
                  rintro e wD ⟨r', z, rfl, hz, tD⟩
                  have TD := Lib.hid tD
                  have HZ := Lib.hid hz
                  have hzl : z.T.length ≤ 16 := by
                    have h2 := hz.r.fine
                    have := h2.tl
                    have := h2.le
                    rw [seg_len (by have := Dr.vlen ((drv (x.fuse fz) (0 + 0) (Sf.sheaf st y.s.data.toList)).crash cq); have := HDC.out; omega)] at this
                    omega
                  have KXX := Lib.hid (flm_texts tD hn1 (by show z.T.length ≤ _; omega))
                  clear tD hz KOP
                  go_wp2_with fail
                  refine KXX.out.mono ?_
                  rintro e wE ⟨vz, rfl, hv, hb⟩
                  obtain ⟨av, cv, rfl⟩ := own_slice hv
                  have HV : Hid (Ow wD.heap.size wE (.slice av z.T.length cv) z.T) := hv
                  have HBE := Lib.hid hb
                  clear hv hb KXX
                  obtain ⟨hT, hpost⟩ := HCR.out cq
                  obtain ⟨p1, p2⟩ := hpost z HZ.out
                  have HT9 := Lib.hid hT
                  have KF : Hid (Calls Tryd.prog 27 #[.pointer (some ⟨r', 0, none⟩)] wE fun e w' => e = .returned (.int .u64 (z.first : Int)) ∧ wE = w') := flm_first (TD.out.later HBE.out) hn1
                  have st0 : (0 : Int) < (st : Int) := by have := HTT.out; omega
                  have zst : ((st : Int) == 0) = false := beq_eq_false_iff_ne.2 (by omega)
                  clear hT hpost
                  by_cases hf1 : z.first = st
                  · have hzT := p2 hf1
                    have b1 : ((z.first : Int) == (st : Int)) = true := beq_iff_eq.2 (by omega)
                    have b2 : ¬ (st : Int) < (z.first : Int) := by omega
                    have KS : Hid (Calls Tryd.prog 28 #[.slice av z.T.length cv, .slice (some ⟨wE.heap.size, 0, none⟩) 1 1] (wE.alloc (.cells #[.string y.s] TStr)) fun e w' => e = .returned (.bool true) ∧ Below wE.heap.size wE w') := by
                      obtain ⟨A', c', e1, _, hs, _, _⟩ := HV.out.form
                      cases e1
                      have h1 : z.T.length = 1 := by rw [hzT]; rfl
                      have hbs : bas z.T = [y.s] := by rw [hzT]; rfl
                      rw [h1]
                      rw [hbs] at hs
                      exact (same_yes _ av _ 1 cv 1 [y.s] [y.s] (hs.later ((Below.refl _ wE).alloc (Nat.le_refl _) _)) (strs_one wE y.s) rfl rfl (by decide) rfl).mono fun e w' h => ⟨h.1, ((Below.refl _ wE).alloc (Nat.le_refl _) _).trans (h.2.mono (by simp))⟩
                    clear p1 p2 hf1 hzT
                    go_wp2_with fail
                    refine KF.out.mono ?_
                    rintro e w' ⟨rfl, rfl⟩
                    go_wp2_with fail
                    refine KS.out.mono ?_
                    rintro e wF ⟨rfl, hb⟩
                    have HBF : Hid (Below wD.heap.size wD wF) := HBE.out.trans (hb.mono HBE.out.size)
                    have HVF := Lib.hid (HV.out.later hb)
                    have KF2 : Hid (Calls Tryd.prog 27 #[.pointer (some ⟨r', 0, none⟩)] wF fun e w' => e = .returned (.int .u64 (z.first : Int)) ∧ wF = w') := flm_first (TD.out.later HBF.out) hn1
                    clear hb KS
                    go_wp2_with fail
                    refine KF2.out.mono ?_
                    rintro e w' ⟨rfl, rfl⟩
                    have T9 := Lib.hid ((TD.out.fresh (HBF.out) (HVF.out)).forget)
                    have FL9 : Hid (Fl0 n ((drv (x.fuse fz) (0 + 0) (Sf.sheaf st y.s.data.toList)).crash cq) ⟨0, n, z, Sf.top (seg ((drv (x.fuse fz) (0 + 0) (Sf.sheaf st y.s.data.toList)).crash cq).V 0 n), false⟩ z.T []) := fl0_open HOKX.out HDX.out (HT9.out) HZ.out
                    go_wp2_with fail
                    go_roundg (A.length - (i + 1))
                    case measure => omega
                    case rel => exact ⟨i + 1, r', _, _, (drv (x.fuse fz) (0 + 0) (Sf.sheaf st y.s.data.toList)).crash cq, _, z.T, [], -1, y.s, by simp, rfl, rfl, rfl, rfl, rfl, rfl, by omega, by omega, by omega, T9, FL9, Nat.zero_le _, by omega⟩
                  · have b1 : ((z.first : Int) == (st : Int)) = false := beq_eq_false_iff_ne.2 (by omega)
                    have b2 : ¬ (st : Int) < (z.first : Int) := by omega
                    clear p1 p2 hf1
                    go_wp2_with fail
                    refine KF.out.mono ?_
                    rintro e w' ⟨rfl, rfl⟩
                    go_wp2_with fail
                    refine KF.out.mono ?_
                    rintro e w' ⟨rfl, rfl⟩
                    have T9 := Lib.hid ((TD.out.fresh (HBE.out) (HV.out)).forget)
                    have FL9 : Hid (Fl0 n ((drv (x.fuse fz) (0 + 0) (Sf.sheaf st y.s.data.toList)).crash cq) ⟨0, n, z, Sf.top (seg ((drv (x.fuse fz) (0 + 0) (Sf.sheaf st y.s.data.toList)).crash cq).V 0 n), false⟩ z.T []) := fl0_open HOKX.out HDX.out (HT9.out) HZ.out
                    go_wp2_with fail
                    go_roundg (A.length - (i + 1))
                    case measure => omega
                    case rel => exact ⟨i + 1, r', _, _, (drv (x.fuse fz) (0 + 0) (Sf.sheaf st y.s.data.toList)).crash cq, _, z.T, [], -1, y.s, by simp, rfl, rfl, rfl, rfl, rfl, rfl, by omega, by omega, by omega, T9, FL9, Nat.zero_le _, by omega⟩
              · rw [hff] at hz
                have HFF := Lib.hid hff
                have hE2 : Sf.many y.s.data.toList.length ≤ n := by omega
                have HE2 := Lib.hid hE2
                have HTT := Lib.hid ht
                have hDX : x.D.length = 16 := FL.out.D
                have HOKX : Hid ((drv (x.fuse fz) (0 + 0) ((Sf.sheaf st y.s.data.toList).take m)).Ok) := drv_okM HFIT3.out.hx HS64.out (by show 0 + 0 + _ ≤ x.D.length; omega)
                have HPX : Hid ((drv (x.fuse fz) (0 + 0) ((Sf.sheaf st y.s.data.toList).take m)).P.length ≤ 900) := by
                  have := through_take (x.fuse fz) (0 + 0) st y.s.data.toList m
                  have h5 : (x.fuse fz).P = x.P := rfl
                  rw [h5] at this
                  have := HP2.out
                  show _ ≤ 900
                  omega
                have HDX : Hid ((drv (x.fuse fz) (0 + 0) ((Sf.sheaf st y.s.data.toList).take m)).D.length = 16) := hDX
                have HFX : Hid (Fit (drv (x.fuse fz) (0 + 0) ((Sf.sheaf st y.s.data.toList).take m)) ⟨0, R.n, R.S, R.top, true⟩) := by
                  have h := HFIT3.out
                  exact ⟨HOKX.out, by have := HPX.out; omega, h.n0, h.n9, by show 0 + R.n ≤ x.D.length; omega, h.t, h.e⟩
                have HCR : Hid (∀ c : Cr, Tbs (seg (crashTo c (drv (x.fuse fz) (0 + 0) ((Sf.sheaf st y.s.data.toList).take m)).P 0 (drv (x.fuse fz) (0 + 0) ((Sf.sheaf st y.s.data.toList).take m)).D) 0 n) st ∧ ∀ z, Loaded (seg (crashTo c (drv (x.fuse fz) (0 + 0) ((Sf.sheaf st y.s.data.toList).take m)).P 0 (drv (x.fuse fz) (0 + 0) ((Sf.sheaf st y.s.data.toList).take m)).D) 0 n) z → z.first ≤ st ∧ (z.first = st → z.T = [y.s.data.toList])) := fun c => by
                  have h := begin_crash (m := m) FL.out.safe (by have := FL.out.D; omega) HTT.out HS64.out HL6.out HE2.out c
                  skip
                  exact h
                have KAD : Hid (Calls Tryd.prog 16 #[.pointer (some ⟨r, 0, none⟩), .int .u64 (st : Int), .string y.s] w3 fun e w' => e = .returned (.int .i64 30) ∧ Flm w bc (fun j => j = bx) W1 w' r g (drv (x.fuse fz) (0 + 0) ((Sf.sheaf st y.s.data.toList).take m)) ⟨0, R.n, R.S, R.top, true⟩ vs vn T0 S) := flm_begin T3.out HFIT3.out st y.s HS64.out (by omega) _ hz
                clear hz hff hnn hl6 ht hE hE2 hDX
                go_wp2_with fail
                refine KAD.out.mono ?_
                rintro e w5 ⟨rfl, t5⟩
                have T5 := Lib.hid t5
                have X5 := flm_bx t5 X1.out
                clear d0 d2
                have d2 := X5.c2
                clear t5 KAD X5
                have hrn : 0 < (⟨0, R.n, R.S, R.top, true⟩ : Rm).n := by show 0 < _; first | omega | (have := HRN.out; omega)
                have KA : Hid (∀ u, Flm w bc (fun j => j = bx) W1 u r g (drv (x.fuse fz) (0 + 0) ((Sf.sheaf st y.s.data.toList).take m)) ⟨0, R.n, R.S, R.top, true⟩ vs vn T0 S → Calls Tryd.prog 15 #[.pointer (some ⟨r, 0, none⟩), .int .u64 ((R.top : Int) + 1), .string ⟨#[]⟩] u fun e w' => e = .returned (.int .i64 30) ∧ Flm w bc (fun j => j = bx) W1 w' r g (drv (x.fuse fz) (0 + 0) ((Sf.sheaf st y.s.data.toList).take m)) ⟨0, R.n, R.S, R.top, true⟩ vs vn T0 S) := fun u hu => by
                  have := flm_add hu HFX.out (⟨0, R.n, R.S, R.top, true⟩ : Rm).S.e (R.top + 1) ⟨#[]⟩ rfl (by have := HRT9.out; omega) (by decide) _ (putM_dead rfl)
                  rwa [show ((R.top + 1 : Nat) : Int) = (R.top : Int) + 1 by omega] at this
                have KBG : Hid (∀ u, Flm w bc (fun j => j = bx) W1 u r g (drv (x.fuse fz) (0 + 0) ((Sf.sheaf st y.s.data.toList).take m)) ⟨0, R.n, R.S, R.top, true⟩ vs vn T0 S → Calls Tryd.prog 16 #[.pointer (some ⟨r, 0, none⟩), .int .u64 ((R.top : Int) + 1), .string ⟨#[]⟩] u fun e w' => e = .returned (.int .i64 30) ∧ Flm w bc (fun j => j = bx) W1 w' r g (drv (x.fuse fz) (0 + 0) ((Sf.sheaf st y.s.data.toList).take m)) ⟨0, R.n, R.S, R.top, true⟩ vs vn T0 S) := fun u hu => by
                  have := flm_begin hu HFX.out (R.top + 1) ⟨#[]⟩ (by have := HRT9.out; omega) (by decide) _ (putM_dead rfl)
                  rwa [show ((R.top + 1 : Nat) : Int) = (R.top : Int) + 1 by omega] at this
                have q9 : (R.top : Int) + 1 ≤ 18446744073709551615 := by have := HRT9.out; omega
                go_wp2_with fail
                refine (flm_top T5.out hrn).mono ?_
                rintro e w' ⟨rfl, rfl⟩
                go_wp2_with fail
                refine (KA.out _ T5.out).mono ?_
                rintro e wA ⟨rfl, tA⟩
                have TA := Lib.hid tA
                clear tA
                go_wp2_with fail
                refine (flm_top TA.out hrn).mono ?_
                rintro e w' ⟨rfl, rfl⟩
                go_wp2_with fail
                refine (KBG.out _ TA.out).mono ?_
                rintro e wB ⟨rfl, tB⟩
                have TB := Lib.hid tB
                clear tB q9 hrn KA KBG
                have XD := flm_bx TB.out X1.out
                have d0 := XD.c0
                obtain ⟨cq, hcf, hcq⟩ := TB.out.c
                have e0 : wB.cell? ⟨bc, 0, none⟩ = some (.int .u64 (cq.keep : Int)) := hcq.cell 0
                have e1 : wB.cell? ⟨bc, 1, none⟩ = some (.int .i64 cq.torn) := hcq.cell 1
                have e2 : wB.cell? ⟨bc, 2, none⟩ = some (.int .i64 cq.at') := hcq.cell 2
                have KC : Hid (Calls Tryd.prog 25 #[.pointer (some ⟨g, 0, Option.none⟩), .agg #[.int .u64 (cq.keep : Int), .int .i64 cq.torn, .int .i64 cq.at']] wB fun e w' => e = .returned (.tuple #[]) ∧ Flm w bc (fun j => j = bx) W1 w' r g ((drv (x.fuse fz) (0 + 0) ((Sf.sheaf st y.s.data.toList).take m)).crash cq) ⟨0, R.n, R.S, R.top, true⟩ vs vn T0 S) := flm_crash TB.out HOKX.out (by have := HPX.out; omega) cq hcf
                have HOC : Hid (((drv (x.fuse fz) (0 + 0) ((Sf.sheaf st y.s.data.toList).take m)).crash cq).Ok) := (HOKX.out).crash cq
                have HDC : Hid (((drv (x.fuse fz) (0 + 0) ((Sf.sheaf st y.s.data.toList).take m)).crash cq).D.length = 16) := by show (crashTo _ _ _ _).length = 16; rw [crashTo_len]; exact HDX.out
                clear XD hcf hcq
                go_wp2_with fail
                refine KC.out.mono ?_
                rintro e wC ⟨rfl, tC⟩
                have TC1 := Lib.hid tC
                have KOP := Lib.hid (flm_open tC HOC.out n hn1 hn16 HDC.out)
                clear tC d0 e0 e1 e2 KC
                go_wp2_with fail
                refine KOP.out.mono ?_
                rintro e wD ⟨r', z, rfl, hz, tD⟩
                have TD := Lib.hid tD
                have HZ := Lib.hid hz
                have hzl : z.T.length ≤ 16 := by
                  have h2 := hz.r.fine
                  have := h2.tl
                  have := h2.le
                  rw [seg_len (by have := Dr.vlen ((drv (x.fuse fz) (0 + 0) ((Sf.sheaf st y.s.data.toList).take m)).crash cq); have := HDC.out; omega)] at this
                  omega
                have KXX := Lib.hid (flm_texts tD hn1 (by show z.T.length ≤ _; omega))
                clear tD hz KOP
                go_wp2_with fail
                refine KXX.out.mono ?_
                rintro e wE ⟨vz, rfl, hv, hb⟩
                obtain ⟨av, cv, rfl⟩ := own_slice hv
                have HV : Hid (Ow wD.heap.size wE (.slice av z.T.length cv) z.T) := hv
                have HBE := Lib.hid hb
                clear hv hb KXX
                obtain ⟨hT, hpost⟩ := HCR.out cq
                obtain ⟨p1, p2⟩ := hpost z HZ.out
                have HT9 := Lib.hid hT
                have KF : Hid (Calls Tryd.prog 27 #[.pointer (some ⟨r', 0, none⟩)] wE fun e w' => e = .returned (.int .u64 (z.first : Int)) ∧ wE = w') := flm_first (TD.out.later HBE.out) hn1
                have st0 : (0 : Int) < (st : Int) := by have := HTT.out; omega
                have zst : ((st : Int) == 0) = false := beq_eq_false_iff_ne.2 (by omega)
                clear hT hpost
                by_cases hf1 : z.first = st
                · have hzT := p2 hf1
                  have b1 : ((z.first : Int) == (st : Int)) = true := beq_iff_eq.2 (by omega)
                  have b2 : ¬ (st : Int) < (z.first : Int) := by omega
                  have KS : Hid (Calls Tryd.prog 28 #[.slice av z.T.length cv, .slice (some ⟨wE.heap.size, 0, none⟩) 1 1] (wE.alloc (.cells #[.string y.s] TStr)) fun e w' => e = .returned (.bool true) ∧ Below wE.heap.size wE w') := by
                    obtain ⟨A', c', e1, _, hs, _, _⟩ := HV.out.form
                    cases e1
                    have h1 : z.T.length = 1 := by rw [hzT]; rfl
                    have hbs : bas z.T = [y.s] := by rw [hzT]; rfl
                    rw [h1]
                    rw [hbs] at hs
                    exact (same_yes _ av _ 1 cv 1 [y.s] [y.s] (hs.later ((Below.refl _ wE).alloc (Nat.le_refl _) _)) (strs_one wE y.s) rfl rfl (by decide) rfl).mono fun e w' h => ⟨h.1, ((Below.refl _ wE).alloc (Nat.le_refl _) _).trans (h.2.mono (by simp))⟩
                  clear p1 p2 hf1 hzT
                  go_wp2_with fail
                  refine KF.out.mono ?_
                  rintro e w' ⟨rfl, rfl⟩
                  go_wp2_with fail
                  refine KS.out.mono ?_
                  rintro e wF ⟨rfl, hb⟩
                  have HBF : Hid (Below wD.heap.size wD wF) := HBE.out.trans (hb.mono HBE.out.size)
                  have HVF := Lib.hid (HV.out.later hb)
                  have KF2 : Hid (Calls Tryd.prog 27 #[.pointer (some ⟨r', 0, none⟩)] wF fun e w' => e = .returned (.int .u64 (z.first : Int)) ∧ wF = w') := flm_first (TD.out.later HBF.out) hn1
                  clear hb KS
                  go_wp2_with fail
                  refine KF2.out.mono ?_
                  rintro e w' ⟨rfl, rfl⟩
                  have T9 := Lib.hid ((TD.out.fresh (HBF.out) (HVF.out)).forget)
                  have FL9 : Hid (Fl0 n ((drv (x.fuse fz) (0 + 0) ((Sf.sheaf st y.s.data.toList).take m)).crash cq) ⟨0, n, z, Sf.top (seg ((drv (x.fuse fz) (0 + 0) ((Sf.sheaf st y.s.data.toList).take m)).crash cq).V 0 n), false⟩ z.T []) := fl0_open HOKX.out HDX.out (HT9.out) HZ.out
                  go_wp2_with fail
                  go_roundg (A.length - (i + 1))
                  case measure => omega
                  case rel => exact ⟨i + 1, r', _, _, (drv (x.fuse fz) (0 + 0) ((Sf.sheaf st y.s.data.toList).take m)).crash cq, _, z.T, [], -1, y.s, by simp, rfl, rfl, rfl, rfl, rfl, rfl, by omega, by omega, by omega, T9, FL9, Nat.zero_le _, by omega⟩
                · have b1 : ((z.first : Int) == (st : Int)) = false := beq_eq_false_iff_ne.2 (by omega)
                  have b2 : ¬ (st : Int) < (z.first : Int) := by omega
                  clear p1 p2 hf1
                  go_wp2_with fail
                  refine KF.out.mono ?_
                  rintro e w' ⟨rfl, rfl⟩
                  go_wp2_with fail
                  refine KF.out.mono ?_
                  rintro e w' ⟨rfl, rfl⟩
                  have T9 := Lib.hid ((TD.out.fresh (HBE.out) (HV.out)).forget)
                  have FL9 : Hid (Fl0 n ((drv (x.fuse fz) (0 + 0) ((Sf.sheaf st y.s.data.toList).take m)).crash cq) ⟨0, n, z, Sf.top (seg ((drv (x.fuse fz) (0 + 0) ((Sf.sheaf st y.s.data.toList).take m)).crash cq).V 0 n), false⟩ z.T []) := fl0_open HOKX.out HDX.out (HT9.out) HZ.out
                  go_wp2_with fail
                  go_roundg (A.length - (i + 1))
                  case measure => omega
                  case rel => exact ⟨i + 1, r', _, _, (drv (x.fuse fz) (0 + 0) ((Sf.sheaf st y.s.data.toList).take m)).crash cq, _, z.T, [], -1, y.s, by simp, rfl, rfl, rfl, rfl, rfl, rfl, by omega, by omega, by omega, T9, FL9, Nat.zero_le _, by omega⟩

          · clear_value *
            as_aux_lemma =>
              have KFZ := Lib.hid (flm_fuse T1d.out FL.out.hx fz)
              go_wp2_with fail
              refine KFZ.out.mono ?_
              rintro e w3 ⟨rfl, t3⟩
              have T3 := Lib.hid t3
              have X3 := flm_bx t3 X1.out
              have hfit : Fit (x.fuse fz) R := HFT.out fz (by omega)
              have HFIT3 := Lib.hid hfit
              clear t3 d0 X2 KFZ T1d hfit
              have d0 := X3.c0
              have hSl : T0.length + S.length ≤ 16 := by
                have h1 := FL.out.tx
                have h2 := FL.out.ld.r.fine
                have h3 := congrArg List.length h1
                rw [List.length_append] at h3
                have := h2.tl
                have := h2.le
                rw [seg_len (by have := Dr.vlen x; have := FL.out.D; omega)] at this
                omega
              have hRl : R.S.T.length ≤ 16 := by rw [FL.out.tx, List.length_append]; exact hSl
              have hST : Hid (T0.length + S.length ≤ 17) := by show _ ≤ 17; omega
              have HRL := Lib.hid hRl
              have HDX : Hid ((x.fuse fz).D.length = 16) := FL.out.D
              have HCR : Hid (Safe (x.fuse fz) n R.top R.S.e T0 S) := FL.out.safe
              clear hSl hRl
              rcases sync_cases (x.fuse fz) with ⟨F, hsy⟩ | hsy
              · have HSY := Lib.hid hsy
                have KSY := Lib.hid (flm_sync T3.out HFIT3.out.hx (by have := HFIT3.out.hP; omega) 0 hsy)
                clear hsy
                go_wp2_with fail
                refine KSY.out.mono ?_
                rintro e w5 ⟨rfl, t5⟩
                have T5 := Lib.hid t5
                have KXX := Lib.hid (flm_texts t5 HRN.out (by have := HRL.out; omega))
                clear t5 KSY d0
                go_wp2_with fail
                refine KXX.out.mono ?_
                rintro e w6 ⟨vz, rfl, hv, hb⟩
                obtain ⟨av, cv, rfl⟩ := own_slice hv
                have T6 : Hid (Flm w bc (fun j => j = bx) W1 w6 r g ⟨(x.fuse fz).V, [], F⟩ R (.slice av R.S.T.length cv) (.slice none 0 0) R.S.T []) := T5.out.fresh hb hv
                have HOKS : Hid ((⟨(x.fuse fz).V, [], F⟩ : Dr).Ok) := by
                  have h := (HFIT3.out.hx).sync
                  rw [HSY.out] at h
                  exact h
                clear hv hb KXX T5
                have XT := flm_bx T6.out X1.out
                have d0 := XT.c0
                have KF1 := Lib.hid (flm_fuse T6.out HOKS.out (-1))
                clear XT
                go_wp2_with fail
                refine KF1.out.mono ?_
                rintro e w9 ⟨rfl, t9⟩
                have T9 := Lib.hid t9.forget
                have FL9 : Hid (Fl0 n (((⟨(x.fuse fz).V, [], F⟩ : Dr)).fuse (-1)) R R.S.T []) := (FL.out.synced)
                have HP9 : Hid ((((⟨(x.fuse fz).V, [], F⟩ : Dr)).fuse (-1)).P.length ≤ 20 * (i + 1)) := Nat.zero_le _
                clear t9 KF1 d0
                go_wp2_with fail
                go_roundg (A.length - (i + 1))
                case measure => omega
                case rel => exact ⟨i + 1, r, _, _, ((⟨(x.fuse fz).V, [], F⟩ : Dr)).fuse (-1), R, R.S.T, [], -1, tx, by simp, rfl, rfl, rfl, rfl, rfl, rfl, by omega, by omega, by omega, T9, FL9, HP9.out, by omega⟩
              · have KSY := Lib.hid (flm_sync T3.out HFIT3.out.hx (by have := HFIT3.out.hP; omega) 30 hsy)
                clear hsy
                go_wp2_with fail
                refine KSY.out.mono ?_
                rintro e w5 ⟨rfl, t5⟩
                have T5 := Lib.hid t5
                clear t5 KSY d0
                have XD := flm_bx T5.out X1.out
                have d0 := XD.c0
                obtain ⟨cq, hcf, hcq⟩ := T5.out.c
                have e0 : w5.cell? ⟨bc, 0, none⟩ = some (.int .u64 (cq.keep : Int)) := hcq.cell 0
                have e1 : w5.cell? ⟨bc, 1, none⟩ = some (.int .i64 cq.torn) := hcq.cell 1
                have e2 : w5.cell? ⟨bc, 2, none⟩ = some (.int .i64 cq.at') := hcq.cell 2
                have KC : Hid (Calls Tryd.prog 25 #[.pointer (some ⟨g, 0, Option.none⟩), .agg #[.int .u64 (cq.keep : Int), .int .i64 cq.torn, .int .i64 cq.at']] w5 fun e w' => e = .returned (.tuple #[]) ∧ Flm w bc (fun j => j = bx) W1 w' r g ((x.fuse fz).crash cq) R vs vn T0 S) := flm_crash T5.out HFIT3.out.hx (by have := HFIT3.out.hP; omega) cq hcf
                have HOC : Hid (((x.fuse fz).crash cq).Ok) := (HFIT3.out.hx).crash cq
                have HDC : Hid (((x.fuse fz).crash cq).D.length = 16) := by show (crashTo _ _ _ _).length = 16; rw [crashTo_len]; exact HDX.out
                clear XD hcf hcq
                go_wp2_with fail
                refine KC.out.mono ?_
                rintro e wC ⟨rfl, tC⟩
                have TC1 := Lib.hid tC
                have KOP := Lib.hid (flm_open tC HOC.out n hn1 hn16 HDC.out)
                clear tC d0 e0 e1 e2 KC
                go_wp2_with fail
                refine KOP.out.mono ?_
                rintro e wD ⟨r', z, rfl, hz, tD⟩
                have TD := Lib.hid tD
                have HZ := Lib.hid hz
                have hzl : z.T.length ≤ 16 := by
                  have h2 := hz.r.fine
                  have := h2.tl
                  have := h2.le
                  rw [seg_len (by have := Dr.vlen ((x.fuse fz).crash cq); have := HDC.out; omega)] at this
                  omega
                have KXX := Lib.hid (flm_texts tD hn1 (by show z.T.length ≤ _; omega))
                clear tD hz KOP
                go_wp2_with fail
                refine KXX.out.mono ?_
                rintro e wE ⟨vz, rfl, hv, hb⟩
                obtain ⟨av, cv, rfl⟩ := own_slice hv
                have HV : Hid (Ow wD.heap.size wE (.slice av z.T.length cv) z.T) := hv
                have HBE := Lib.hid hb
                clear hv hb KXX
                obtain ⟨hT, z2, jz, hz2, hj, hzT, _, _⟩ := HCR.out cq
                obtain rfl := hz2.one HZ.out
                have HT9 := Lib.hid hT
                have KB : Hid (Calls Tryd.prog 26 #[.slice av z2.T.length cv, vs, vn] wE fun e w' => e = .returned (.bool true) ∧ Below wE.heap.size wE w') := by
                  have hst := TD.out.later HBE.out
                  have ho := HV.out
                  have hln := congrArg List.length hzT
                  refine begins_c wE wD.heap.size w.heap.size w.heap.size _ _ _ (T0) (S) jz hj ?_ (by rw [← hzT]; exact ho) hst.s hst.n
                  have h1 := hST.out
                  omega
                clear hT hz2 hj hzT hzl
                go_wp2_with fail
                refine KB.out.mono ?_
                rintro e wF ⟨rfl, hb⟩
                have HBF : Hid (Below wD.heap.size wD wF) := HBE.out.trans (hb.mono HBE.out.size)
                have HVF := Lib.hid (HV.out.later hb)
                clear hb KB
                have T9 := Lib.hid ((TD.out.fresh (HBF.out) (HVF.out)).forget)
                have FL9 : Hid (Fl0 n ((x.fuse fz).crash cq) ⟨0, n, z2, Sf.top (seg ((x.fuse fz).crash cq).V 0 n), false⟩ z2.T []) := fl0_open HFIT3.out.hx HDX.out (HT9.out) HZ.out
                go_wp2_with fail
                go_roundg (A.length - (i + 1))
                case measure => omega
                case rel => exact ⟨i + 1, r', _, _, (x.fuse fz).crash cq, _, z2.T, [], -1, tx, by simp, rfl, rfl, rfl, rfl, rfl, rfl, by omega, by omega, by omega, T9, FL9, Nat.zero_le _, by omega⟩

          · clear_value *
            as_aux_lemma =>
              have KFZ := Lib.hid (flm_fuse T1d.out FL.out.hx fz)
              go_wp2_with fail
              refine KFZ.out.mono ?_
              rintro e w3 ⟨rfl, t3⟩
              have T3 := Lib.hid t3
              have X3 := flm_bx t3 X1.out
              have hfit : Fit (x.fuse fz) R := HFT.out fz (by omega)
              have HFIT3 := Lib.hid hfit
              clear t3 d0 X2 KFZ T1d hfit
              have d0 := X3.c0
              have XT := flm_bx T3.out X1.out
              have d0 := XT.c0
              have KF1 := Lib.hid (flm_fuse T3.out HFIT3.out.hx (-1))
              clear XT
              go_wp2_with fail
              refine KF1.out.mono ?_
              rintro e w9 ⟨rfl, t9⟩
              have T9 := Lib.hid t9.forget
              have FL9 : Hid (Fl0 n ((x.fuse fz).fuse (-1)) R T0 S) := (by rw [show (x.fuse fz).fuse (-1) = x by rw [fuse_no]; have := FL.out.F; show (⟨x.D, x.P, none⟩ : Dr) = x; rw [← this]]; exact FL.out)
              have HP9 : Hid (((x.fuse fz).fuse (-1)).P.length ≤ 20 * (i + 1)) := (by have := HP.out; show x.P.length ≤ _; omega)
              clear t9 KF1 d0
              go_wp2_with fail
              go_roundg (A.length - (i + 1))
              case measure => omega
              case rel => exact ⟨i + 1, r, vs, vn, (x.fuse fz).fuse (-1), R, T0, S, -1, tx, by simp, rfl, rfl, rfl, rfl, rfl, rfl, by omega, by omega, by omega, T9, FL9, HP9.out, by omega⟩

          · clear_value *
            as_aux_lemma =>
              have d3 := X2.c3
              have d4 := X2.c4
              have d5 := X2.c5
              have d6 := X2.c6
              obtain ⟨cq, _, hcq⟩ := T1d.out.c
              have e0 : W2.cell? ⟨bc, 0, none⟩ = some (.int .u64 (cq.keep : Int)) := hcq.cell 0
              have e1 : W2.cell? ⟨bc, 1, none⟩ = some (.int .i64 cq.torn) := hcq.cell 1
              have e2 : W2.cell? ⟨bc, 2, none⟩ = some (.int .i64 cq.at') := hcq.cell 2
              have g0 := hcq.frozen 0
              have g1 := hcq.frozen 1
              have g2 := hcq.frozen 2
              clear hcq
              have T3 := Lib.hid ((T1d.out.setC y.c YC.out).forget)
              go_wp2_with fail
              go_roundg (A.length - (i + 1))
              case measure => omega
              case rel => exact ⟨i + 1, r, vs, vn, x, R, T0, S, y.fuse % 12, tx, by simp, rfl, rfl, rfl, rfl, rfl, rfl, by omega, by omega, by omega, T3, FL, by have := HP.out; omega, by omega⟩

          · clear_value *
            as_aux_lemma =>
              have KFZ := Lib.hid (flm_fuse T1d.out FL.out.hx fz)
              go_wp2_with fail
              refine KFZ.out.mono ?_
              rintro e w3 ⟨rfl, t3⟩
              have T3 := Lib.hid t3
              have X3 := flm_bx t3 X1.out
              have hfit : Fit (x.fuse fz) R := HFT.out fz (by omega)
              have HFIT3 := Lib.hid hfit
              clear t3 d0 X2 KFZ T1d hfit
              have d0 := X3.c0
              have hSl : T0.length + S.length ≤ 16 := by
                have h1 := FL.out.tx
                have h2 := FL.out.ld.r.fine
                have h3 := congrArg List.length h1
                rw [List.length_append] at h3
                have := h2.tl
                have := h2.le
                rw [seg_len (by have := Dr.vlen x; have := FL.out.D; omega)] at this
                omega
              have hRl : R.S.T.length ≤ 16 := by rw [FL.out.tx, List.length_append]; exact hSl
              have hST : Hid (T0.length + S.length ≤ 17) := by show _ ≤ 17; omega
              have HRL := Lib.hid hRl
              have HDX : Hid ((x.fuse fz).D.length = 16) := FL.out.D
              have HCR : Hid (Safe (x.fuse fz) n R.top R.S.e T0 S) := FL.out.safe
              clear hSl hRl
              clear d0
              have XQ := flm_bx T3.out X1.out
              have d0 := XQ.c0
              have d4 := XQ.c4
              have d5 := XQ.c5
              have d6 := XQ.c6
              obtain ⟨cq, _, hcq⟩ := T3.out.c
              have e0 : w3.cell? ⟨bc, 0, none⟩ = some (.int .u64 (cq.keep : Int)) := hcq.cell 0
              have e1 : w3.cell? ⟨bc, 1, none⟩ = some (.int .i64 cq.torn) := hcq.cell 1
              have e2 : w3.cell? ⟨bc, 2, none⟩ = some (.int .i64 cq.at') := hcq.cell 2
              have g0 := hcq.frozen 0
              have g1 := hcq.frozen 1
              have g2 := hcq.frozen 2
              clear hcq
              have TQ := Lib.hid (T3.out.setC y.c YC.out)
              go_upto_region 54 with (fail)
              clear d0 d4 d5 d6 e0 e1 e2 g0 g1 g2 XQ
              generalize ((w3.setCell ⟨bc, 0, none⟩ (.int .u64 (y.c.keep : Int))).setCell ⟨bc, 1, none⟩ (.int .i64 y.c.torn)).setCell ⟨bc, 2, none⟩ (.int .i64 y.c.at') = wQ at TQ ⊢
              have XD := flm_bx TQ.out X1.out
              have d0 := XD.c0
              obtain ⟨cq, hcf, hcq⟩ := TQ.out.c
              have e0 : wQ.cell? ⟨bc, 0, none⟩ = some (.int .u64 (cq.keep : Int)) := hcq.cell 0
              have e1 : wQ.cell? ⟨bc, 1, none⟩ = some (.int .i64 cq.torn) := hcq.cell 1
              have e2 : wQ.cell? ⟨bc, 2, none⟩ = some (.int .i64 cq.at') := hcq.cell 2
              have KC : Hid (Calls Tryd.prog 25 #[.pointer (some ⟨g, 0, Option.none⟩), .agg #[.int .u64 (cq.keep : Int), .int .i64 cq.torn, .int .i64 cq.at']] wQ fun e w' => e = .returned (.tuple #[]) ∧ Flm w bc (fun j => j = bx) W1 w' r g ((x.fuse fz).crash cq) R vs vn T0 S) := flm_crash TQ.out HFIT3.out.hx (by have := HFIT3.out.hP; omega) cq hcf
              have HOC : Hid (((x.fuse fz).crash cq).Ok) := (HFIT3.out.hx).crash cq
              have HDC : Hid (((x.fuse fz).crash cq).D.length = 16) := by show (crashTo _ _ _ _).length = 16; rw [crashTo_len]; exact HDX.out
              clear XD hcf hcq
              go_wp2_with fail
              refine KC.out.mono ?_
              rintro e wC ⟨rfl, tC⟩
              have TC1 := Lib.hid tC
              have KOP := Lib.hid (flm_open tC HOC.out n hn1 hn16 HDC.out)
              clear tC d0 e0 e1 e2 KC
              go_wp2_with fail
              refine KOP.out.mono ?_
              rintro e wD ⟨r', z, rfl, hz, tD⟩
              have TD := Lib.hid tD
              have HZ := Lib.hid hz
              have hzl : z.T.length ≤ 16 := by
                have h2 := hz.r.fine
                have := h2.tl
                have := h2.le
                rw [seg_len (by have := Dr.vlen ((x.fuse fz).crash cq); have := HDC.out; omega)] at this
                omega
              have KXX := Lib.hid (flm_texts tD hn1 (by show z.T.length ≤ _; omega))
              clear tD hz KOP
              go_wp2_with fail
              refine KXX.out.mono ?_
              rintro e wE ⟨vz, rfl, hv, hb⟩
              obtain ⟨av, cv, rfl⟩ := own_slice hv
              have HV : Hid (Ow wD.heap.size wE (.slice av z.T.length cv) z.T) := hv
              have HBE := Lib.hid hb
              clear hv hb KXX
              obtain ⟨hT, z2, jz, hz2, hj, hzT, _, _⟩ := HCR.out cq
              obtain rfl := hz2.one HZ.out
              have HT9 := Lib.hid hT
              have KB : Hid (Calls Tryd.prog 26 #[.slice av z2.T.length cv, vs, vn] wE fun e w' => e = .returned (.bool true) ∧ Below wE.heap.size wE w') := by
                have hst := TD.out.later HBE.out
                have ho := HV.out
                have hln := congrArg List.length hzT
                refine begins_c wE wD.heap.size w.heap.size w.heap.size _ _ _ (T0) (S) jz hj ?_ (by rw [← hzT]; exact ho) hst.s hst.n
                have h1 := hST.out
                omega
              clear hT hz2 hj hzT hzl
              go_wp2_with fail
              refine KB.out.mono ?_
              rintro e wF ⟨rfl, hb⟩
              have HBF : Hid (Below wD.heap.size wD wF) := HBE.out.trans (hb.mono HBE.out.size)
              have HVF := Lib.hid (HV.out.later hb)
              clear hb KB
              have T9 := Lib.hid ((TD.out.fresh (HBF.out) (HVF.out)).forget)
              have FL9 : Hid (Fl0 n ((x.fuse fz).crash cq) ⟨0, n, z2, Sf.top (seg ((x.fuse fz).crash cq).V 0 n), false⟩ z2.T []) := fl0_open HFIT3.out.hx HDX.out (HT9.out) HZ.out
              go_wp2_with fail
              go_roundg (A.length - (i + 1))
              case measure => omega
              case rel => exact ⟨i + 1, r', _, _, (x.fuse fz).crash cq, _, z2.T, [], -1, tx, by simp, rfl, rfl, rfl, rfl, rfl, rfl, by omega, by omega, by omega, T9, FL9, Nat.zero_le _, by omega⟩

      · obtain rfl : i = A.length := by omega
        have HBW : Hid (Below w.heap.size w wr) := TT.out.b
        clear hkx hlt hi' TT FL
        go_wp2_with fail
        refine (head_c _).mono ?_
        rintro e w3 ⟨rfl, hb⟩
        have HB3 : Hid (Below w.heap.size w w3) := HBW.out.trans (hb.mono HBW.out.size)
        clear hb
        go_wp2_with fail
        go_ret
        exact ⟨rfl, HB3.out⟩
end Go.Proofs.YtnfjgmdpokpbbaaDoor.Rk
