/- The statements of row: the calls whose answers the document fixes. -/
import Derived.Test.YtnfjgmdpokpbbaaDoorRkLaw0
namespace Go.Proofs.YtnfjgmdpokpbbaaDoor.Rk
open Go Go.RowKit Dv Rf Shf
open Tal (Strs bas)
theorem putM_ok {R : Rm} {x : Dr} {p n : Nat} {t : List UInt8} (hd : R.down = false) (ht : R.top < n) (hl : t.length ≤ 98304) (hp : p + Sf.many t.length ≤ R.n) (hF : x.F = none) :
    putM R x p n t = (⟨R.f, R.n, (if p = 0 then Ld.zero else R.S).took n t (Sf.many t.length), n, false⟩, drv x (R.f + p) (Sf.sheaf n t), 0) := by
  unfold putM
  rw [if_neg (by simp [hd]), if_neg (by omega), if_neg (by omega), if_neg (by omega), if_pos (by unfold through; rw [hF])]
theorem putM_low {R : Rm} {x : Dr} {p n : Nat} {t : List UInt8} (hd : R.down = false) (ht : n ≤ R.top) : putM R x p n t = (R, x, 2) := by
  unfold putM
  rw [if_neg (by simp [hd]), if_pos ht]
theorem putM_full {R : Rm} {x : Dr} {p n : Nat} {t : List UInt8} (hd : R.down = false) (ht : R.top < n) (hl : t.length ≤ 98304) (hp : R.n < p + Sf.many t.length) : putM R x p n t = (R, x, 6) := by
  unfold putM
  rw [if_neg (by simp [hd]), if_neg (by omega), if_neg (by omega), if_pos hp]
theorem sheaf_64 {n : Nat} {t : List UInt8} (hn : n < 18446744073709551616) : ∀ b ∈ Sf.sheaf n t, b.length = 64 := fun _ hb => (Sf.sheaf_leaf hn hb).1
def z50 : List UInt8 := List.replicate 50 0
def h0 : Dr := Dr.new 8
def h1 : Dr := drv h0 2 (Sf.sheaf 1 [97])
def h2 : Dr := drv h1 3 (Sf.sheaf 2 z50)
def h3 : Dr := drv h2 2 (Sf.sheaf 9 [99])
def r0 : Rm := ⟨2, 4, Ld.zero, 0, false⟩
def r1 : Rm := ⟨2, 4, Ld.zero.took 1 [97] 1, 1, false⟩
def r2 : Rm := ⟨2, 4, (Ld.zero.took 1 [97] 1).took 2 z50 2, 2, false⟩
def r3 : Rm := ⟨2, 4, Ld.zero.took 9 [99] 1, 9, false⟩
theorem many_1 : Sf.many 1 = 1 := by decide +kernel
theorem many_50 : Sf.many 50 = 2 := by decide +kernel
theorem p1 : putM r0 h0 0 1 [97] = (r1, h1, 0) := by rw [putM_ok rfl (by decide) (by decide) (by show 0 + Sf.many 1 ≤ 4; rw [many_1]; omega) rfl]; show (_, _, _) = _; rw [show Sf.many [(97 : UInt8)].length = 1 from many_1]; rfl
theorem p2 : putM r1 h1 1 2 z50 = (r2, h2, 0) := by rw [putM_ok rfl (by decide) (by decide) (by show 1 + Sf.many 50 ≤ 4; rw [many_50]; omega) rfl]; show (_, _, _) = _; rw [show Sf.many z50.length = 2 from many_50]; rfl
theorem p3 : putM r2 h2 3 2 [98] = (r2, h2, 2) := putM_low rfl (by decide)
theorem p4 : putM r2 h2 3 3 z50 = (r2, h2, 6) := putM_full rfl (by decide) (by decide) (by show 4 < 3 + Sf.many 50; rw [many_50]; omega)
theorem p5 : putM r2 h2 0 9 [99] = (r3, h3, 0) := by rw [putM_ok rfl (by decide) (by decide) (by show 0 + Sf.many 1 ≤ 4; rw [many_1]; omega) rfl]; show (_, _, _) = _; rw [show Sf.many [(99 : UInt8)].length = 1 from many_1]; rfl
theorem len_h (n k : Nat) (t : List UInt8) (h : Sf.many t.length = k) : (Sf.sheaf n t).length = k := by rw [Sf.sheaf_len, h]
theorem dlen : h0.D.length = 8 := rfl
theorem okh0 : h0.Ok := Dr.new_ok 8 (by decide) (by decide)
theorem okh1 : h1.Ok := drv_ok okh0 (sheaf_64 (by decide)) (by rw [len_h 1 1 [97] many_1, dlen]; omega)
theorem okh2 : h2.Ok := drv_ok okh1 (sheaf_64 (by decide)) (by rw [len_h 2 2 z50 many_50]; show 3 + 2 ≤ 8; omega)
theorem okh3 : h3.Ok := drv_ok okh2 (sheaf_64 (by decide)) (by rw [len_h 9 1 [99] many_1]; show 2 + 1 ≤ 8; omega)
theorem fit0 : Fit h0 r0 := ⟨okh0, by decide, by decide, by decide, by rw [dlen]; decide, by decide, by decide⟩
theorem fit1 : Fit h1 r1 := ⟨okh1, by show (h0.P ++ ws 2 _).length ≤ _; rw [List.length_append, ws_len, len_h 1 1 [97] many_1]; decide, by decide, by decide, by show 2 + 4 ≤ 8; decide, by decide, by decide⟩
theorem fit2 : Fit h2 r2 := ⟨okh2, by show ((h0.P ++ ws 2 _) ++ ws 3 _).length ≤ _; rw [List.length_append, List.length_append, ws_len, ws_len, len_h 1 1 [97] many_1, len_h 2 2 z50 many_50]; decide, by decide, by decide, by show 2 + 4 ≤ 8; decide, by decide, by decide⟩
theorem seg0 : seg h0.V 2 4 = List.replicate 4 (List.replicate 64 0) := by
  show seg (List.replicate 8 (List.replicate 64 0)) 2 4 = _
  unfold seg
  simp
theorem strs_two (u : World) (a b : ByteArray) : Strs (u.alloc (.cells #[.string a, .string b] TStr)) (some ⟨u.heap.size, 0, none⟩) [a, b] := by
  intro j hj
  refine ⟨u.heap.size, 0, rfl, by simp, ?_⟩
  rcases j with _|_|j
  · simp [go_sem]
  · simp [go_sem]
  · simp at hj; omega
theorem strs_one (u : World) (a : ByteArray) : Strs (u.alloc (.cells #[.string a] TStr)) (some ⟨u.heap.size, 0, none⟩) [a] := by
  intro j hj
  refine ⟨u.heap.size, 0, rfl, by simp, ?_⟩
  rcases j with _|j
  · simp [go_sem]
  · simp at hj
theorem top_zero (n : Nat) : Sf.top (List.replicate n (List.replicate 64 0)) = 0 := by
  have : Sf.top (List.replicate n (List.replicate 64 (0 : UInt8))) ≤ 0 := top_le fun x hx => by
    rw [List.eq_of_mem_replicate hx]
    decide +kernel
  omega
/-- An Add with its answer. -/
theorem add_at {U : Nat → Prop} {r g : Nat} {x x' : Dr} {R R' : Rm} {w : World} {p n : Nat} {z : Int} (t : ByteArray) (h : Both U w r g x R) (hf : Fit x R) (hn9 : n < 18446744073709551616) (ht9 : t.size ≤ 1000) (hp : R.S.e = p) (hm : putM R x p n t.data.toList = (R', x', z)) :
    Calls Tryd.prog 15 #[.pointer (some ⟨r, 0, none⟩), .int .u64 (n : Int), .string t] w fun e w' => e = .returned (.int .i64 z) ∧ Past U r g x' R' w w' := by
  subst hp
  have := add_c U r g x R w h hf n t hn9 (by omega)
  unfold PtRes at this
  rwa [hm] at this
theorem begin_at {U : Nat → Prop} {r g : Nat} {x x' : Dr} {R R' : Rm} {w : World} {n : Nat} {z : Int} (t : ByteArray) (h : Both U w r g x R) (hf : Fit x R) (hn9 : n < 18446744073709551616) (ht9 : t.size ≤ 1000) (hm : putM R x 0 n t.data.toList = (R', x', z)) :
    Calls Tryd.prog 16 #[.pointer (some ⟨r, 0, none⟩), .int .u64 (n : Int), .string t] w fun e w' => e = .returned (.int .i64 z) ∧ Past U r g x' R' w w' := by
  have := begin_c U r g x R w h hf n t hn9 (by omega)
  unfold PtRes at this
  rwa [hm] at this
/-- A row opened on a drive. -/
theorem op_both {S : Nat → Prop} {w w' : World} {g : Nat} {x : Dr} {f n : Nat} {e : Ending} (h : Dv.Os S w g x) (hr : OpRes x f n g w e w') : ∃ r s, e = .returned (.tuple #[.pointer (some ⟨r, 0, none⟩), .int .i64 0]) ∧ Loaded (seg x.V f n) s ∧ Both (fun j => S j ∨ w.heap.size ≤ j) w' r g x ⟨f, n, s, Sf.top (seg x.V f n), false⟩ ∧ Below w.heap.size w w' := by
  obtain ⟨r, tv, s, rfl, h1, h2, h3, h4⟩ := hr
  exact ⟨r, s, rfl, h1, ⟨tv, (h.later h3).mono fun j hj => .inl hj, h2, fun j hj => .inr (h4 j hj)⟩, h3⟩
set_option maxRecDepth 100000 in
set_option maxHeartbeats 6400000 in
theorem head_c (w : World) : Calls Tryd.prog 9 #[] w fun e w' => e = .returned (.bool true) ∧ Below w.heap.size w w' := by
  have hmk : ∀ u, (Instr.makeSlice 52 (.int .i64 50) (.int .i64 50)).run Tryd.prog u = .ok (.slice (some ⟨u.heap.size, 0, none⟩) 50 50) (mkn 50 u) := fun u => maken 50 (by omega) u
  have hcv : ∀ u, (convert 52 9 (.slice (some ⟨u.heap.size, 0, none⟩) 50 50)).run Tryd.prog (mkn 50 u) = .ok (.string ⟨z50.toArray⟩) (mkn 50 u) := fun u => conn 50 u
  go_enter Tryd.func9, Tryd.ntmps9
  go_wp2_with fail
  refine (os_new 8 (by decide) (by decide) _).mono ?_
  rintro e w1 ⟨g, rfl, ho, hb⟩
  have HO := Lib.hid ho
  have HB := Lib.hid hb
  clear ho hb
  go_wp2_with fail
  refine (open_c HO.out okh0 2 4 (by decide) (by decide) (by rw [show (Dr.new 8).D.length = 8 from rfl]; decide)).mono ?_
  intro e w2 hr
  obtain ⟨r, s, rfl, hs, hB2, hb⟩ := op_both HO.out hr
  rw [show seg (Dr.new 8).V 2 4 = List.replicate 4 (List.replicate 64 0) from seg0] at hs hB2
  obtain rfl := hs.one (loaded_zero 4)
  rw [top_zero] at hB2
  have HB2 : Hid (Below w.heap.size w w2) := HB.out.trans (hb.mono HB.out.size)
  have HT2 : Hid (Both (fun j => w.heap.size ≤ j) w2 r g h0 r0) := hB2.mono fun j hj => hj.elim id fun h => Nat.le_trans HB.out.size h
  clear hs hB2 hb hr
  go_wp2_with fail
  refine (open_nil 0 1 _).mono ?_
  rintro e w' ⟨rfl, rfl⟩
  go_wp2_with fail
  have KO : Hid (Calls Tryd.prog 7 #[.pointer (some ⟨g, 0, none⟩), .int .i64 5, .int .i64 4] w2 fun e w' => e = .returned (.tuple #[.pointer none, .int .i64 2]) ∧ w2 = w') := by
    obtain ⟨tv, h1, _, _⟩ := HT2.out
    exact open_out h1 okh0 5 4 (by omega) (by omega) (by omega) (by omega) (by show _ ∨ _ ∨ _ ∨ ((8 : Nat) : Int) - 4 < 5; omega)
  refine KO.out.mono ?_
  rintro e w' ⟨rfl, rfl⟩
  go_wp2_with fail
  have hz3 := size_mkn 50 w2
  have HB3 : Hid (Below w.heap.size w (mkn 50 w2)) := HB2.out.trans ((below_mkn 50 w2).mono HB2.out.size)
  have HT3 : Hid (Both (fun j => w.heap.size ≤ j) (mkn 50 w2) r g h0 r0) := HT2.out.later (below_mkn 50 w2)
  generalize mkn 50 w2 = w3 at HB3 HT3 ⊢
  clear hz3
  refine (add_at (p := 0) (n := 1) ⟨#[97]⟩ HT3.out fit0 (by decide) (by decide) rfl p1).mono ?_
  rintro e w4 ⟨rfl, hp⟩
  have HB4 : Hid (Below w.heap.size w w4) := HB3.out.trans (hp.2.below (fun j hj => hj) HB3.out.size)
  have HT4 : Hid (Both (fun j => w.heap.size ≤ j) w4 r g h1 r1) := hp.1.mono fun j hj => hj.elim id fun h => Nat.le_trans HB3.out.size h
  clear hp
  go_wp2_with fail
  refine (add_at (p := 1) (n := 2) ⟨z50.toArray⟩ HT4.out fit1 (by decide) (by decide) rfl p2).mono ?_
  rintro e w5 ⟨rfl, hp⟩
  have HB5 : Hid (Below w.heap.size w w5) := HB4.out.trans (hp.2.below (fun j hj => hj) HB4.out.size)
  have HT5 : Hid (Both (fun j => w.heap.size ≤ j) w5 r g h2 r2) := hp.1.mono fun j hj => hj.elim id fun h => Nat.le_trans HB4.out.size h
  clear hp
  go_wp2_with fail
  have KX : Hid (Calls Tryd.prog 22 #[.pointer (some ⟨r, 0, none⟩)] w5 (TxRes [[97], z50] w5)) := by
    obtain ⟨tv, _, h2', _⟩ := HT5.out
    exact texts_c r g tv r2 w5 h2' (by decide) (by decide)
  refine KX.out.mono ?_
  rintro e w6 ⟨vx, rfl, ho, hb⟩
  obtain ⟨ax, cx, rfl, _, hsx, _, hxb⟩ := Ow.form (b := w5.heap.size) (L := [[97], z50]) ho
  have hxo := ho.lt
  have HXO : Hid (∀ b off, ax = some ⟨b, off, none⟩ → w5.heap.size ≤ b ∧ b < w6.heap.size) := fun b off e => hxo b (hxb b off e).2
  have HSX := Lib.hid hsx
  have HB6 : Hid (Below w.heap.size w w6) := HB5.out.trans (hb.mono HB5.out.size)
  have HT6 : Hid (Both (fun j => w.heap.size ≤ j ∧ j < w5.heap.size) w6 r g h2 r2) := HT5.out.lt.later hb
  clear ho hb hsx hxb hxo
  go_wp2_with fail
  have KE : Hid (Calls Tryd.prog 31 #[.pointer (some ⟨r, 0, none⟩)] w6 fun e w' => e = .returned (.int .i64 3) ∧ w6 = w') := by
    obtain ⟨tv, _, h2', _⟩ := HT6.out
    exact end_c r g tv r2 w6 h2' (by decide)
  refine KE.out.mono ?_
  rintro e w' ⟨rfl, rfl⟩
  go_wp2_with fail
  have KM : Hid (Calls Tryd.prog 32 #[.pointer (some ⟨r, 0, none⟩)] w6 fun e w' => e = .returned (.int .i64 1) ∧ ∃ n, w' = w6.drewN n) := by
    obtain ⟨tv, _, h2', _⟩ := HT6.out
    exact room_c r g tv r2 w6 h2' (by decide) (by decide) (by decide)
  refine KM.out.mono ?_
  rintro e w' ⟨rfl, nd, rfl⟩
  have PD : Hid (Past (fun j => w.heap.size ≤ j ∧ j < w5.heap.size) r g h2 r2 w6 (w6.drewN nd)) := Past.refl HT6.out (below_drewN' (Below.refl _ _) nd)
  go_wp2_with fail
  refine (add_at (p := 3) (n := 2) ⟨#[98]⟩ PD.out.1 fit2 (by decide) (by decide) rfl p3).mono ?_
  rintro e w7 ⟨rfl, hp⟩
  have P7 : Hid (Past (fun j => w.heap.size ≤ j ∧ j < w5.heap.size) r g h2 r2 w6 w7) := PD.out.trans hp
  clear hp
  go_wp2_with fail
  refine (add_at (p := 3) (n := 3) ⟨z50.toArray⟩ P7.out.1 fit2 (by decide) (by decide) rfl p4).mono ?_
  rintro e w8 ⟨rfl, hp⟩
  have P8 : Hid (Past (fun j => w.heap.size ≤ j ∧ j < w5.heap.size) r g h2 r2 w6 w8) := P7.out.trans hp
  clear hp
  go_wp2_with fail
  refine (begin_at (n := 9) ⟨#[99]⟩ P8.out.1 fit2 (by decide) (by decide) p5).mono ?_
  rintro e w9 ⟨rfl, hp⟩
  have P9 : Hid (Past (fun j => w.heap.size ≤ j ∧ j < w5.heap.size) r g h3 r3 w6 w9) := P8.out.trans hp
  clear hp
  have HS9 : Hid (Strs w9 ax (bas [[97], z50])) := strs_keeps HSX.out P9.out.2 fun b off e h => by
    have := (HXO.out b off e).1
    omega
  have HB9 : Hid (Below w.heap.size w w9) := HB6.out.trans (P9.out.2.below (fun j hj => hj.1) HB6.out.size)
  go_wp2_with fail
  have KS : Hid (Calls Tryd.prog 28 #[.slice ax 2 cx, .slice (some ⟨w9.heap.size, 0, none⟩) 2 2] (w9.alloc (.cells #[.string ⟨#[97]⟩, .string ⟨z50.toArray⟩] TStr)) fun e w' => e = .returned (.bool true) ∧ Below (w9.alloc (.cells #[.string ⟨#[97]⟩, .string ⟨z50.toArray⟩] TStr)).heap.size (w9.alloc (.cells #[.string ⟨#[97]⟩, .string ⟨z50.toArray⟩] TStr)) w') :=
    same_yes _ ax _ 2 cx 2 (bas [[97], z50]) [⟨#[97]⟩, ⟨z50.toArray⟩] (HS9.out.later ((Below.refl _ w9).alloc (Nat.le_refl _) _)) (strs_two w9 _ _) rfl rfl (by decide) rfl
  refine KS.out.mono ?_
  rintro e w10 ⟨rfl, hb⟩
  have hb2 : Below w9.heap.size w9 w10 := ((Below.refl _ w9).alloc (Nat.le_refl _) _).trans (hb.mono (by simp))
  have P10 : Hid (Past (fun j => w.heap.size ≤ j ∧ j < w5.heap.size) r g h3 r3 w6 w10) := P9.out.later hb2
  have HB10 : Hid (Below w.heap.size w w10) := HB9.out.trans (hb2.mono HB9.out.size)
  clear hb hb2
  go_wp2_with fail
  have KX2 : Hid (Calls Tryd.prog 22 #[.pointer (some ⟨r, 0, none⟩)] w10 (TxRes [[99]] w10)) := by
    obtain ⟨tv, _, h2', _⟩ := P10.out.1
    exact texts_c r g tv r3 w10 h2' (by decide) (by decide)
  refine KX2.out.mono ?_
  rintro e w11 ⟨vx, rfl, ho, hb⟩
  obtain ⟨ay, cy, rfl, _, hsy, _, _⟩ := Ow.form (b := w10.heap.size) (L := [[99]]) ho
  have HSY := Lib.hid hsy
  have P11 : Hid (Past (fun j => w.heap.size ≤ j ∧ j < w5.heap.size) r g h3 r3 w6 w11) := P10.out.later hb
  have HB11 : Hid (Below w.heap.size w w11) := HB10.out.trans (hb.mono HB10.out.size)
  clear ho hb hsy
  go_wp2_with fail
  have KS2 : Hid (Calls Tryd.prog 28 #[.slice ay 1 cy, .slice (some ⟨w11.heap.size, 0, none⟩) 1 1] (w11.alloc (.cells #[.string ⟨#[99]⟩] TStr)) fun e w' => e = .returned (.bool true) ∧ Below (w11.alloc (.cells #[.string ⟨#[99]⟩] TStr)).heap.size (w11.alloc (.cells #[.string ⟨#[99]⟩] TStr)) w') :=
    same_yes _ ay _ 1 cy 1 (bas [[99]]) [⟨#[99]⟩] (HSY.out.later ((Below.refl _ w11).alloc (Nat.le_refl _) _)) (strs_one w11 _) rfl rfl (by decide) rfl
  refine KS2.out.mono ?_
  rintro e w12 ⟨rfl, hb⟩
  have hb2 : Below w11.heap.size w11 w12 := ((Below.refl _ w11).alloc (Nat.le_refl _) _).trans (hb.mono (by simp))
  have P12 : Hid (Past (fun j => w.heap.size ≤ j ∧ j < w5.heap.size) r g h3 r3 w6 w12) := P11.out.later hb2
  have HB12 : Hid (Below w.heap.size w w12) := HB11.out.trans (hb2.mono HB11.out.size)
  clear hb hb2
  have KF : Hid (Calls Tryd.prog 27 #[.pointer (some ⟨r, 0, none⟩)] w12 fun e w' => e = .returned (.int .u64 9) ∧ w12 = w') := by
    obtain ⟨tv, _, h2', _⟩ := P12.out.1
    exact first_c r g tv r3 w12 h2' (by decide)
  have KP : Hid (Calls Tryd.prog 23 #[.pointer (some ⟨r, 0, none⟩)] w12 fun e w' => e = .returned (.int .u64 9) ∧ w12 = w') := by
    obtain ⟨tv, _, h2', _⟩ := P12.out.1
    exact top_c r g tv r3 w12 h2' (by decide)
  have KE2 : Hid (Calls Tryd.prog 31 #[.pointer (some ⟨r, 0, none⟩)] w12 fun e w' => e = .returned (.int .i64 1) ∧ w12 = w') := by
    obtain ⟨tv, _, h2', _⟩ := P12.out.1
    exact end_c r g tv r3 w12 h2' (by decide)
  go_wp2_with fail
  refine KF.out.mono ?_
  rintro e w' ⟨rfl, rfl⟩
  go_wp2_with fail
  refine KP.out.mono ?_
  rintro e w' ⟨rfl, rfl⟩
  go_wp2_with fail
  refine KE2.out.mono ?_
  rintro e w' ⟨rfl, rfl⟩
  go_wp2_with fail
  go_ret
  exact ⟨rfl, HB12.out⟩
end Go.Proofs.YtnfjgmdpokpbbaaDoor.Rk
