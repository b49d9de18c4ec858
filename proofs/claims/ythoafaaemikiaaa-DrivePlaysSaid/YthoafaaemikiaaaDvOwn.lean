/- Package drive: drives with the blocks that are theirs. -/
import Derived.Test.YthoafaaemikiaaaDvHead
namespace Go.Proofs.Ythoafaaemikiaaa.Dv
open Go Go.RowKit Rf
/-- A drive whose blocks are some. -/
def Os (S : Nat → Prop) (w : World) (g : Nat) (x : Dr) : Prop := ∃ bv bd pv fv, At w g bv bd pv fv x ∧ ∀ j, Bs g bv bd pv fv j → S j
/-- What an operation leaves. -/
def After (S : Nat → Prop) (w : World) (g : Nat) (y : Dr) (w' : World) : Prop := Os (fun j => S j ∨ w.heap.size ≤ j) w' g y ∧ Keeps S w w'
section
variable {S T : Nat → Prop} {w w' : World} {g : Nat} {x y : Dr}
theorem after_left {bv bd : Nat} {pv fv : Value} (hS : ∀ j, Bs g bv bd pv fv j → S j) (h : Left g bv bd pv fv y w w') : After S w g y w' := by
  obtain ⟨pv', fv', h1, h2, h3⟩ := h
  exact ⟨⟨bv, bd, pv', fv', h1, fun j hj => (h3 j hj).imp (hS j) id⟩, h2.mono fun j hj => .inl (hS j hj)⟩
theorem Os.keep (h : Os S w g x) (k : Keeps T w w') (hd : ∀ j, S j → ¬ T j) : Os S w' g x := by
  obtain ⟨bv, bd, pv, fv, h1, h2⟩ := h
  exact ⟨bv, bd, pv, fv, h1.keeps k fun j hj => hd j (h2 j hj), h2⟩
theorem Os.later (h : Os S w g x) (k : Below w.heap.size w w') : Os S w' g x := h.keep (Keeps.of (fun _ => False) k) fun _ _ h => h
theorem Os.mono (h : Os S w g x) (hS : ∀ j, S j → T j) : Os T w g x := by
  obtain ⟨bv, bd, pv, fv, h1, h2⟩ := h
  exact ⟨bv, bd, pv, fv, h1, fun j hj => hS j (h2 j hj)⟩
theorem Os.lt (h : Os S w g x) : Os (fun j => S j ∧ j < w.heap.size) w g x := by
  obtain ⟨bv, bd, pv, fv, h1, h2⟩ := h
  exact ⟨bv, bd, pv, fv, h1, fun j hj => ⟨h2 j hj, h1.lt j hj⟩⟩
theorem os_write (h : Os S w g x) (hx : x.Ok) (hP : x.P.length ≤ 100000) (n : Int) (s : ByteArray) (hs : s.size ≤ 9223372036854775807) (z : Int) (hz : x.write n s.data.toList = (y, z)) : Calls Try.prog 9 #[.pointer (some ⟨g, 0, Option.none⟩), .int .i64 n, .string s] w fun e w' => e = .returned (.int .i64 z) ∧ After S w g y w' := by
  obtain ⟨bv, bd, pv, fv, h1, h2⟩ := h
  refine (write_c g bv bd pv fv x n s w h1 hx hP hs).mono fun e w' hr => ?_
  unfold WrRes at hr
  rw [hz] at hr
  exact ⟨hr.1, after_left h2 hr.2⟩
theorem os_sync (h : Os S w g x) (hx : x.Ok) (hP : x.P.length ≤ 100000) (z : Int) (hz : x.sync = (y, z)) : Calls Try.prog 11 #[.pointer (some ⟨g, 0, Option.none⟩)] w fun e w' => e = .returned (.int .i64 z) ∧ After S w g y w' := by
  obtain ⟨bv, bd, pv, fv, h1, h2⟩ := h
  refine (sync_c g bv bd pv fv x w h1 hx hP).mono fun e w' hr => ?_
  rw [hz] at hr
  exact ⟨hr.1, after_left h2 hr.2⟩
theorem os_fuse (h : Os S w g x) (hx : x.Ok) (n : Int) : Calls Try.prog 15 #[.pointer (some ⟨g, 0, Option.none⟩), .int .i64 n] w fun e w' => e = .returned (.tuple #[]) ∧ After S w g (x.fuse n) w' := by
  obtain ⟨bv, bd, pv, fv, h1, h2⟩ := h
  exact (fuse_c g bv bd pv fv x n w h1 hx).mono fun e w' hr => ⟨hr.1, after_left h2 hr.2⟩
theorem os_crash (h : Os S w g x) (hx : x.Ok) (hP : x.P.length ≤ 100000) (c : Cr) (hc : c.Fits) : Calls Try.prog 13 #[.pointer (some ⟨g, 0, Option.none⟩), c.val] w fun e w' => e = .returned (.tuple #[]) ∧ After S w g (x.crash c) w' := by
  obtain ⟨bv, bd, pv, fv, h1, h2⟩ := h
  exact (crash_c g bv bd pv fv x c w h1 hx hP hc).mono fun e w' hr => ⟨hr.1, after_left h2 hr.2⟩
def NewOs (x : Dr) (w : World) (e : Ending) (w' : World) : Prop := ∃ g, e = .returned (.tuple #[.pointer (some ⟨g, 0, none⟩), .int .i64 0]) ∧ Os (fun j => w.heap.size ≤ j) w' g x ∧ Below w.heap.size w w'
def CopyOs (x : Dr) (w : World) (e : Ending) (w' : World) : Prop := ∃ g, e = .returned (.pointer (some ⟨g, 0, none⟩)) ∧ Os (fun j => w.heap.size ≤ j) w' g x ∧ Below w.heap.size w w'
theorem os_new (n : Nat) (h1 : 8 ≤ n) (h2 : n ≤ 4096) (w : World) : Calls Try.prog 6 #[.int .i64 (n : Int)] w (NewOs (Dr.new n) w) :=
  (new_yes n w h1 h2).mono fun e w' hr => by
    obtain ⟨g, bv, bd, pv, fv, he, h1, h2, h3⟩ := hr
    exact ⟨g, he, ⟨bv, bd, pv, fv, h1, h3⟩, h2⟩
theorem os_copy (h : Os S w g x) (hx : x.Ok) (hP : x.P.length ≤ 100000) : Calls Try.prog 16 #[.pointer (some ⟨g, 0, Option.none⟩)] w (CopyOs x w) := by
  obtain ⟨bv, bd, pv, fv, h1, h2⟩ := h
  exact (copy_c g bv bd pv fv x w h1 hx hP).mono fun e w' hr => by
    obtain ⟨g', bv', bd', pv', fv', he, h1, h2, h3⟩ := hr
    exact ⟨g', he, ⟨bv', bd', pv', fv', h1, h3⟩, h2⟩
theorem os_readh (h : Os S w g x) (hx : x.Ok) (n many : Nat) (hn : n < x.D.length) (hm : many ≤ 64) (B : ByteArray) (hB : B.data.toList = (x.V.getD n []).take many) :
    Calls Try.prog 21 #[.pointer (some ⟨g, 0, Option.none⟩), .int .i64 (n : Int), .int .i64 (many : Int)] w fun e w' => e = .returned (.string B) ∧ Below w.heap.size w w' := by
  obtain ⟨bv, bd, pv, fv, h1, h2⟩ := h
  exact readh_c g bv bd pv fv x n many w h1 hx hn hm B hB
end
def e0 : Dr := Dr.new 8
def e1 : Dr := ⟨e0.D, [(0, pad [97, 98])], none⟩
def e2 : Dr := ⟨e1.V, [], none⟩
def e3 : Dr := ⟨e2.D, [(0, pad [99, 100])], none⟩
def c0 : Cr := ⟨0, -1, 0⟩
def c1 : Cr := ⟨1, -1, 0⟩
def c2 : Cr := ⟨0, 0, 1⟩
def ez : Dr := (e3.crash c2).fuse 1
def ez1 : Dr := ⟨ez.D, [(1, pad [120])], some 0⟩
theorem w1e : e0.write 0 [97, 98] = (e1, 0) := rfl
theorem s1e : e1.sync = (e2, 0) := rfl
theorem w2e : e2.write 0 [99, 100] = (e3, 0) := rfl
theorem w3e : ez.write 1 [120] = (ez1, 0) := rfl
theorem s2e : ez1.sync = (ez1, 30) := rfl
theorem ok0 : e0.Ok := Dr.new_ok 8 (by decide) (by decide)
theorem ok1 : e1.Ok := by have := ok0.write 0 [97, 98]; rwa [w1e] at this
theorem ok2 : e2.Ok := by have := ok1.sync; rwa [s1e] at this
theorem ok3 : e3.Ok := by have := ok2.write 0 [99, 100]; rwa [w2e] at this
theorem okz : ez.Ok := (ok3.crash c2).fuse 1 (by decide)
theorem okz1 : ez1.Ok := by have := okz.write 1 [120]; rwa [w3e] at this
theorem fit0 : c0.Fits := ⟨by decide, by decide, by decide⟩
theorem fit1 : c1.Fits := ⟨by decide, by decide, by decide⟩
theorem fit2 : c2.Fits := ⟨by decide, by decide, by decide⟩
theorem rx : ([97, 98] : List UInt8) = ((e3.crash c0).V.getD 0 []).take 2 := by decide
theorem ry : ([99, 100] : List UInt8) = ((e3.crash c1).V.getD 0 []).take 2 := by decide
theorem rz : ([99, 98] : List UInt8) = (ez1.V.getD 0 []).take 2 := by decide
set_option maxRecDepth 100000 in
set_option maxHeartbeats 4000000 in
theorem head_c (w : World) : Calls Try.prog 7 #[] w fun e w' => e = .returned (.bool true) ∧ Below w.heap.size w w' := by
  have KN := Lib.hid (show ∀ u, Calls Try.prog 6 #[.int .i64 8] u (NewOs e0 u) from fun u => os_new 8 (by decide) (by decide) u)
  have KM := Lib.hid (show ∀ u, Calls Try.prog 6 #[.int .i64 7] u (fun e u' => e = .returned (.tuple #[.pointer none, .int .i64 2]) ∧ u = u') from fun u => new_no 7 u (by decide))
  go_enter Try.func7, Try.ntmps7
  go_wp2_with fail
  refine (KN.out _).mono ?_
  rintro e w1 ⟨g, rfl, h1, b1⟩
  have D1 := Lib.hid h1
  have B1 := Lib.hid b1
  clear h1 b1
  go_wp2_with fail
  refine (KM.out _).mono ?_
  rintro e w' ⟨rfl, rfl⟩
  go_wp2_with fail
  refine (os_write D1.out ok0 (by decide) 0 ⟨#[97, 98]⟩ (by decide) 0 w1e).mono ?_
  rintro e w2 ⟨rfl, h2⟩
  have D2 := Lib.hid (h2.1.mono (T := fun j => w.heap.size ≤ j) fun j hj => hj.elim id fun h => Nat.le_trans B1.out.size h)
  have B2 := Lib.hid (B1.out.trans (h2.2.below (fun _ h => h) B1.out.size))
  clear h2 D1 B1
  go_wp2_with fail
  refine (os_sync D2.out ok1 (by decide) 0 s1e).mono ?_
  rintro e w3 ⟨rfl, h3⟩
  have D3 := Lib.hid (h3.1.mono (T := fun j => w.heap.size ≤ j) fun j hj => hj.elim id fun h => Nat.le_trans B2.out.size h)
  have B3 := Lib.hid (B2.out.trans (h3.2.below (fun _ h => h) B2.out.size))
  clear h3 D2 B2
  go_wp2_with fail
  refine (os_write D3.out ok2 (by decide) 0 ⟨#[99, 100]⟩ (by decide) 0 w2e).mono ?_
  rintro e w4 ⟨rfl, h4⟩
  have D4 := Lib.hid (h4.1.mono (T := fun j => w.heap.size ≤ j) fun j hj => hj.elim id fun h => Nat.le_trans B3.out.size h)
  have B4 := Lib.hid (B3.out.trans (h4.2.below (fun _ h => h) B3.out.size))
  clear h4 D3 B3
  go_wp2_with fail
  refine (os_copy D4.out ok3 (by decide)).mono ?_
  rintro e w5 ⟨gx, rfl, hx5, b5⟩
  have D5 := Lib.hid (D4.out.later b5)
  have X5 := Lib.hid hx5.lt
  have B5 := Lib.hid (B4.out.trans (b5.mono B4.out.size))
  have z5 := Lib.hid b5.size
  have z4 := Lib.hid B4.out.size
  clear hx5 b5 D4 B4
  go_wp2_with fail
  refine (os_copy D5.out ok3 (by decide)).mono ?_
  rintro e w6 ⟨gy, rfl, hy6, b6⟩
  have D6 := Lib.hid (D5.out.later b6)
  have X6 := Lib.hid (X5.out.later b6)
  have Y6 := Lib.hid hy6.lt
  have B6 := Lib.hid (B5.out.trans (b6.mono B5.out.size))
  have z6 := Lib.hid b6.size
  clear hy6 b6 D5 B5 X5
  go_wp2_with fail
  refine (os_copy D6.out ok3 (by decide)).mono ?_
  rintro e w7 ⟨gz, rfl, hz7, b7⟩
  have X7 := Lib.hid (X6.out.later b7)
  have Y7 := Lib.hid (Y6.out.later b7)
  have Z7 := Lib.hid hz7.lt
  have B7 := Lib.hid (B6.out.trans (b7.mono B6.out.size))
  have z7 := Lib.hid b7.size
  clear hz7 b7 D6 B6 X6 Y6
  go_wp2_with fail
  refine (os_crash X7.out ok3 (by decide) c0 fit0).mono ?_
  rintro e w8 ⟨rfl, h8⟩
  have X8 := Lib.hid h8.1
  have Y8 := Lib.hid (Y7.out.keep h8.2 fun j hj ht => by omega)
  have Z8 := Lib.hid (Z7.out.keep h8.2 fun j hj ht => by have := z6.out; omega)
  have B8 := Lib.hid (B7.out.trans (h8.2.below (fun j hj => by have := z4.out; omega) B7.out.size))
  have z8 := Lib.hid h8.2.size
  clear h8 B7 X7 Y7 Z7
  go_wp2_with fail
  refine (os_crash Y8.out ok3 (by decide) c1 fit1).mono ?_
  rintro e w9 ⟨rfl, h9⟩
  have X9 := Lib.hid (X8.out.lt.keep h9.2 fun j hj ht => by have := z6.out; have := z7.out; omega)
  have Y9 := Lib.hid h9.1
  have Z9 := Lib.hid (Z8.out.keep h9.2 fun j hj ht => by omega)
  have B9 := Lib.hid (B8.out.trans (h9.2.below (fun j hj => by have := z4.out; have := z5.out; omega) B8.out.size))
  have z9 := Lib.hid h9.2.size
  clear h9 B8 X8 Y8 Z8
  go_wp2_with fail
  refine (os_crash Z9.out ok3 (by decide) c2 fit2).mono ?_
  rintro e w10 ⟨rfl, h10⟩
  have X10 := Lib.hid (X9.out.keep h10.2 fun j hj ht => by have := z7.out; have := z6.out; have := z8.out; omega)
  have Y10 := Lib.hid (Y9.out.lt.keep h10.2 fun j hj ht => by have := z7.out; have := z8.out; omega)
  have Z10 := Lib.hid h10.1.lt
  have B10 := Lib.hid (B9.out.trans (h10.2.below (fun j hj => by have := z4.out; have := z5.out; have := z6.out; omega) B9.out.size))
  have z10 := Lib.hid h10.2.size
  clear h10 B9 X9 Y9 Z9
  go_wp2_with fail
  refine (os_fuse Z10.out (ok3.crash c2) 1).mono ?_
  rintro e w11 ⟨rfl, h11⟩
  have X11 := Lib.hid (X10.out.keep h11.2 fun j hj ht => by have := z7.out; have := z6.out; have := z8.out; have := z9.out; omega)
  have Y11 := Lib.hid (Y10.out.keep h11.2 fun j hj ht => by have := z7.out; have := z8.out; have := z9.out; omega)
  have Z11 := Lib.hid (show Os _ w11 gz ez from h11.1.lt)
  have B11 := Lib.hid (B10.out.trans (h11.2.below (fun j hj => by have := z4.out; have := z5.out; have := z6.out; have := z7.out; have := z8.out; have := z9.out; omega) B10.out.size))
  have z11 := Lib.hid h11.2.size
  clear h11 B10 X10 Y10 Z10
  go_wp2_with fail
  refine (os_write Z11.out okz (by decide) 1 ⟨#[120]⟩ (by decide) 0 w3e).mono ?_
  rintro e w12 ⟨rfl, h12⟩
  have X12 := Lib.hid (X11.out.keep h12.2 fun j hj ht => by have := z7.out; have := z6.out; have := z8.out; have := z9.out; have := z10.out; omega)
  have Y12 := Lib.hid (Y11.out.keep h12.2 fun j hj ht => by have := z7.out; have := z8.out; have := z9.out; have := z10.out; omega)
  have Z12 := Lib.hid h12.1.lt
  have B12 := Lib.hid (B11.out.trans (h12.2.below (fun j hj => by have := z4.out; have := z5.out; have := z6.out; have := z7.out; have := z8.out; have := z9.out; have := z10.out; omega) B11.out.size))
  have z12 := Lib.hid h12.2.size
  clear h12 B11 X11 Y11 Z11
  go_wp2_with fail
  refine (os_sync Z12.out okz1 (by decide) 30 s2e).mono ?_
  rintro e w13 ⟨rfl, h13⟩
  have X13 := Lib.hid (X12.out.keep h13.2 fun j hj ht => by have := z7.out; have := z6.out; have := z8.out; have := z9.out; have := z10.out; have := z11.out; omega)
  have Y13 := Lib.hid (Y12.out.keep h13.2 fun j hj ht => by have := z7.out; have := z8.out; have := z9.out; have := z10.out; have := z11.out; omega)
  have Z13 := Lib.hid h13.1
  have B13 := Lib.hid (B12.out.trans (h13.2.below (fun j hj => by have := z4.out; have := z5.out; have := z6.out; have := z7.out; have := z8.out; have := z9.out; have := z10.out; have := z11.out; omega) B12.out.size))
  clear h13 B12 X12 Y12 Z12 z4 z5 z6 z7 z8 z9 z10 z11 z12
  go_wp2_with fail
  refine (os_readh X13.out (ok3.crash c0) 0 2 (by decide) (by decide) ⟨#[97, 98]⟩ rx).mono ?_
  rintro e w14 ⟨rfl, b14⟩
  have Y14 := Lib.hid (Y13.out.later b14)
  have Z14 := Lib.hid (Z13.out.later b14)
  have B14 := Lib.hid (B13.out.trans (b14.mono B13.out.size))
  clear b14 B13 X13 Y13 Z13
  go_wp2_with fail
  refine (os_readh Y14.out (ok3.crash c1) 0 2 (by decide) (by decide) ⟨#[99, 100]⟩ ry).mono ?_
  rintro e w15 ⟨rfl, b15⟩
  have Z15 := Lib.hid (Z14.out.later b15)
  have B15 := Lib.hid (B14.out.trans (b15.mono B14.out.size))
  clear b15 B14 Y14 Z14
  go_wp2_with fail
  refine (os_readh Z15.out okz1 0 2 (by decide) (by decide) ⟨#[99, 98]⟩ rz).mono ?_
  rintro e w16 ⟨rfl, b16⟩
  have B16 := Lib.hid (B15.out.trans (b16.mono B15.out.size))
  clear b16 B15 Z15
  go_wp2_with fail
  go_ret
  exact ⟨rfl, B16.out⟩
end Go.Proofs.Ythoafaaemikiaaa.Dv
