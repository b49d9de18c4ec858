/- The statements of row: acts in memory, stamps, and whether a row is what its sectors say. -/
import Derived.Test.YtnfjgmdpokpbbaaDoorRkOps
namespace Go.Proofs.YtnfjgmdpokpbbaaDoor.Rk
open Go Go.RowKit Dv Rf Shf
open Tal (Strs bas)
theorem below_drewN' {B : Nat} {w0 w : World} (h : Below B w0 w) (m : Nat) : Below B w0 (w.drewN m) := ⟨h.os, h.tape, h.output, h.size, h.block⟩
structure Ac where
  what : Int
  more : Int
  s : ByteArray
  fuse : Int
  c : Cr
def Ac.cs (x : Ac) : List Value := [.int .u8 x.what, .int .i16 x.more, .string x.s, .int .u8 x.fuse, .int .u64 (x.c.keep : Int), .int .i64 x.c.torn, .int .i64 x.c.at']
structure Ac.Fits (x : Ac) : Prop where
  what : 0 ≤ x.what ∧ x.what ≤ 255
  more : -32768 ≤ x.more ∧ x.more ≤ 32767
  s : x.s.size ≤ 9223372036854775807
  fuse : 0 ≤ x.fuse ∧ x.fuse ≤ 255
  c : x.c.Fits
/-- Acts in memory. -/
def Acs (w : World) (a : Option Addr) (A : List Ac) : Prop := ∀ j (h : j < A.length), ∃ b off, a = some ⟨b, off, none⟩ ∧ b < w.heap.size ∧ ∀ i v, A[j].cs[i]? = some v → w.cell? ⟨b, off + j * 7 + i, none⟩ = some v
theorem Acs.keeps {T : Nat → Prop} {w w' : World} {a : Option Addr} {A : List Ac} (h : Acs w a A) (k : Keeps T w w') (hT : ∀ j, T j → w.heap.size ≤ j) : Acs w' a A := fun j hj => by
  obtain ⟨b, off, ha, hlt, hc⟩ := h j hj
  exact ⟨b, off, ha, Nat.lt_of_lt_of_le hlt k.size, fun i v hv => by rw [World.cell?_of_block (k.block b hlt (fun ht => by have := hT b ht; omega))]; exact hc i v hv⟩
theorem Acs.later {w w' : World} {a : Option Addr} {A : List Ac} (h : Acs w a A) (hb : Below w.heap.size w w') : Acs w' a A := h.keeps (Keeps.of (fun _ => False) hb) fun _ h => h.elim
def greatB (A : List Ac) : Bool := A.any (fun x => decide (600 < x.s.size)) || decide (40 < A.length)
set_option maxRecDepth 100000 in
set_option maxHeartbeats 1600000 in
theorem great_c (A : List Ac) (a : Option Addr) (cap : Nat) (w : World) (hA : Acs w a A) (hl : A.length ≤ 9223372036854775807) :
    Calls Tryd.prog 8 #[.slice a A.length cap] w fun e w' => e = .returned (.bool (greatB A)) ∧ w = w' := by
  have HA := Lib.hid hA
  clear hA
  go_enter Tryd.func8, Tryd.ntmps8
  go_wp2_with fail
  go_loopg [3] A.length (fun kx s3 wr => ∃ j : Nat, s3 = .int .i64 (j : Int) ∧ j ≤ A.length ∧ Hid ((A.take j).any (fun x => decide (600 < x.s.size)) = false) ∧ wr = w ∧ A.length ≤ j + kx)
  case atStart => exact ⟨0, rfl, Nat.zero_le _, rfl, rfl, by omega⟩
  case round =>
    obtain ⟨j, rfl, hj, hno, rfl, hkx⟩ := hrel
    by_cases hlt : j < A.length
    · obtain ⟨ab, ao, rfl, hab, hc⟩ := HA.out j hlt
      have hts : A.take (j + 1) = A.take j ++ [A[j]] := List.take_succ_eq_append_getElem hlt
      have HTS := Lib.hid hts
      have hin : A[j] ∈ A := List.getElem_mem hlt
      obtain ⟨y, hy⟩ : ∃ y, A[j] = y := ⟨_, rfl⟩
      rw [hy] at hc hin
      have c2 : wr.cell? ⟨ab, ao + j * 7 + 2, none⟩ = some (.string y.s) := hc 2 _ rfl
      have j0 : (0 : Int) ≤ (j : Int) := by omega
      have j1 : (j : Int) < (A.length : Int) := by omega
      have HY := Lib.hid hy
      have HIN := Lib.hid hin
      clear hc hts hy hin
      by_cases hb : 600 < y.s.size
      · have q : (600 : Int) < (y.s.size : Int) := by omega
        have HBB := Lib.hid hb
        clear hb
        go_wp2_with fail
        go_ret
        refine ⟨?_, rfl⟩
        have : greatB A = true := by
          unfold greatB
          rw [Bool.or_eq_true]
          exact .inl (List.any_eq_true.2 ⟨y, HIN.out, by simpa using HBB.out⟩)
        rw [this]
        rfl
      · have q : ¬ (600 : Int) < (y.s.size : Int) := by omega
        have HBB := Lib.hid hb
        clear hb
        go_wp2_with fail
        go_roundg (A.length - (j + 1))
        case measure => omega
        case rel => exact ⟨j + 1, by simp, by omega, by
          show _ = _
          rw [HTS.out, List.any_append, hno.out, HY.out]
          simpa using HBB.out, rfl, by omega⟩
    · obtain rfl : j = A.length := by omega
      have HG : Hid (greatB A = decide (40 < A.length)) := by
        show _ = _
        unfold greatB
        have := hno.out
        rw [List.take_length] at this
        rw [this, Bool.false_or]
      clear hkx hlt
      by_cases h40 : 40 < A.length
      · have q : (40 : Int) < (A.length : Int) := by omega
        have HD := Lib.hid (decide_eq_true h40)
        clear h40
        go_wp2_with fail
        go_ret
        rw [HG.out, HD.out]
        exact ⟨rfl, rfl⟩
      · have q : ¬ (40 : Int) < (A.length : Int) := by omega
        have HD := Lib.hid (decide_eq_false h40)
        have d40 : decide (40 < A.length) = false := HD.out
        clear h40
        go_wp2_with fail
        go_ret
        rw [HG.out, HD.out]
        exact ⟨rfl, rfl⟩
/-- So far above a top. -/
def stampN (top : Nat) (more : Int) : Nat := if 0 ≤ more then top + 1 + more.toNat else top - (-(more + 1)).toNat
set_option maxRecDepth 100000 in
set_option maxHeartbeats 1600000 in
theorem stamp_c (top : Nat) (more : Int) (w : World) (ht : top ≤ 4611686018427387904) (h0 : -32768 ≤ more) (h1 : more ≤ 32767) :
    Calls Tryd.prog 11 #[.int .u64 (top : Int), .int .i16 more] w fun e w' => e = .returned (.int .u64 (stampN top more : Int)) ∧ w = w' := by
  have t0 : (0 : Int) ≤ (top : Int) := by omega
  have t1 : (top : Int) ≤ 4611686018427387904 := by omega
  by_cases hm : 0 ≤ more
  · have HE : Hid (((stampN top more : Nat) : Int) = (top : Int) + 1 + more) := by show _ = _; unfold stampN; rw [if_pos hm]; omega
    clear ht
    go_enter Tryd.func11, Tryd.ntmps11
    go_wp2_with fail
    go_ret
    rw [HE.out]
    exact ⟨rfl, rfl⟩
  · have hm' : more < 0 := by omega
    have HE : Hid (((stampN top more : Nat) : Int) = (top : Int) - min (top : Int) (-(more + 1))) := by show _ = _; unfold stampN; rw [if_neg hm]; omega
    have hd0 : (0 : Int) ≤ -(more + 1) := by omega
    have hd1 : -(more + 1) ≤ 32768 := by omega
    clear ht
    go_enter Tryd.func11, Tryd.ntmps11
    go_wp2_with fail
    go_ret
    rw [HE.out]
    exact ⟨rfl, rfl⟩
/-- A row and its drive are what some sectors say. -/
structure Told (x : Dr) (R : Rm) (Q : List Sec) : Prop where
  q : Q = seg x.V R.f R.n
  s : Loaded Q R.S
  top : R.top = Sf.top Q
set_option maxRecDepth 100000 in
set_option maxHeartbeats 1600000 in
theorem is_law (U : Nat → Prop) (r g : Nat) (x : Dr) (R : Rm) (w : World) (h : Both U w r g x R) (hf : Fit x R) (base : Nat) (vq : Value) (Q : List Sec) (hq : Ow base w vq Q) (ht : Told x R Q) (hn9 : R.n ≤ 1000) :
    Calls Tryd.prog 18 #[.pointer (some ⟨r, 0, none⟩), .pointer (some ⟨g, 0, none⟩), .int .i64 (R.f : Int), vq] w fun e w' => e = .returned (.bool true) ∧ Below w.heap.size w w' := by
  have hV : x.V.length = x.D.length := Dr.vlen x
  have hQl : Q.length = R.n := by rw [ht.q, seg_len (by rw [hV]; exact hf.f)]
  obtain ⟨A, cap, rfl, hcap, hS, hA0, hAb⟩ := hq.form
  have KT : Hid (Calls Tryd.prog 13 #[.slice A Q.length cap] w (RtRes Q w)) := by
    have := rtexts_c w A cap (bas Q) hS (by rw [bas_len]; omega) (by rw [bas_len]; exact hcap)
    rw [bas_len, lists_bas] at this
    exact this
  have HBoth := Lib.hid h
  have HF := Lib.hid hf
  have HT := Lib.hid ht
  have HSS := Lib.hid hS
  have HQL := Lib.hid hQl
  have HV := Lib.hid hV
  have HFN := Lib.hid hf.f
  have f0 : (R.f : Int) + (Q.length : Int) ≤ 4096 := by have := hf.f; have := hf.hx.n2; omega
  have f1 : (0 : Int) ≤ (R.f : Int) := by omega
  have l9 : Q.length ≤ 1000 := by omega
  clear hAb hS hA0 hq h hf ht hV hQl
  go_enter Tryd.func18, Tryd.ntmps18
  go_wp2_with fail
  refine KT.out.mono ?_
  rintro e w1 ⟨vt, s, rfl, hs, ho, hb⟩
  obtain rfl : s = R.S := hs.one HT.out.s
  obtain ⟨at', ct, rfl, hct, hst, _, _⟩ := ho.form
  have HO := Lib.hid hst
  have HB := Lib.hid hb
  have HCT := Lib.hid hct
  clear hs ho hb hst hct KT
  go_wp2_with fail
  go_loopg [12] Q.length (fun kx s12 wr => ∃ j : Nat, s12 = .int .i64 (j : Int) ∧ j ≤ Q.length ∧ Hid (Below w1.heap.size w1 wr) ∧ Q.length ≤ j + kx)
  case atStart => exact ⟨0, rfl, Nat.zero_le _, Below.refl _ _, by omega⟩
  case round =>
    obtain ⟨j, rfl, hj, HB2, hkx⟩ := hrel
    have hB3 : Below w.heap.size w wr := HB.out.trans (HB2.out.mono HB.out.size)
    have HB3 := Lib.hid hB3
    by_cases hlt : j < Q.length
    · have KR : Hid (Calls Tryd.prog 20 #[.pointer (some ⟨g, 0, none⟩), .int .i64 ((R.f : Int) + (j : Int))] wr fun e w' => e = .returned (.tuple #[.string ⟨Q[j].toArray⟩, .int .i64 0]) ∧ Below wr.heap.size wr w') := by
        obtain ⟨tv, h1, h2, h3⟩ := (HBoth.out.later hB3)
        refine (os_read h1 HF.out.hx _).mono fun e w' hr => ?_
        unfold RdRes Dr.read at hr
        have := HFN.out
        have := HQL.out
        rw [if_neg (by omega), show ((R.f : Int) + (j : Int)).toNat = R.f + j by omega] at hr
        have e1 : Q[j] = x.V.getD (R.f + j) [] := by
          have e2 : Q[j]? = x.V[R.f + j]? := by rw [HT.out.q, seg_get (by omega)]
          rw [List.getD_eq_getElem?_getD, ← e2, List.getElem?_eq_getElem hlt]
          rfl
        rw [e1]
        exact hr
      obtain ⟨b, off, rfl, hbl, hc⟩ := (HSS.out.later hB3) j (by rw [bas_len]; exact hlt)
      have e3 : (bas Q)[j]'(by rw [bas_len]; exact hlt) = ⟨Q[j].toArray⟩ := by simp [bas]
      rw [e3] at hc
      obtain ⟨y, hy⟩ : ∃ y, y = (⟨Q[j].toArray⟩ : ByteArray) := ⟨_, rfl⟩
      rw [← hy] at hc KR
      have j0 : (0 : Int) ≤ (j : Int) := by omega
      have j1 : (j : Int) < (Q.length : Int) := by omega
      have HBL := Lib.hid hbl
      clear hy e3 hB3 hbl
      go_wp2_with fail
      refine KR.out.mono ?_
      rintro e w2 ⟨rfl, hb⟩
      have HB4 : Hid (Below w1.heap.size w1 w2) := HB2.out.trans (hb.mono HB2.out.size)
      have hc2 := (hb.cell (p := ⟨b, off + j, none⟩) HBL.out).trans hc
      clear hb hc
      go_wp2_with fail
      go_roundg (Q.length - (j + 1))
      case measure => omega
      case rel => exact ⟨j + 1, by simp, by omega, HB4, by omega⟩
    · obtain rfl : j = Q.length := by omega
      clear hkx hlt hj
      have hl9 := Sf.many_pos
      have HTR : Hid (∀ u : World, Below w.heap.size w u → ∃ tv, At u r g tv R) := fun u hu => by
        obtain ⟨tv, _, h2, _⟩ := HBoth.out.later hu
        exact ⟨tv, h2⟩
      have HFT := Lib.hid HF.out.t
      have HFE := Lib.hid HF.out.e
      have HN0 := Lib.hid HF.out.n0
      have HTOP := Lib.hid HT.out.top
      have KX : Hid (∀ u : World, Below w.heap.size w u → Calls Tryd.prog 22 #[.pointer (some ⟨r, 0, none⟩)] u (TxRes R.S.T u)) := fun u hu => by
        obtain ⟨tv, h2⟩ := HTR.out u hu
        exact texts_c r g tv R u h2 HN0.out (by have := HFT.out; omega)
      have KF : Hid (∀ u : World, Below w.heap.size w u → Calls Tryd.prog 27 #[.pointer (some ⟨r, 0, none⟩)] u fun e w' => e = .returned (.int .u64 (R.S.first : Int)) ∧ u = w') := fun u hu => by
        obtain ⟨tv, h2⟩ := HTR.out u hu
        exact first_c r g tv R u h2 HN0.out
      have KE : Hid (∀ u : World, Below w.heap.size w u → Calls Tryd.prog 31 #[.pointer (some ⟨r, 0, none⟩)] u fun e w' => e = .returned (.int .i64 (R.S.e : Int)) ∧ u = w') := fun u hu => by
        obtain ⟨tv, h2⟩ := HTR.out u hu
        exact end_c r g tv R u h2 HN0.out
      have KM : Hid (∀ u : World, Below w.heap.size w u → Calls Tryd.prog 32 #[.pointer (some ⟨r, 0, none⟩)] u fun e w' => e = .returned (.int .i64 ((Q.length : Int) - (R.S.e : Int))) ∧ ∃ n, w' = u.drewN n) := fun u hu => by
        obtain ⟨tv, h2⟩ := HTR.out u hu
        have := room_c r g tv R u h2 HN0.out (by omega) HFE.out
        rwa [show ((R.n - R.S.e : Nat) : Int) = (Q.length : Int) - (R.S.e : Int) by have := HQL.out; have := HFE.out; omega] at this
      have KP : Hid (∀ u : World, Below w.heap.size w u → Calls Tryd.prog 23 #[.pointer (some ⟨r, 0, none⟩)] u fun e w' => e = .returned (.int .u64 (R.top : Int)) ∧ u = w') := fun u hu => by
        obtain ⟨tv, h2⟩ := HTR.out u hu
        exact top_c r g tv R u h2 HN0.out
      have KQ : Hid (∀ u : World, Below w.heap.size w u → Calls Tryd.prog 12 #[.slice A Q.length cap] u fun e w' => e = .returned (.int .u64 (R.top : Int)) ∧ Below u.heap.size u w') := fun u hu => by
        have := rtop_c u A cap (bas Q) (HSS.out.later hu) (by rw [bas_len]; omega)
        rw [bas_len, show (bas Q).map (fun s => s.data.toList) = Q from lists_bas Q, ← HTOP.out] at this
        exact this
      have q0 : (0 : Int) ≤ (Q.length : Int) - (R.S.e : Int) := by have := HQL.out; have := HFE.out; omega
      clear hl9
      go_wp2_with fail
      refine (KX.out _ HB3.out).mono ?_
      rintro e w3 ⟨vx, rfl, ho, hb⟩
      obtain ⟨ax, cx, rfl, _, hsx, _, _⟩ := Ow.form (b := wr.heap.size) (L := R.S.T) ho
      have HB5 : Hid (Below w.heap.size w w3) := HB3.out.trans (hb.mono HB3.out.size)
      have HO3 : Hid (Strs w3 at' (bas R.S.T)) := (HO.out.later HB2.out).later hb
      have KS : Hid (Calls Tryd.prog 28 #[.slice ax R.S.T.length cx, .slice at' R.S.T.length ct] w3 fun e w' => e = .returned (.bool true) ∧ Below w3.heap.size w3 w') := same_yes w3 ax at' R.S.T.length cx ct (bas R.S.T) (bas R.S.T) hsx HO3.out (bas_len _) (bas_len _) (by have := HFT.out; omega) rfl
      clear ho hb hsx
      go_wp2_with fail
      refine KS.out.mono ?_
      rintro e w4 ⟨rfl, hb⟩
      have HB6 : Hid (Below w.heap.size w w4) := HB5.out.trans (hb.mono HB5.out.size)
      clear hb
      go_wp2_with fail
      refine (KF.out _ HB6.out).mono ?_
      rintro e w' ⟨rfl, rfl⟩
      go_wp2_with fail
      refine (KE.out _ HB6.out).mono ?_
      rintro e w' ⟨rfl, rfl⟩
      go_wp2_with fail
      refine (KM.out _ HB6.out).mono ?_
      rintro e w' ⟨rfl, nd, rfl⟩
      have HB7 : Hid (Below w.heap.size w (w4.drewN nd)) := below_drewN' HB6.out nd
      go_wp2_with fail
      refine (KP.out _ HB7.out).mono ?_
      rintro e w' ⟨rfl, rfl⟩
      go_wp2_with fail
      refine (KQ.out _ HB7.out).mono ?_
      rintro e w7 ⟨rfl, hb⟩
      have HB8 : Hid (Below w.heap.size w w7) := HB7.out.trans (hb.mono HB7.out.size)
      clear hb
      go_wp2_with fail
      go_ret
      exact ⟨rfl, HB8.out⟩
end Go.Proofs.YtnfjgmdpokpbbaaDoor.Rk
