/- Package wal: Open. -/
import Derived.Test.YtjlncjabiofklaaDoorWlCode
import Derived.BigQuiet
import Derived.Deep.DeepCutAuto
namespace Go.Proofs.YtjlncjabiofklaaDoor.Wl
open Go Go.RowKit Dv Rf Shf Rk
open Tal (Strs bas)
/-- The log that a drive's sectors are. -/
def rowOf (x : Dr) (f h : Nat) (S : Ld) : Rm := ⟨f, h, S, Sf.top (seg x.V f h), false⟩
def logOf (x : Dr) (h : Nat) (SA SB : Ld) (now : Nat) : Wm := ⟨rowOf x 0 h SA, rowOf x h h SB, now, 0, 0, 0, false⟩
def openW (x : Dr) (h : Nat) (SA SB : Ld) : Wm := (logOf x h SA SB (if SA.first < SB.first then 1 else 0)).noted (lgS SA SB).T.length
def OwRes (S : Nat → Prop) (x : Dr) (h : Nat) (SA SB : Ld) (g : Nat) (w : World) (e : Ending) (w' : World) : Prop :=
  Keeps S w w' ∧ ((∃ LL b r0 r1, Ps (lgS SA SB).T LL ∧ e = .returned (.tuple #[.pointer (some ⟨b, 0, none⟩), .int .i64 0]) ∧ Trio (fun j => S j ∨ w.heap.size ≤ j) w' b r0 r1 g x (openW x h SA SB)) ∨ ((∀ LL, ¬ Ps (lgS SA SB).T LL) ∧ e = .returned (.tuple #[.pointer none, .int .i64 5])))
theorem log_L (x : Dr) (h : Nat) (SA SB : Ld) : (logOf x h SA SB (if SA.first < SB.first then 1 else 0)).L = if SA.first < SB.first then rowOf x h h SB else rowOf x 0 h SA := by
  unfold Wm.L logOf
  split
  · rw [if_neg (show ¬ (1 : Nat) = 0 by decide)]
  · rw [if_pos rfl]
theorem ps_all {T : List Rk.Sec} (h : ∀ k (hk : k < T.length), k < T.length → ∃ l, parse T[k] = some l) : ∃ LL, Ps T LL := by
  refine ⟨T.map fun t => (parse t).getD [], by simp, fun i h1 h2 => ?_⟩
  obtain ⟨l, hl⟩ := h i h2 h2
  simp [hl]
theorem seg_le (V : List Rk.Sec) (f n : Nat) : (seg V f n).length ≤ n := by unfold seg; simp; omega
/-- Behind so many halves that were opened. -/
inductive OpSt (x : Dr) (h : Nat) (SA SB : Ld) (g b : Nat) : Nat → World → List Value → Prop
  | zero {w : World} : OpSt x h SA SB g b 0 w [.pointer none, .pointer none, .int .i64 0, .int .i64 0, .int .i64 0, .int .u64 0, .bool false]
  | one {w : World} {r0 : Nat} {t0 : Value} (a : Rk.At w r0 g t0 (rowOf x 0 h SA)) (l : ∀ j, Rk.Bs r0 t0 j → b < j) : OpSt x h SA SB g b 1 w [.pointer (some ⟨r0, 0, none⟩), .pointer none, .int .i64 0, .int .i64 0, .int .i64 0, .int .u64 0, .bool false]
  | two {w : World} {r0 r1 : Nat} {t0 t1 : Value} (a : Rk.At w r0 g t0 (rowOf x 0 h SA)) (a1 : Rk.At w r1 g t1 (rowOf x h h SB)) (l : ∀ j, Rk.Bs r0 t0 j → b < j) (l1 : ∀ j, Rk.Bs r1 t1 j → b < j) (s : ∀ j, Rk.Bs r0 t0 j → ¬ Rk.Bs r1 t1 j) : OpSt x h SA SB g b 2 w [.pointer (some ⟨r0, 0, none⟩), .pointer (some ⟨r1, 0, none⟩), .int .i64 0, .int .i64 0, .int .i64 0, .int .u64 0, .bool false]
set_option maxRecDepth 100000 in
set_option maxHeartbeats 6400000 in
theorem open_w {S : Nat → Prop} {w : World} {g : Nat} {x : Dr} (hos : Dv.Os S w g x) (hx : x.Ok) (h : Nat) (SA SB : Ld) (hh : h = x.D.length / 2) (h8 : 8 ≤ x.D.length) (h9 : x.D.length ≤ 1000) (hA : Loaded (seg x.V 0 h) SA) (hB : Loaded (seg x.V h h) SB) :
    Calls Tryd.prog 5 #[.pointer (some ⟨g, 0, none⟩)] w (OwRes S x h SA SB g w) := by
  have HOS := Lib.hid hos
  obtain ⟨n, hn⟩ : ∃ n, n = x.D.length := ⟨_, rfl⟩
  rw [← hn] at hh h8 h9
  have KZ : Hid (∀ u, Below w.heap.size w u → Calls Tryd.prog 17 #[.pointer (some ⟨g, 0, none⟩)] u fun e w' => e = .returned (.int .i64 (n : Int)) ∧ u = w') := fun u hu => by rw [hn]; exact os_size (HOS.out.later hu) hx
  have KO : Hid (∀ u, Below w.heap.size w u → ∀ f : Nat, f + h ≤ n → Calls Tryd.prog 18 #[.pointer (some ⟨g, 0, none⟩), .int .i64 (f : Int), .int .i64 (h : Int)] u (OpRes x f h g u)) := fun u hu f hf => open_c (HOS.out.later hu) hx f h (by omega) (by omega) (by omega)
  have HA := Lib.hid hA
  have HB' := Lib.hid hB
  have HH : Hid ((n : Int) / 2 = (h : Int)) := by show _ = _; omega
  have HH2 : Hid (0 + h ≤ n ∧ h + h ≤ n) := ⟨by omega, by omega⟩
  have hh1 : 1 ≤ h := by omega
  have hh9 : h ≤ 500 := by omega
  have HB0 : Hid (Below w.heap.size w (w.alloc (.cells #[.pointer none, .pointer none, .int .i64 0, .int .i64 0, .int .i64 0, .int .u64 0, .bool false] TWl))) := (Below.refl _ w).alloc (Nat.le_refl _) _
  have HR0 : Hid (Rw (w.alloc (.cells #[.pointer none, .pointer none, .int .i64 0, .int .i64 0, .int .i64 0, .int .u64 0, .bool false] TWl)) w.heap.size TWl [.pointer none, .pointer none, .int .i64 0, .int .i64 0, .int .i64 0, .int .u64 0, .bool false]) := Rw.new w [.pointer none, .pointer none, .int .i64 0, .int .i64 0, .int .i64 0, .int .u64 0, .bool false] TWl
  clear hos hx hh hA hB h8 hn
  go_enter Tryd.func5, Tryd.ntmps5
  go_wp2_with fail
  generalize w.alloc (.cells #[.pointer none, .pointer none, .int .i64 0, .int .i64 0, .int .i64 0, .int .u64 0, .bool false] TWl) = w0 at *
  refine (KZ.out _ HB0.out).mono ?_
  rintro e w' ⟨rfl, rfl⟩
  go_wp2_with fail
  rw [HH.out]
  go_loopg [6, 7, 8, 19] 2 (fun kx s6 s7 s8 s19 wr => ∃ j : Nat, s19 = .int .i64 (j : Int) ∧ j + kx = 2 ∧ Hid (Below w.heap.size w wr) ∧ Hid (∃ vv, Rw wr w.heap.size TWl vv ∧ OpSt x h SA SB g (w.heap.size) j wr vv))
  case atStart => exact ⟨0, rfl, rfl, HB0, _, HR0.out, OpSt.zero⟩
  case round =>
    obtain ⟨j, rfl, hj, HB, HS⟩ := hrel
    obtain ⟨vv, hr, hs⟩ := HS.out
    cases hs with
    | zero =>
      have K1 : Hid (Calls Tryd.prog 18 #[.pointer (some ⟨g, 0, none⟩), .int .i64 0, .int .i64 (h : Int)] wr (OpRes x 0 h g wr)) := KO.out wr HB.out 0 HH2.out.1
      have HR := Lib.hid hr
      have HLB : Hid (w.heap.size < wr.heap.size) := hr.lt
      have HJ := Lib.hid hj
      clear hr HS hj
      go_wp2_with fail
      refine K1.out.mono ?_
      rintro e w4 ⟨r0, t0, s0, rfl, hl0, ha0, hb4, hg0⟩
      obtain rfl := hl0.one HA.out
      have HR4 := Lib.hid (HR.out.later hb4)
      have c0 : w4.cell? ⟨w.heap.size, 0, none⟩ = some (.pointer none) := HR4.out.cell 0
      have f0 := HR4.out.frozen 0
      have HB5 : Hid (Below w.heap.size w (w4.setCell ⟨w.heap.size, 0, none⟩ (.pointer (some ⟨r0, 0, none⟩)))) := (HB.out.trans (hb4.mono HB.out.size)).setCell (Nat.le_refl _) _
      have HR5 := Lib.hid (HR4.out.setCell 0 (.pointer (some ⟨r0, 0, none⟩)))
      have HA5 : Hid (Rk.At (w4.setCell ⟨w.heap.size, 0, none⟩ (.pointer (some ⟨r0, 0, none⟩))) r0 g t0 (rowOf x 0 h s0)) := ha0.keeps (T := fun j => j = w.heap.size) ((Keeps.refl (fun j => j = w.heap.size) w4).setCell _ 0 _ (.inl rfl)) fun j hj e => by have := hg0 j hj; have := HLB.out; omega
      have HG5 : Hid (∀ j, Rk.Bs r0 t0 j → w.heap.size < j) := fun j hj => by have := hg0 j hj; have := HLB.out; omega
      clear hl0 ha0 hb4 hg0
      go_wp2_with fail
      go_roundg 1
      case measure => have := HJ.out; omega
      case rel => exact ⟨1, rfl, rfl, HB5, _, HR5.out, .one HA5.out HG5.out⟩
    | @one _ r0 t0 ha0 hg0 =>
      have K1 : Hid (Calls Tryd.prog 18 #[.pointer (some ⟨g, 0, none⟩), .int .i64 (h : Int), .int .i64 (h : Int)] wr (OpRes x h h g wr)) := KO.out wr HB.out h HH2.out.2
      have HR := Lib.hid hr
      have HLB : Hid (w.heap.size < wr.heap.size) := hr.lt
      have HA0 := Lib.hid ha0
      have HG0 := Lib.hid hg0
      have HJ := Lib.hid hj
      clear hr HS hj ha0 hg0
      go_wp2_with fail
      refine K1.out.mono ?_
      rintro e w4 ⟨r1, t1, s1, rfl, hl1, ha1, hb4, hg1⟩
      obtain rfl := hl1.one HB'.out
      have HR4 := Lib.hid (HR.out.later hb4)
      have c0 : w4.cell? ⟨w.heap.size, 1, none⟩ = some (.pointer none) := HR4.out.cell 1
      have f0 := HR4.out.frozen 1
      have HB5 : Hid (Below w.heap.size w (w4.setCell ⟨w.heap.size, 1, none⟩ (.pointer (some ⟨r1, 0, none⟩)))) := (HB.out.trans (hb4.mono HB.out.size)).setCell (Nat.le_refl _) _
      have HR5 := Lib.hid (HR4.out.setCell 1 (.pointer (some ⟨r1, 0, none⟩)))
      have HA5 : Hid (Rk.At (w4.setCell ⟨w.heap.size, 1, none⟩ (.pointer (some ⟨r1, 0, none⟩))) r0 g t0 (rowOf x 0 h SA)) := (HA0.out.later hb4).keeps (T := fun j => j = w.heap.size) ((Keeps.refl (fun j => j = w.heap.size) w4).setCell _ 1 _ (.inl rfl)) fun j hj e => by have := HG0.out j hj; omega
      have HA6 : Hid (Rk.At (w4.setCell ⟨w.heap.size, 1, none⟩ (.pointer (some ⟨r1, 0, none⟩))) r1 g t1 (rowOf x h h s1)) := ha1.keeps (T := fun j => j = w.heap.size) ((Keeps.refl (fun j => j = w.heap.size) w4).setCell _ 1 _ (.inl rfl)) fun j hj e => by have := hg1 j hj; have := HLB.out; omega
      have HG5 : Hid (∀ j, Rk.Bs r1 t1 j → w.heap.size < j) := fun j hj => by have := hg1 j hj; have := HLB.out; omega
      have HG6 : Hid (∀ j, Rk.Bs r0 t0 j → ¬ Rk.Bs r1 t1 j) := fun j hj hk => by have := hg1 j hk; have := HA0.out.lt j hj; omega
      clear hl1 ha1 hb4 hg1
      go_wp2_with fail
      go_roundg 0
      case measure => have := HJ.out; omega
      case rel => exact ⟨2, rfl, rfl, HB5, _, HR5.out, .two HA5.out HA6.out HG0.out HG5.out HG6.out⟩
    | @two _ r0 r1 t0 t1 ha0 ha1 hg0 hg1 hsep =>
      have hHT : TrioV (fun j => S j ∨ w.heap.size ≤ j) wr w.heap.size r0 r1 g t0 t1 x (logOf x h SA SB 0) := ⟨(HOS.out.later HB.out).mono fun j hj => .inl hj, ha0, ha1, hr, fun j hj => .inr (Nat.le_of_lt (hg0 j hj)), fun j hj => .inr (Nat.le_of_lt (hg1 j hj)), .inr (Nat.le_refl _), hsep⟩
      have HT0 : Hid (Trio (fun j => S j ∨ w.heap.size ≤ j) wr w.heap.size r0 r1 g x (logOf x h SA SB 0)) := ⟨t0, t1, hHT⟩
      have c0 : wr.cell? ⟨w.heap.size, 0, none⟩ = some (.pointer (some ⟨r0, 0, none⟩)) := hr.cell 0
      have c1 : wr.cell? ⟨w.heap.size, 1, none⟩ = some (.pointer (some ⟨r1, 0, none⟩)) := hr.cell 1
      have KF0 : Hid (∀ n, Calls Tryd.prog 19 #[.pointer (some ⟨r0, 0, none⟩)] (wr.drewN n) fun e w' => e = .returned (.int .u64 (SA.first : Int)) ∧ w' = wr.drewN n) := fun n => (first_c r0 g t0 _ _ (ha0.later (drewN_below (Below.refl _ wr) n)) (show 0 < h by omega)).mono fun _ _ h => ⟨h.1, h.2.symm⟩
      have KF1 : Hid (∀ n, Calls Tryd.prog 19 #[.pointer (some ⟨r1, 0, none⟩)] (wr.drewN n) fun e w' => e = .returned (.int .u64 (SB.first : Int)) ∧ w' = wr.drewN n) := fun n => (first_c r1 g t1 _ _ (ha1.later (drewN_below (Below.refl _ wr) n)) (show 0 < h by omega)).mono fun _ _ h => ⟨h.1, h.2.symm⟩
      have HT10 : Hid ((lgS SA SB).T.length ≤ 1000) := by
        show _ ≤ _
        unfold lgS
        split
        · have := HB'.out.r.fine.tl; have := HB'.out.r.fine.le; have := seg_le x.V h h; omega
        · have := HA.out.r.fine.tl; have := HA.out.r.fine.le; have := seg_le x.V 0 h; omega
      have HE10 : Hid ((lgS SA SB).e ≤ h) := by
        show _ ≤ _
        unfold lgS
        split
        · have := HB'.out.r.fine.le; have := seg_le x.V h h; omega
        · have := HA.out.r.fine.le; have := seg_le x.V 0 h; omega
      have HTL : Hid (∀ t ∈ (lgS SA SB).T, t.length ≤ 98304) := by
        show ∀ t ∈ (lgS SA SB).T, t.length ≤ 98304
        unfold lgS
        split
        · exact HB'.out.r.fine.t
        · exact HA.out.r.fine.t
      clear hHT ha0 ha1 hg0 hg1 hsep hr HS hj
      go_wp2_with fail
      go_quiet ((first | (go_at_call 19; with_reducible exact Calls.quiet_of_same (KF0.out _)) | (go_at_call 19; with_reducible exact Calls.quiet_of_same (KF1.out _))))
      have HT' : Hid (Then (fun j => S j ∨ w.heap.size ≤ j) w.heap.size r0 r1 g x (logOf x h SA SB 0) wr (wr.drewN nq)) := Then.refl HT0.out (drewN_below (Below.refl _ _) nq)
      have HBq : Hid (Below w.heap.size w (wr.drewN nq)) := drewN_below HB.out nq
      generalize wr.drewN nq = wq at *
      clear c0 c1 KF0 KF1
      by_cases hfb : SA.first < SB.first
      · have HBX : Hid (Below w.heap.size w (wq.setCell ⟨w.heap.size, 2, none⟩ (.int .i64 1))) := HBq.out.setCell (Nat.le_refl _) _
        have HT : Hid (Trio (fun j => S j ∨ w.heap.size ≤ j) (wq.setCell ⟨w.heap.size, 2, none⟩ (.int .i64 1)) w.heap.size r0 r1 g x (logOf x h SA SB 1)) := (HT'.out.1.turned 1).1.mono fun j hj => by
          have h1 := HB.out.size
          have h2 := HBq.out.size
          rcases hj with (hj | hj) | hj
          · exact hj
          · exact .inr (by omega)
          · exact .inr (by omega)
        obtain ⟨_, _, hvq⟩ := HT'.out.1
        have c2 : wq.cell? ⟨w.heap.size, 2, none⟩ = some (.int .i64 0) := hvq.blk.cell 2
        have f2 := hvq.blk.frozen 2
        have hLS : (logOf x h SA SB 1).L.S = lgS SA SB := by unfold lgS; rw [if_pos hfb]; rfl
        have hOP : openW x h SA SB = (logOf x h SA SB 1).noted (lgS SA SB).T.length := by unfold openW; rw [if_pos hfb]
        have HLSX : Hid ((logOf x h SA SB 1).L.S = lgS SA SB ∧ (logOf x h SA SB 1).L.n = h) := ⟨hLS, rfl⟩
        have HOPX := Lib.hid hOP
        clear hvq hLS hOP
        have hgt : (SA.first : Int) < (SB.first : Int) := by omega
        clear hfb
        go_upto_region 13 with (fail)
        clear hgt c2 f2
        have HBW : Hid (Below w.heap.size w (wq.setCell ⟨w.heap.size, 2, none⟩ (.int .i64 1))) := HBX
        have KL : Hid (Calls Tryd.prog 20 #[.pointer (some ⟨w.heap.size, 0, none⟩)] (wq.setCell ⟨w.heap.size, 2, none⟩ (.int .i64 1)) fun e w' => e = .returned (.pointer (some ⟨(logOf x h SA SB 1).r r0 r1, 0, none⟩)) ∧ Below (wq.setCell ⟨w.heap.size, 2, none⟩ (.int .i64 1)).heap.size (wq.setCell ⟨w.heap.size, 2, none⟩ (.int .i64 1)) w') := by
          obtain ⟨_, _, hv⟩ := HT.out
          exact (log_c w.heap.size r0 r1 (logOf x h SA SB 1) (wq.setCell ⟨w.heap.size, 2, none⟩ (.int .i64 1)) hv.blk (show 1 ≤ 1 by decide)).mono fun e w' hr => ⟨hr.1, by obtain ⟨m, rfl⟩ := hr.2; exact drewN_below (Below.refl _ _) m⟩
        have HLS := HLSX
        have KX : Hid (∀ u, Below (wq.setCell ⟨w.heap.size, 2, none⟩ (.int .i64 1)).heap.size (wq.setCell ⟨w.heap.size, 2, none⟩ (.int .i64 1)) u → Calls Tryd.prog 21 #[.pointer (some ⟨(logOf x h SA SB 1).r r0 r1, 0, none⟩)] u fun e w' => ∃ A cap, e = .returned (.slice A (lgS SA SB).T.length cap) ∧ (A = none → cap = 0) ∧ Strs w' A (bas (lgS SA SB).T) ∧ Below u.heap.size u w') := fun u hu => by
          obtain ⟨q0, q1, hv⟩ := HT.out.later hu
          have ha : ∃ tv, Rk.At u ((logOf x h SA SB 1).r r0 r1) g tv (logOf x h SA SB 1).L := ⟨q1, hv.a1⟩
          obtain ⟨tv, ha⟩ := ha
          refine (texts_c _ g tv _ u ha (by rw [HLS.out.2]; omega) (by rw [HLS.out.1]; have := HT10.out; omega)).mono fun e w' hr => ?_
          rw [HLS.out.1] at hr
          obtain ⟨v, rfl, hv, hb⟩ := hr
          obtain ⟨A, cap, rfl, h1, h2, h3, h4⟩ := Ow.form (b := u.heap.size) (L := (lgS SA SB).T) hv
          exact ⟨A, cap, rfl, h3, h2, hb⟩
        have KN : Hid (∀ u, Below (wq.setCell ⟨w.heap.size, 2, none⟩ (.int .i64 1)).heap.size (wq.setCell ⟨w.heap.size, 2, none⟩ (.int .i64 1)) u → Calls Tryd.prog 23 #[.pointer (some ⟨w.heap.size, 0, none⟩), .int .i64 ((lgS SA SB).T.length : Int)] u fun e w' => e = .returned (.tuple #[]) ∧ Trio (fun j => S j ∨ w.heap.size ≤ j) w' w.heap.size r0 r1 g x (openW x h SA SB) ∧ Keeps S w w') := fun u hu => by
          have hT := (HT.out.later hu)
          refine (note_c _ w.heap.size r0 r1 g x (logOf x h SA SB 1) (lgS SA SB).T.length u hT (show 1 ≤ 1 by decide) (by rw [HLS.out.2]; omega) (by rw [HLS.out.2]; omega) (by rw [HLS.out.1, HLS.out.2]; exact HE10.out)).mono fun e w' hr => ⟨hr.1, ?_, ?_⟩
          · have e1 : openW x h SA SB = (logOf x h SA SB 1).noted (lgS SA SB).T.length := HOPX.out
            rw [e1]
            exact hr.2.1.mono fun j hj => hj.elim id fun hj => .inr (Nat.le_trans (HBW.out.trans (hu.mono HBW.out.size)).size hj)
          · exact (Keeps.of S (HBW.out.trans (hu.mono HBW.out.size))).then hr.2.2 fun j hj => hj
        clear HT HLS HT' HBX HLSX
        obtain ⟨rr, hrr⟩ : ∃ rr, rr = (logOf x h SA SB 1).r r0 r1 := ⟨_, rfl⟩
        rw [← hrr] at KL KX
        clear hrr
        generalize (wq.setCell ⟨w.heap.size, 2, none⟩ (.int .i64 1)) = w5 at *
        go_wp2_with fail
        refine KL.out.mono ?_
        rintro e w6 ⟨rfl, hb⟩
        have HB6 := Lib.hid hb
        clear hb
        go_wp2_with fail
        refine (KX.out _ HB6.out).mono ?_
        rintro e w7 ⟨A, cap, rfl, _, hst, hb⟩
        have HS7 := Lib.hid hst
        have HB7 : Hid (Below w5.heap.size w5 w7) := HB6.out.trans (hb.mono HB6.out.size)
        clear hb hst
        obtain ⟨T, hT⟩ : ∃ T, T = (lgS SA SB).T := ⟨_, rfl⟩
        rw [← hT] at HS7 KN HT10 HTL ⊢
        have HTE := Lib.hid hT
        have hT9 : T.length ≤ 1000 := by have := HT10.out; omega
        clear hT
        go_wp2_with fail
        go_loopg [62] T.length (fun kx s62 wr => ∃ i : Nat, s62 = .int .i64 (i : Int) ∧ i ≤ T.length ∧ Hid (∀ k (hk : k < T.length), k < i → ∃ l, parse T[k] = some l) ∧ Hid (Below w7.heap.size w7 wr) ∧ T.length ≤ i + kx)
        case atStart => exact ⟨0, rfl, Nat.zero_le _, fun k hk h => absurd h (Nat.not_lt_zero _), Below.refl _ _, by omega⟩
        case round =>
          obtain ⟨i, rfl, hi9, HPA, HB8, hkx⟩ := hrel
          have HB58 : Hid (Below w5.heap.size w5 wr) := HB7.out.trans (HB8.out.mono HB7.out.size)
          have HBw8 : Hid (Below w.heap.size w wr) := HBW.out.trans (HB58.out.mono HBW.out.size)
          by_cases hlt : i < T.length
          · obtain ⟨bb, off, rfl, hbl, hc⟩ := (HS7.out.later HB8.out) i (by rw [bas_len]; exact hlt)
            have e1 : (bas T)[i]'(by rw [bas_len]; exact hlt) = ⟨(T[i]'hlt).toArray⟩ := by simp [bas]
            rw [e1] at hc
            have htl := HTL.out _ (List.getElem_mem hlt)
            obtain ⟨t, hte⟩ : ∃ t, t = (⟨(T[i]'hlt).toArray⟩ : ByteArray) := ⟨_, rfl⟩
            have hts : t.data.toList = T[i]'hlt := by rw [hte]
            have htz : t.size ≤ 1000000 := by rw [hte]; show (T[i]'hlt).length ≤ _; omega
            rw [← hte] at hc
            have HTS := Lib.hid hts
            have j0 : (0 : Int) ≤ (i : Int) := by omega
            have j1 : (i : Int) < (T.length : Int) := by omega
            clear e1 htl hte hts hbl
            cases ho : parse t.data.toList with
            | none =>
              have KR := Lib.hid (read_no t wr htz ho)
              have HN : Hid (∀ LL, ¬ Ps T LL) := fun LL' hp => by
                have := hp.eq i (by rw [hp.len]; exact hlt) hlt
                rw [← HTS.out, ho] at this
                cases this
              clear ho hkx htz
              go_wp2_with fail
              refine KR.out.mono ?_
              rintro e w9 ⟨rfl, hb⟩
              have HB9 : Hid (Below w.heap.size w w9) := HBw8.out.trans (hb.mono HBw8.out.size)
              clear hb
              go_wp2_with fail
              go_ret2
              refine ⟨Keeps.of S HB9.out, .inr ⟨?_, rfl⟩⟩
              rw [← HTE.out]
              exact HN.out
            | some l =>
              have KR := Lib.hid (read_yes t l wr htz ho)
              have HP2 : Hid (∀ k (hk : k < T.length), k < i + 1 → ∃ l, parse T[k] = some l) := fun k hk h => by
                by_cases e : k < i
                · exact HPA.out k hk e
                · obtain rfl : k = i := by omega
                  exact ⟨l, by rw [← HTS.out]; exact ho⟩
              clear ho htz
              go_wp2_with fail
              refine KR.out.mono ?_
              rintro e w9 ⟨v, rfl, hv, _, hb⟩
              obtain ⟨a7, c7, rfl, _, _, _⟩ := hv
              have HB9 : Hid (Below w7.heap.size w7 w9) := HB8.out.trans (hb.mono HB8.out.size)
              clear hb
              go_wp2_with fail
              go_roundg (T.length - (i + 1))
              case measure => omega
              case rel => exact ⟨i + 1, by simp, by omega, HP2, HB9, by omega⟩
          · obtain rfl : i = T.length := by omega
            have HPS : Hid (∃ LL, Ps T LL) := ps_all HPA.out
            have KN8 := Lib.hid (KN.out _ HB58.out)
            clear hkx hlt hi9 HPA
            go_wp2_with fail
            refine KN8.out.mono ?_
            rintro e w9 ⟨rfl, ht, hb⟩
            have HT9 := Lib.hid ht
            have HB9 := Lib.hid hb
            clear ht hb
            go_wp2_with fail
            go_ret2
            obtain ⟨LL, hLL⟩ := HPS.out
            exact ⟨HB9.out, .inl ⟨LL, _, _, _, by rw [← HTE.out]; exact hLL, rfl, HT9.out⟩⟩
      · have HBX : Hid (Below w.heap.size w wq) := HBq.out
        have HT : Hid (Trio (fun j => S j ∨ w.heap.size ≤ j) wq w.heap.size r0 r1 g x (logOf x h SA SB 0)) := HT'.out.1.mono fun j hj => by
          have h1 := HB.out.size
          rcases hj with hj | hj
          · exact hj
          · exact .inr (by omega)
        have hLS : (logOf x h SA SB 0).L.S = lgS SA SB := by unfold lgS; rw [if_neg hfb]; rfl
        have hOP : openW x h SA SB = (logOf x h SA SB 0).noted (lgS SA SB).T.length := by unfold openW; rw [if_neg hfb]
        have HLSX : Hid ((logOf x h SA SB 0).L.S = lgS SA SB ∧ (logOf x h SA SB 0).L.n = h) := ⟨hLS, rfl⟩
        have HOPX := Lib.hid hOP
        clear hLS hOP
        have hgt : ¬ (SA.first : Int) < (SB.first : Int) := by omega
        clear hfb
        go_upto_region 13 with (fail)
        clear hgt
        have HBW : Hid (Below w.heap.size w wq) := HBX
        have KL : Hid (Calls Tryd.prog 20 #[.pointer (some ⟨w.heap.size, 0, none⟩)] wq fun e w' => e = .returned (.pointer (some ⟨(logOf x h SA SB 0).r r0 r1, 0, none⟩)) ∧ Below wq.heap.size wq w') := by
          obtain ⟨_, _, hv⟩ := HT.out
          exact (log_c w.heap.size r0 r1 (logOf x h SA SB 0) wq hv.blk (show 0 ≤ 1 by decide)).mono fun e w' hr => ⟨hr.1, by obtain ⟨m, rfl⟩ := hr.2; exact drewN_below (Below.refl _ _) m⟩
        have HLS := HLSX
        have KX : Hid (∀ u, Below wq.heap.size wq u → Calls Tryd.prog 21 #[.pointer (some ⟨(logOf x h SA SB 0).r r0 r1, 0, none⟩)] u fun e w' => ∃ A cap, e = .returned (.slice A (lgS SA SB).T.length cap) ∧ (A = none → cap = 0) ∧ Strs w' A (bas (lgS SA SB).T) ∧ Below u.heap.size u w') := fun u hu => by
          obtain ⟨q0, q1, hv⟩ := HT.out.later hu
          have ha : ∃ tv, Rk.At u ((logOf x h SA SB 0).r r0 r1) g tv (logOf x h SA SB 0).L := ⟨q0, hv.a0⟩
          obtain ⟨tv, ha⟩ := ha
          refine (texts_c _ g tv _ u ha (by rw [HLS.out.2]; omega) (by rw [HLS.out.1]; have := HT10.out; omega)).mono fun e w' hr => ?_
          rw [HLS.out.1] at hr
          obtain ⟨v, rfl, hv, hb⟩ := hr
          obtain ⟨A, cap, rfl, h1, h2, h3, h4⟩ := Ow.form (b := u.heap.size) (L := (lgS SA SB).T) hv
          exact ⟨A, cap, rfl, h3, h2, hb⟩
        have KN : Hid (∀ u, Below wq.heap.size wq u → Calls Tryd.prog 23 #[.pointer (some ⟨w.heap.size, 0, none⟩), .int .i64 ((lgS SA SB).T.length : Int)] u fun e w' => e = .returned (.tuple #[]) ∧ Trio (fun j => S j ∨ w.heap.size ≤ j) w' w.heap.size r0 r1 g x (openW x h SA SB) ∧ Keeps S w w') := fun u hu => by
          have hT := (HT.out.later hu)
          refine (note_c _ w.heap.size r0 r1 g x (logOf x h SA SB 0) (lgS SA SB).T.length u hT (show 0 ≤ 1 by decide) (by rw [HLS.out.2]; omega) (by rw [HLS.out.2]; omega) (by rw [HLS.out.1, HLS.out.2]; exact HE10.out)).mono fun e w' hr => ⟨hr.1, ?_, ?_⟩
          · have e1 : openW x h SA SB = (logOf x h SA SB 0).noted (lgS SA SB).T.length := HOPX.out
            rw [e1]
            exact hr.2.1.mono fun j hj => hj.elim id fun hj => .inr (Nat.le_trans (HBW.out.trans (hu.mono HBW.out.size)).size hj)
          · exact (Keeps.of S (HBW.out.trans (hu.mono HBW.out.size))).then hr.2.2 fun j hj => hj
        clear HT HLS HT' HBX HLSX
        obtain ⟨rr, hrr⟩ : ∃ rr, rr = (logOf x h SA SB 0).r r0 r1 := ⟨_, rfl⟩
        rw [← hrr] at KL KX
        clear hrr
        generalize wq = w5 at *
        go_wp2_with fail
        refine KL.out.mono ?_
        rintro e w6 ⟨rfl, hb⟩
        have HB6 := Lib.hid hb
        clear hb
        go_wp2_with fail
        refine (KX.out _ HB6.out).mono ?_
        rintro e w7 ⟨A, cap, rfl, _, hst, hb⟩
        have HS7 := Lib.hid hst
        have HB7 : Hid (Below w5.heap.size w5 w7) := HB6.out.trans (hb.mono HB6.out.size)
        clear hb hst
        obtain ⟨T, hT⟩ : ∃ T, T = (lgS SA SB).T := ⟨_, rfl⟩
        rw [← hT] at HS7 KN HT10 HTL ⊢
        have HTE := Lib.hid hT
        have hT9 : T.length ≤ 1000 := by have := HT10.out; omega
        clear hT
        go_wp2_with fail
        go_loopg [62] T.length (fun kx s62 wr => ∃ i : Nat, s62 = .int .i64 (i : Int) ∧ i ≤ T.length ∧ Hid (∀ k (hk : k < T.length), k < i → ∃ l, parse T[k] = some l) ∧ Hid (Below w7.heap.size w7 wr) ∧ T.length ≤ i + kx)
        case atStart => exact ⟨0, rfl, Nat.zero_le _, fun k hk h => absurd h (Nat.not_lt_zero _), Below.refl _ _, by omega⟩
        case round =>
          obtain ⟨i, rfl, hi9, HPA, HB8, hkx⟩ := hrel
          have HB58 : Hid (Below w5.heap.size w5 wr) := HB7.out.trans (HB8.out.mono HB7.out.size)
          have HBw8 : Hid (Below w.heap.size w wr) := HBW.out.trans (HB58.out.mono HBW.out.size)
          by_cases hlt : i < T.length
          · obtain ⟨bb, off, rfl, hbl, hc⟩ := (HS7.out.later HB8.out) i (by rw [bas_len]; exact hlt)
            have e1 : (bas T)[i]'(by rw [bas_len]; exact hlt) = ⟨(T[i]'hlt).toArray⟩ := by simp [bas]
            rw [e1] at hc
            have htl := HTL.out _ (List.getElem_mem hlt)
            obtain ⟨t, hte⟩ : ∃ t, t = (⟨(T[i]'hlt).toArray⟩ : ByteArray) := ⟨_, rfl⟩
            have hts : t.data.toList = T[i]'hlt := by rw [hte]
            have htz : t.size ≤ 1000000 := by rw [hte]; show (T[i]'hlt).length ≤ _; omega
            rw [← hte] at hc
            have HTS := Lib.hid hts
            have j0 : (0 : Int) ≤ (i : Int) := by omega
            have j1 : (i : Int) < (T.length : Int) := by omega
            clear e1 htl hte hts hbl
            cases ho : parse t.data.toList with
            | none =>
              have KR := Lib.hid (read_no t wr htz ho)
              have HN : Hid (∀ LL, ¬ Ps T LL) := fun LL' hp => by
                have := hp.eq i (by rw [hp.len]; exact hlt) hlt
                rw [← HTS.out, ho] at this
                cases this
              clear ho hkx htz
              go_wp2_with fail
              refine KR.out.mono ?_
              rintro e w9 ⟨rfl, hb⟩
              have HB9 : Hid (Below w.heap.size w w9) := HBw8.out.trans (hb.mono HBw8.out.size)
              clear hb
              go_wp2_with fail
              go_ret2
              refine ⟨Keeps.of S HB9.out, .inr ⟨?_, rfl⟩⟩
              rw [← HTE.out]
              exact HN.out
            | some l =>
              have KR := Lib.hid (read_yes t l wr htz ho)
              have HP2 : Hid (∀ k (hk : k < T.length), k < i + 1 → ∃ l, parse T[k] = some l) := fun k hk h => by
                by_cases e : k < i
                · exact HPA.out k hk e
                · obtain rfl : k = i := by omega
                  exact ⟨l, by rw [← HTS.out]; exact ho⟩
              clear ho htz
              go_wp2_with fail
              refine KR.out.mono ?_
              rintro e w9 ⟨v, rfl, hv, _, hb⟩
              obtain ⟨a7, c7, rfl, _, _, _⟩ := hv
              have HB9 : Hid (Below w7.heap.size w7 w9) := HB8.out.trans (hb.mono HB8.out.size)
              clear hb
              go_wp2_with fail
              go_roundg (T.length - (i + 1))
              case measure => omega
              case rel => exact ⟨i + 1, by simp, by omega, HP2, HB9, by omega⟩
          · obtain rfl : i = T.length := by omega
            have HPS : Hid (∃ LL, Ps T LL) := ps_all HPA.out
            have KN8 := Lib.hid (KN.out _ HB58.out)
            clear hkx hlt hi9 HPA
            go_wp2_with fail
            refine KN8.out.mono ?_
            rintro e w9 ⟨rfl, ht, hb⟩
            have HT9 := Lib.hid ht
            have HB9 := Lib.hid hb
            clear ht hb
            go_wp2_with fail
            go_ret2
            obtain ⟨LL, hLL⟩ := HPS.out
            exact ⟨HB9.out, .inl ⟨LL, _, _, _, by rw [← HTE.out]; exact hLL, rfl, HT9.out⟩⟩
end Go.Proofs.YtjlncjabiofklaaDoor.Wl
