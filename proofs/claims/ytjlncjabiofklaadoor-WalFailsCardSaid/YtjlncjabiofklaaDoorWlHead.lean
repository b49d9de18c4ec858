/- The statements of wal: the calls whose answers the document fixes. -/
import Derived.Test.YtjlncjabiofklaaDoorWjF
namespace Go.Proofs.YtjlncjabiofklaaDoor.Wl
open Go Go.RowKit Dv Rf Shf Rk
open Tal (Strs bas)
/-- Where head stands. -/
structure Hs (w wr : World) (b r0 r1 g : Nat) (x : Dr) (M : Wm) : Prop where
  t : Trio (fun j => w.heap.size ≤ j) wr b r0 r1 g x M
  b : Below w.heap.size w wr
section
variable {w wr w2 : World} {b r0 r1 g : Nat} {x x' : Dr} {M M' : Wm}
theorem Hs.later (h : Hs w wr b r0 r1 g x M) (k : Below wr.heap.size wr w2) : Hs w w2 b r0 r1 g x M := ⟨h.t.later k, h.b.trans (k.mono h.b.size)⟩
theorem Hs.next (h : Hs w wr b r0 r1 g x M) (k : Then (fun j => w.heap.size ≤ j) b r0 r1 g x' M' wr w2) : Hs w w2 b r0 r1 g x' M' :=
  ⟨k.1.mono fun _ hj => hj.elim id fun hj => Nat.le_trans h.b.size hj, h.b.trans (k.2.below (fun _ hj => hj) h.b.size)⟩
end
theorem open_nil06 (w : World) : Calls Tryd.prog 5 #[.pointer none] w fun e w' => e = .returned (.tuple #[.pointer none, .int .i64 1]) ∧ Below w.heap.size w w' := by
  have KS : Hid (∀ u, Calls Tryd.prog 17 #[.pointer none] u fun e w' => e = .returned (.int .i64 0) ∧ u = w') := fun u => size_nil u
  have KO : Hid (∀ u, Calls Tryd.prog 18 #[.pointer none, .int .i64 0, .int .i64 0] u fun e w' => e = .returned (.tuple #[.pointer none, .int .i64 1]) ∧ u = w') := fun u => open_nil 0 0 u
  have HB0 : Hid (Below w.heap.size w (w.alloc (.cells #[.pointer none, .pointer none, .int .i64 0, .int .i64 0, .int .i64 0, .int .u64 0, .bool false] TWl))) := (Below.refl _ w).alloc (Nat.le_refl _) _
  go_enter Tryd.func5, Tryd.ntmps5
  go_wp2_with fail
  generalize w.alloc (.cells #[.pointer none, .pointer none, .int .i64 0, .int .i64 0, .int .i64 0, .int .u64 0, .bool false] TWl) = w0 at *
  refine (KS.out _).mono ?_
  rintro e w' ⟨rfl, rfl⟩
  go_wp2_with fail
  go_loopg [6, 7, 8, 19] 1 (fun kx s6 s7 s8 s19 wr => s19 = .int .i64 0 ∧ Hid (wr = w0))
  case atStart => exact ⟨rfl, rfl⟩
  case round =>
    obtain ⟨rfl, HW⟩ := hrel
    obtain rfl := HW.out
    go_wp2_with fail
    refine (KO.out _).mono ?_
    rintro e w' ⟨rfl, rfl⟩
    go_wp2_with fail
    go_ret2
    exact ⟨rfl, HB0.out⟩
/-- A list of lists, and where its blocks end. -/
def LssB (base top : Nat) (w : World) (v : Value) (LL : List (List Rk.Sec)) : Prop := ∃ vs, LssV base w v LL vs ∧ (∀ j, v.ownBlock = some j → j < top) ∧ ∀ u ∈ vs, ∀ j, u.ownBlock = some j → j < top
theorem Lss.bd {base : Nat} {w : World} {v : Value} {LL : List (List Rk.Sec)} (h : Lss base w v LL) : LssB base w.heap.size w v LL := by
  obtain ⟨vs, h⟩ := h
  exact ⟨vs, h, fun j hj => (h.own.lt j hj).2, fun u hu j hj => (h.blk u hu j hj).2.1⟩
theorem LssB.lss {base top : Nat} {w : World} {v : Value} {LL : List (List Rk.Sec)} (h : LssB base top w v LL) : Lss base w v LL := by
  obtain ⟨vs, h, _⟩ := h
  exact ⟨vs, h⟩
theorem LssB.keeps {base top : Nat} {T : Nat → Prop} {w w' : World} {v : Value} {LL : List (List Rk.Sec)} (h : LssB base top w v LL) (k : Keeps T w w') (hT : ∀ j, base ≤ j → j < top → ¬ T j) : LssB base top w' v LL := by
  obtain ⟨vs, h, h1, h2⟩ := h
  refine ⟨vs, ⟨h.len, own_keeps h.own k fun j hj => hT j (h.own.lt j hj).1 (h1 j hj), fun i u l hu hl => (h.ls i u l hu hl).keeps k fun j hj => ?_, fun u hu j hj => ?_⟩, h1, h2⟩
  · have hm := List.mem_of_getElem? hu
    exact hT j (h.blk u hm j hj).1 (h2 u hm j hj)
  · obtain ⟨q1, q2, q3⟩ := h.blk u hu j hj
    exact ⟨q1, Nat.lt_of_lt_of_le q2 k.size, q3⟩
theorem LssB.later {base top : Nat} {w w' : World} {v : Value} {LL : List (List Rk.Sec)} (h : LssB base top w v LL) (k : Below w.heap.size w w') : LssB base top w' v LL := h.keeps (Keeps.of (fun _ => False) k) fun _ _ _ h => h
theorem below_alloc {w wr : World} (h : Below w.heap.size w wr) (o : Obj) : Below w.heap.size w (wr.alloc o) := h.alloc h.size o
theorem size_alloc (w : World) (o : Obj) : (w.alloc o).heap.size = w.heap.size + 1 := by simp
set_option maxRecDepth 100000 in
set_option maxHeartbeats 6400000 in
theorem head_c (w : World) : Calls Tryd.prog 7 #[] w fun e w' => e = .returned (.bool true) ∧ Below w.heap.size w w' := by
  go_enter Tryd.func7, Tryd.ntmps7
  go_wp2_with fail
  refine (os_new 16 (by decide) (by decide) _).mono ?_
  rintro e w1 ⟨g, rfl, ho, hb⟩
  have HO := Lib.hid ho
  have HB := Lib.hid hb
  clear ho hb
  go_wp2_with fail
  have hsg : ∀ f, f + 8 ≤ 16 → seg (Dr.new 16).V f 8 = List.replicate 8 (List.replicate 64 0) := fun f hf => by
    rw [show (Dr.new 16).V = List.replicate 16 (List.replicate 64 0) from rfl]; unfold seg; rw [List.drop_replicate, List.take_replicate, Nat.min_eq_left (by omega)]
  have hok : (Dr.new 16).Ok := Dr.new_ok 16 (by decide) (by decide)
  have KO := Lib.hid (open_w HO.out hok 8 Ld.zero Ld.zero rfl (by decide) (by decide) (by rw [hsg 0 (by decide)]; exact loaded_zero 8) (by rw [hsg 8 (by decide)]; exact loaded_zero 8))
  have HG0 : Hid (Gd 16 (Dr.new 16) (openW (Dr.new 16) 8 Ld.zero Ld.zero) (seg (Dr.new 16).V 0 8) (seg (Dr.new 16).V 8 8) []) := gd_open (n := 16) hok rfl rfl (by decide) (by decide) (by decide) (by rw [hsg 0 (by decide)]; exact loaded_zero 8) (by rw [hsg 8 (by decide)]; exact loaded_zero 8) Ps.nil
  have HM0 : Hid ((openW (Dr.new 16) 8 Ld.zero Ld.zero).age = 0 ∧ (openW (Dr.new 16) 8 Ld.zero Ld.zero).top = 0) := ⟨rfl, by
    show max (Sf.top (seg (Dr.new 16).V 0 8)) (Sf.top (seg (Dr.new 16).V 8 8)) = 0
    rw [hsg 0 (by decide), hsg 8 (by decide), top_zero]; rfl⟩
  clear hsg hok
  refine KO.out.mono ?_
  rintro e w2 ⟨hk, hr⟩
  rcases hr with ⟨LL, b, r0, r1, hps, rfl, ht⟩ | ⟨hno, _⟩
  · have h2 : Hid (Hs w w2 b r0 r1 g (Dr.new 16) (openW (Dr.new 16) 8 Ld.zero Ld.zero)) := ⟨ht.mono fun j hj => hj.elim (fun h => Nat.le_trans (Nat.le_refl _) h) fun h => Nat.le_trans HB.out.size h, HB.out.trans (hk.below (fun j hj => hj) HB.out.size)⟩
    clear hps ht hk KO LL
    obtain ⟨M1, x1, A1, B1, e1, g1, a1, m1, t1, s1, y1⟩ := hm1 HG0.out HM0.out.1 HM0.out.2
    have H1 : Hid (Gd 16 x1 M1 A1 B1 [l1] ∧ M1.age = 1 ∧ M1.room = 7 ∧ M1.top = 1 ∧ M1.L.S.e = 1 ∧ M1.many = 1) := ⟨g1, a1, m1, t1, s1, y1⟩
    have h2a : Hid (Hs w (w2.alloc (.cells #[.string ⟨#[97]⟩, .string ⟨#[98]⟩] TStr)) b r0 r1 g (Dr.new 16) (openW (Dr.new 16) 8 Ld.zero Ld.zero)) := h2.out.later ((Below.refl _ _).alloc (Nat.le_refl _) _)
    have KC : Hid (Calls Tryd.prog 10 #[.pointer (some ⟨b, 0, none⟩), .slice (some ⟨w2.heap.size, 0, none⟩) 2 2] (w2.alloc (.cells #[.string ⟨#[97]⟩, .string ⟨#[98]⟩] TStr)) fun e w' => e = .returned (.int .i64 0) ∧ Hs w w' b r0 r1 g x1 M1) := by
      have := commit_c h2a.out.t HG0.out.wf small1 2 (a := some ⟨w2.heap.size, 0, none⟩) (strs_two w2 ⟨#[97]⟩ ⟨#[98]⟩)
      rw [e1] at this
      exact this.mono fun e w' hr => ⟨hr.1, h2a.out.next hr.2⟩
    clear e1 g1 a1 m1 t1 s1 y1 HG0 HM0 h2 h2a
    go_wp2_with fail
    refine KC.out.mono ?_
    rintro e w3 ⟨rfl, h3⟩
    have H3 := Lib.hid h3
    have KT := Lib.hid (txns_gd h3.t H1.out.1)
    clear h3 KC
    go_wp2_with fail
    refine KT.out.mono ?_
    rintro e w4 ⟨vt, rfl, hls, hb⟩
    obtain ⟨vs, hvs⟩ := hls
    obtain ⟨at', ct, rfl⟩ := own_slice hvs.own
    have HT4 : Hid (LssB w3.heap.size w4.heap.size w4 (.slice at' ([l1] : List (List Rk.Sec)).length ct) [l1]) := (show Lss w3.heap.size w4 _ [l1] from ⟨vs, hvs⟩).bd
    have H4 := Lib.hid (H3.out.later hb)
    have HB34 := Lib.hid hb
    have KR := Lib.hid (room_gd H4.out.t H1.out.1)
    have HRM : Hid ((M1.room : Int) = 7) := by show _ = _; rw [H1.out.2.2.1]; rfl
    rw [HRM.out] at KR
    clear hvs hb KT
    go_wp2_with fail
    refine KR.out.mono ?_
    rintro e w' ⟨rfl, n4, rfl⟩
    have H4n : Hid (Trio (fun j => w.heap.size ≤ j ∧ j < w3.heap.size) (w4.drewN n4) b r0 r1 g x1 M1) := (H3.out.t.lt.later HB34.out).later (drewN_below (Below.refl _ _) n4)
    have HB4n : Hid (Below w.heap.size w (w4.drewN n4)) := drewN_below H4.out.b n4
    have HT4n := Lib.hid (HT4.out.later (drewN_below (Below.refl _ _) n4))
    have HS34 : Hid (w3.heap.size ≤ (w4.drewN n4).heap.size) := HB34.out.size
    have HS44 : Hid (w4.heap.size ≤ (w4.drewN n4).heap.size) := Nat.le_refl _
    generalize w4.drewN n4 = w4n at *
    obtain ⟨M2, x2, A2, B2, e2, g2, a2, m2, t2, s2, y2⟩ := hm2 H1.out.1 H1.out.2.1 H1.out.2.2.2.1 H1.out.2.2.2.2.1 H1.out.2.2.2.2.2
    have H2 : Hid (Gd 16 x2 M2 A2 B2 [l1, []] ∧ M2.age = 1 ∧ M2.room = 6 ∧ M2.top = 2 ∧ M2.L.S.first = 1 ∧ M2.L.S.e = 2) := ⟨g2, a2, m2, t2, s2, y2⟩
    have KC2 : Hid (Calls Tryd.prog 10 #[.pointer (some ⟨b, 0, none⟩), .slice none 0 0] w4n fun e w' => e = .returned (.int .i64 0) ∧ Then (fun j => w.heap.size ≤ j ∧ j < w3.heap.size) b r0 r1 g x2 M2 w4n w') := by
      have := commit_c H4n.out H1.out.1.wf small2 0 (a := none) (fun j h => absurd h (by simp [bas]))
      rw [e2] at this
      exact this
    clear e2 g2 a2 m2 t2 s2 y2 KR HRM
    go_wp2_with fail
    refine KC2.out.mono ?_
    rintro e w5 ⟨rfl, ht5⟩
    have H5 : Hid (Trio (fun j => w.heap.size ≤ j ∧ (j < w3.heap.size ∨ w4n.heap.size ≤ j)) w5 b r0 r1 g x2 M2) := ht5.1.mono fun j hj => hj.elim (fun h => ⟨h.1, .inl h.2⟩) fun h => ⟨Nat.le_trans HB4n.out.size h, .inr h⟩
    have HB5 : Hid (Below w.heap.size w w5) := HB4n.out.trans (ht5.2.below (fun j hj => hj.1) HB4n.out.size)
    have HT5 : Hid (LssB w3.heap.size w4.heap.size w5 (.slice at' ([l1] : List (List Rk.Sec)).length ct) [l1]) := HT4n.out.keeps ht5.2 fun j h1 _ h2 => Nat.lt_irrefl _ (Nat.lt_of_lt_of_le h2.2 h1)
    have HLT5 : Hid (∀ u, Below w4n.heap.size w4n u ∨ True → w4n.heap.size ≤ w5.heap.size) := fun _ _ => ht5.2.size
    clear ht5 KC2
    have KCP : Hid (Calls Tryd.prog 14 #[.pointer (some ⟨g, 0, none⟩)] w5 (CopyOs x2 w5)) := by
      obtain ⟨_, _, hv⟩ := H5.out
      exact os_copy hv.os H2.out.1.ok (by have := H2.out.1.P; omega)
    go_wp2_with fail
    refine KCP.out.mono ?_
    rintro e w6 ⟨g2, rfl, ho6, hb6⟩
    have HO6 := Lib.hid ho6
    have HB56 := Lib.hid hb6
    clear ho6 hb6 KCP
    have hA2 : Loaded (seg x2.V 0 8) M2.R0.S := by have := H2.out.1.a; have e := this.q; rw [H2.out.1.f0, H2.out.1.n0] at e; rw [show (8 : Nat) = 16 / 2 from rfl, ← e]; exact this.s
    have hB2 : Loaded (seg x2.V 8 8) M2.R1.S := by have := H2.out.1.b; have e := this.q; rw [H2.out.1.f1, H2.out.1.n1] at e; rw [show (8 : Nat) = 16 / 2 from rfl, ← e]; exact this.s
    have hP2 : Ps (lgS M2.R0.S M2.R1.S).T [l1, []] := by rw [← H2.out.1.lS]; exact H2.out.1.ps
    have HG3 : Hid (Gd 16 x2 (openW x2 8 M2.R0.S M2.R1.S) (seg x2.V 0 8) (seg x2.V 8 8) [l1, []]) := gd_open (n := 16) H2.out.1.ok H2.out.1.F H2.out.1.D (by decide) (by decide) H2.out.1.P hA2 hB2 hP2
    have HM3 : Hid (((openW x2 8 M2.R0.S M2.R1.S).age : Int) = 1 ∧ ((openW x2 8 M2.R0.S M2.R1.S).room : Int) = 6) := by
      have h1 := HG3.out.age
      have h2 := HG3.out.room
      have h3 := HG3.out.lS
      have h4 : lgS M2.R0.S M2.R1.S = M2.L.S := H2.out.1.lS.symm
      have h5 : (openW x2 8 M2.R0.S M2.R1.S).L.S = M2.L.S := h3.trans h4
      rw [h5, H2.out.2.2.2.2.1] at h1
      rw [h5, H2.out.2.2.2.2.2] at h2
      exact ⟨by rw [h1]; rfl, by rw [h2]; rfl⟩
    have KO3 : Hid (Calls Tryd.prog 5 #[.pointer (some ⟨g2, 0, none⟩)] w6 fun e w' => ∃ b2 q0 q1, e = .returned (.tuple #[.pointer (some ⟨b2, 0, none⟩), .int .i64 0]) ∧ Trio (fun j => w5.heap.size ≤ j) w' b2 q0 q1 g2 x2 (openW x2 8 M2.R0.S M2.R1.S) ∧ Below w5.heap.size w5 w') := by
      refine (open_w HO6.out H2.out.1.ok 8 M2.R0.S M2.R1.S (by rw [H2.out.1.D]) (by rw [H2.out.1.D]; decide) (by rw [H2.out.1.D]; decide) hA2 hB2).mono fun e w' hr => ?_
      obtain ⟨hk, hr⟩ := hr
      rcases hr with ⟨_, b2, q0, q1, _, rfl, ht⟩ | ⟨hno, _⟩
      · exact ⟨b2, q0, q1, rfl, ht.mono fun j hj => hj.elim id fun h => Nat.le_trans HB56.out.size h, HB56.out.trans (hk.below (fun j hj => hj) HB56.out.size)⟩
      · exact absurd hP2 (hno _)
    clear hA2 hB2 hP2
    go_wp2_with fail
    refine KO3.out.mono ?_
    rintro e w7 ⟨b2, q0, q1, rfl, ht7, hb7⟩
    have H7 := Lib.hid ht7
    have HB57 := Lib.hid hb7
    have KT7 := Lib.hid (txns_gd ht7 HG3.out)
    clear ht7 hb7 KO3 HO6 HB56
    go_wp2_with fail
    refine KT7.out.mono ?_
    rintro e w8 ⟨vt8, rfl, hls8, hb8⟩
    obtain ⟨vs8, hvs8⟩ := hls8
    obtain ⟨at8, ct8, rfl⟩ := own_slice hvs8.own
    have HT8 : Hid (Lss w7.heap.size w8 (.slice at8 2 ct8) [l1, []]) := ⟨vs8, hvs8⟩
    have HB58 : Hid (Below w5.heap.size w5 w8) := HB57.out.trans (hb8.mono HB57.out.size)
    have HB78 := Lib.hid hb8
    have H8 := Lib.hid (H7.out.later hb8)
    clear hvs8 hb8 KT7
    have HZ : Hid (∀ u : World, (u.alloc (.cells #[.string ⟨#[97]⟩, .string ⟨#[98]⟩] TStr)).heap.size = u.heap.size + 1) := fun u => by simp
    have KS8 : Hid (Calls Tryd.prog 12 #[.slice at8 2 ct8, .slice (some ⟨w8.heap.size + 1, 0, none⟩) 2 2] ((w8.alloc (.cells #[.string ⟨#[97]⟩, .string ⟨#[98]⟩] TStr)).alloc (.cells #[.slice (some ⟨w8.heap.size, 0, none⟩) 2 2, .slice none 0 0] TLs)) fun e w' => e = .returned (.bool true) ∧ Below w8.heap.size w8 w') := by
      have hx1 : Below w8.heap.size w8 ((w8.alloc (.cells #[.string ⟨#[97]⟩, .string ⟨#[98]⟩] TStr)).alloc (.cells #[.slice (some ⟨w8.heap.size, 0, none⟩) 2 2, .slice none 0 0] TLs)) := ((Below.refl _ _).alloc (Nat.le_refl _) _).alloc (by simp) _
      have hrw := Rw.new (w8.alloc (.cells #[.string ⟨#[97]⟩, .string ⟨#[98]⟩] TStr)) [.slice (some ⟨w8.heap.size, 0, none⟩) 2 2, .slice none 0 0] TLs
      rw [HZ.out] at hrw
      have hstr : Strs ((w8.alloc (.cells #[.string ⟨#[97]⟩, .string ⟨#[98]⟩] TStr)).alloc (.cells #[.slice (some ⟨w8.heap.size, 0, none⟩) 2 2, .slice none 0 0] TLs)) (some ⟨w8.heap.size, 0, none⟩) (bas l1) := (strs_two w8 ⟨#[97]⟩ ⟨#[98]⟩).later ((Below.refl _ _).alloc (Nat.le_refl _) _)
      have hl := lss_lit (base := w8.heap.size) (LL := [l1, []]) hrw (by omega) (by simp) rfl (fun i u l hu hl => by
        rcases i with _|_|i
        · cases hu; cases hl; exact ls_lit hstr
        · cases hu; cases hl; exact ls_nil _
        · simp at hu) (fun u hu j hj => by
        rcases List.mem_cons.1 hu with rfl | hu
        · cases hj; exact ⟨Nat.le_refl _, by simp; omega, Nat.ne_of_lt (Nat.lt_succ_self _)⟩
        · rcases List.mem_cons.1 hu with rfl | hu
          · cases hj
          · cases hu)
      have := same06_c [l1, []] [l1, []] _ _ _ _ _ (HT8.out.later hx1) hl (by decide) (by decide) (by decide) (by decide)
      rw [decide_eq_true rfl] at this
      exact this.mono fun e w' hr => ⟨hr.1, hx1.trans (hr.2.mono hx1.size)⟩
    go_wp2_with fail
    refine KS8.out.mono ?_
    rintro e w9 ⟨rfl, hb9⟩
    have HB59 : Hid (Below w5.heap.size w5 w9) := HB58.out.trans (hb9.mono HB58.out.size)
    have H9 := Lib.hid (H8.out.later hb9)
    have KR9 := Lib.hid (room_gd H9.out HG3.out)
    rw [HM3.out.2] at KR9
    clear hb9 KS8 HT8
    go_wp2_with fail
    refine KR9.out.mono ?_
    rintro e w' ⟨rfl, n9, rfl⟩
    have H10 := Lib.hid (H9.out.later (drewN_below (Below.refl _ w9) n9))
    have KA10 := Lib.hid (age_gd H10.out HG3.out)
    rw [HM3.out.1] at KA10
    clear KR9
    go_wp2_with fail
    refine KA10.out.mono ?_
    rintro e w' ⟨rfl, n10, rfl⟩
    have HB511 : Hid (Below w5.heap.size w5 ((w9.drewN n9).drewN n10)) := drewN_below (drewN_below HB59.out n9) n10
    have H11 : Hid (Trio (fun j => (w.heap.size ≤ j ∧ (j < w3.heap.size ∨ w4n.heap.size ≤ j))) ((w9.drewN n9).drewN n10) b r0 r1 g x2 M2) := H5.out.later HB511.out
    have HT11 := Lib.hid (HT5.out.later HB511.out)
    have HB11 : Hid (Below w.heap.size w ((w9.drewN n9).drewN n10)) := HB5.out.trans (HB511.out.mono HB5.out.size)
    clear KA10 H7 H8 H9 H10
    generalize (w9.drewN n9).drewN n10 = w11 at *
    go_wp2_with fail
    obtain ⟨M4, x4, A4, B4, e4, g4, a4, m4⟩ := hm3 H2.out.1 H2.out.2.2.2.1
    have H4g : Hid (Gd 16 x4 M4 A4 B4 [l3] ∧ (M4.age : Int) = 3 ∧ (M4.room : Int) = 7) := ⟨g4, by rw [a4]; rfl, by rw [m4]; rfl⟩
    have H12 : Hid (Trio (fun j => (w.heap.size ≤ j ∧ (j < w3.heap.size ∨ w4n.heap.size ≤ j))) (w11.alloc (.cells #[.string ⟨#[99]⟩] TStr)) b r0 r1 g x2 M2) := H11.out.later ((Below.refl _ _).alloc (Nat.le_refl _) _)
    have HB12 : Hid (Below w.heap.size w (w11.alloc (.cells #[.string ⟨#[99]⟩] TStr))) := below_alloc HB11.out _
    have HT12 : Hid (LssB w3.heap.size w4.heap.size (w11.alloc (.cells #[.string ⟨#[99]⟩] TStr)) (.slice at' ([l1] : List (List Rk.Sec)).length ct) [l1]) := HT11.out.later ((Below.refl _ _).alloc (Nat.le_refl _) _)
    have KSV : Hid (Calls Tryd.prog 11 #[.pointer (some ⟨b, 0, none⟩), .slice (some ⟨w11.heap.size, 0, none⟩) 1 1] (w11.alloc (.cells #[.string ⟨#[99]⟩] TStr)) fun e w' => e = .returned (.int .i64 0) ∧ Then (fun j => (w.heap.size ≤ j ∧ (j < w3.heap.size ∨ w4n.heap.size ≤ j))) b r0 r1 g x4 M4 (w11.alloc (.cells #[.string ⟨#[99]⟩] TStr)) w') := by
      have := save_c H12.out H2.out.1.wf small3 1 (a := some ⟨w11.heap.size, 0, none⟩) (strs_one w11 ⟨#[99]⟩)
      rw [e4] at this
      exact this
    clear e4 g4 a4 m4 H11 HT11 HB11 HB511
    go_wp2_with fail
    refine KSV.out.mono ?_
    rintro e w13 ⟨rfl, ht13⟩
    have H13 : Hid (Trio (fun j => w.heap.size ≤ j) w13 b r0 r1 g x4 M4) := ht13.1.mono fun j hj => hj.elim (fun h => h.1) fun h => Nat.le_trans HB12.out.size h
    have HB13 : Hid (Below w.heap.size w w13) := HB12.out.trans (ht13.2.below (fun j hj => hj.1) HB12.out.size)
    have HT13 : Hid (Lss w3.heap.size w13 (.slice at' 1 ct) [l1]) := (HT12.out.keeps ht13.2 fun j h1 h2 h3 => by have := HS44.out; rcases h3.2 with h | h <;> omega).lss
    clear ht13 KSV
    go_wp2_with fail
    refine (open_nil06 _).mono ?_
    rintro e w14 ⟨rfl, hb14⟩
    have H14 := Lib.hid (H13.out.later hb14)
    have HB14 : Hid (Below w.heap.size w w14) := HB13.out.trans (hb14.mono HB13.out.size)
    have HT14 := Lib.hid (HT13.out.later hb14)
    clear hb14
    have KS14 : Hid (Calls Tryd.prog 12 #[.slice at' 1 ct, .slice (some ⟨w14.heap.size + 1, 0, none⟩) 1 1] ((w14.alloc (.cells #[.string ⟨#[97]⟩, .string ⟨#[98]⟩] TStr)).alloc (.cells #[.slice (some ⟨w14.heap.size, 0, none⟩) 2 2] TLs)) fun e w' => e = .returned (.bool true) ∧ Below w14.heap.size w14 w') := by
      have hx1 : Below w14.heap.size w14 ((w14.alloc (.cells #[.string ⟨#[97]⟩, .string ⟨#[98]⟩] TStr)).alloc (.cells #[.slice (some ⟨w14.heap.size, 0, none⟩) 2 2] TLs)) := ((Below.refl _ _).alloc (Nat.le_refl _) _).alloc (by simp) _
      have hrw := Rw.new (w14.alloc (.cells #[.string ⟨#[97]⟩, .string ⟨#[98]⟩] TStr)) [.slice (some ⟨w14.heap.size, 0, none⟩) 2 2] TLs
      rw [HZ.out] at hrw
      have hstr : Strs ((w14.alloc (.cells #[.string ⟨#[97]⟩, .string ⟨#[98]⟩] TStr)).alloc (.cells #[.slice (some ⟨w14.heap.size, 0, none⟩) 2 2] TLs)) (some ⟨w14.heap.size, 0, none⟩) (bas l1) := (strs_two w14 ⟨#[97]⟩ ⟨#[98]⟩).later ((Below.refl _ _).alloc (Nat.le_refl _) _)
      have hl := lss_lit (base := w14.heap.size) (LL := [l1]) hrw (by omega) (by simp) rfl (fun i u l hu hl => by
        rcases i with _|i
        · cases hu; cases hl; exact ls_lit hstr
        · simp at hu) (fun u hu j hj => by
        rcases List.mem_cons.1 hu with rfl | hu
        · cases hj; exact ⟨Nat.le_refl _, by simp; omega, Nat.ne_of_lt (Nat.lt_succ_self _)⟩
        · cases hu)
      have := same06_c [l1] [l1] _ _ _ _ _ (HT14.out.later hx1) hl (by decide) (by decide) (by decide) (by decide)
      rw [decide_eq_true rfl] at this
      exact this.mono fun e w' hr => ⟨hr.1, hx1.trans (hr.2.mono hx1.size)⟩
    go_wp2_with fail
    refine KS14.out.mono ?_
    rintro e w15 ⟨rfl, hb15⟩
    have H15 := Lib.hid (H14.out.later hb15)
    have HB15 : Hid (Below w.heap.size w w15) := HB14.out.trans (hb15.mono HB14.out.size)
    have KT15 := Lib.hid (txns_gd H15.out H4g.out.1)
    clear hb15 KS14 HT14 HT13 H14 H13
    go_wp2_with fail
    refine KT15.out.mono ?_
    rintro e w16 ⟨vt16, rfl, hls16, hb16⟩
    obtain ⟨vs16, hvs16⟩ := hls16
    obtain ⟨at16, ct16, rfl⟩ := own_slice hvs16.own
    have HT16 : Hid (Lss w15.heap.size w16 (.slice at16 1 ct16) [l3]) := ⟨vs16, hvs16⟩
    have H16 := Lib.hid (H15.out.later hb16)
    have HB16 : Hid (Below w.heap.size w w16) := HB15.out.trans (hb16.mono HB15.out.size)
    clear hvs16 hb16 KT15
    have HZ1 : Hid (∀ u : World, (u.alloc (.cells #[.string ⟨#[99]⟩] TStr)).heap.size = u.heap.size + 1) := fun u => by simp
    have KS16 : Hid (Calls Tryd.prog 12 #[.slice at16 1 ct16, .slice (some ⟨w16.heap.size + 1, 0, none⟩) 1 1] ((w16.alloc (.cells #[.string ⟨#[99]⟩] TStr)).alloc (.cells #[.slice (some ⟨w16.heap.size, 0, none⟩) 1 1] TLs)) fun e w' => e = .returned (.bool true) ∧ Below w16.heap.size w16 w') := by
      have hx1 : Below w16.heap.size w16 ((w16.alloc (.cells #[.string ⟨#[99]⟩] TStr)).alloc (.cells #[.slice (some ⟨w16.heap.size, 0, none⟩) 1 1] TLs)) := ((Below.refl _ _).alloc (Nat.le_refl _) _).alloc (by simp) _
      have hrw := Rw.new (w16.alloc (.cells #[.string ⟨#[99]⟩] TStr)) [.slice (some ⟨w16.heap.size, 0, none⟩) 1 1] TLs
      rw [HZ1.out] at hrw
      have hstr : Strs ((w16.alloc (.cells #[.string ⟨#[99]⟩] TStr)).alloc (.cells #[.slice (some ⟨w16.heap.size, 0, none⟩) 1 1] TLs)) (some ⟨w16.heap.size, 0, none⟩) (bas l3) := (strs_one w16 ⟨#[99]⟩).later ((Below.refl _ _).alloc (Nat.le_refl _) _)
      have hl := lss_lit (base := w16.heap.size) (LL := [l3]) hrw (by omega) (by simp) rfl (fun i u l hu hl => by
        rcases i with _|i
        · cases hu; cases hl; exact ls_lit hstr
        · simp at hu) (fun u hu j hj => by
        rcases List.mem_cons.1 hu with rfl | hu
        · cases hj; exact ⟨Nat.le_refl _, by simp; omega, Nat.ne_of_lt (Nat.lt_succ_self _)⟩
        · cases hu)
      have := same06_c [l3] [l3] _ _ _ _ _ (HT16.out.later hx1) hl (by decide) (by decide) (by decide) (by decide)
      rw [decide_eq_true rfl] at this
      exact this.mono fun e w' hr => ⟨hr.1, hx1.trans (hr.2.mono hx1.size)⟩
    go_wp2_with fail
    refine KS16.out.mono ?_
    rintro e w17 ⟨rfl, hb17⟩
    have H17 := Lib.hid (H16.out.later hb17)
    have HB17 : Hid (Below w.heap.size w w17) := HB16.out.trans (hb17.mono HB16.out.size)
    have KA17 := Lib.hid (age_gd H17.out H4g.out.1)
    rw [H4g.out.2.1] at KA17
    clear hb17 KS16 HT16
    go_wp2_with fail
    refine KA17.out.mono ?_
    rintro e w' ⟨rfl, n17, rfl⟩
    have H18 := Lib.hid (H17.out.later (drewN_below (Below.refl _ w17) n17))
    have KR18 := Lib.hid (room_gd H18.out H4g.out.1)
    rw [H4g.out.2.2] at KR18
    clear KA17
    go_wp2_with fail
    refine KR18.out.mono ?_
    rintro e w' ⟨rfl, n18, rfl⟩
    have HB19 : Hid (Below w.heap.size w (w17.drewN (n17 + n18))) := drewN_below HB17.out _
    go_wp2_with fail
    go_ret
    exact ⟨rfl, HB19.out⟩
  · exact absurd Ps.nil (hno [])
end Go.Proofs.YtjlncjabiofklaaDoor.Wl
