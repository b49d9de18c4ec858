/- Package subs: the law of sums. -/
import Derived.Test.YtjchecjonkmhgaaDoorSuHd2
import Derived.Test.YtjchecjonkmhgaaDoorSuLaw1
import Derived.Test.YtjchecjonkmhgaaDoorSkA
import Derived.Deep.DeepCutAuto
import Derived.Deep.RegionHeld3
namespace Go.Proofs.YtjchecjonkmhgaaDoor.Su
open Go.RowKit Pr Cw An Rf
set_option maxRecDepth 100000 in
set_option maxHeartbeats 4000000 in
theorem net_no (s : Sb) (a : Option Addr) (n cap : Nat) (en' : Bool) (w : World) (hw : Tab w) (hp : ∀ w, Tab w → Calls Tryd.prog 9 #[s.fresh.val, .int .i64 3652059, .int .i64 1] w (DueNo w)) : Calls Tryd.prog 7 #[s.val, .slice a n cap, .bool en'] w fun e w' => e = .returned (.bool true) ∧ Below w.heap.size w w' := by
  have KP := Lib.hid hp
  have HT := Lib.hid hw
  clear hp hw
  go_enter Tryd.func7, Tryd.ntmps7
  unfold Sb.val Sb.cells
  go_upto_region 3 with (fail)
  go_cut [36] (fun _ wx => Blk wx w.heap.size s.fresh.cells 26 ∧ Below w.heap.size w wx)
  case first =>
    have hcl : (s.b < 0 ∧ cl s.b = 0) ∨ (¬ s.b < 0 ∧ 1000 < s.b ∧ cl s.b = 1000) ∨ (¬ s.b < 0 ∧ ¬ 1000 < s.b ∧ cl s.b = s.b) := by unfold cl; split <;> (try split) <;> omega
    have e := Lib.hid (show s.fresh.cells = #[.int .u64 s.id, .int .u64 s.cu, .int .u64 s.pl, .int .i64 s.c.s, .int .i64 s.c.a, .int .i64 s.c.e, .int .i64 s.p, .int .i64 (cl s.b), .int .i64 0, .int .i64 0] from rfl)
    rcases hcl with ⟨h1, h2⟩ | ⟨h1, h2, h3⟩ | ⟨h1, h2, h3⟩
    · have e1 : max s.b 0 = 0 := by omega
      have e2 : min (0 : Int) 1000 = 0 := by omega
      have k1 := Int.le_of_lt h1
      have k2 := Int.not_le.2 h1
      rw [h2] at e
      clear h2
      go_wp2_with fail
      go_meet
      rw [e.out]
      exact ⟨Blk.new w _ _, below_alloc (Below.refl _ w) _⟩
    · have e1 : max s.b 0 = s.b := by omega
      have e2 : min s.b 1000 = 1000 := by omega
      have k1 := Int.not_lt.1 h1
      have k2 := Int.le_of_lt h2
      have k3 := Int.not_le.2 h2
      have k4 := Int.not_lt.2 k2
      rw [h3] at e
      clear h3
      go_wp2_with fail
      go_meet
      rw [e.out]
      exact ⟨Blk.new w _ _, below_alloc (Below.refl _ w) _⟩
    · have e1 : max s.b 0 = s.b := by omega
      have e2 : min s.b 1000 = s.b := by omega
      have k1 := Int.not_lt.1 h1
      have k2 := Int.not_lt.1 h2
      rw [h3] at e
      clear h3
      go_wp2_with fail
      go_meet
      rw [e.out]
      exact ⟨Blk.new w _ _, below_alloc (Below.refl _ w) _⟩
  have hF := Lib.hid hcut.1
  have D1 := Lib.hid hcut.2
  clear hcut
  generalize wc = w0 at *
  generalize s.fresh = q at *
  unfold Sb.cells at hF
  have a0 : w0.cell? ⟨w.heap.size, 0, Option.none⟩ = some (.int .u64 q.id) := hF.out.cell 0
  have a1 : w0.cell? ⟨w.heap.size, 1, Option.none⟩ = some (.int .u64 q.cu) := hF.out.cell 1
  have a2 : w0.cell? ⟨w.heap.size, 2, Option.none⟩ = some (.int .u64 q.pl) := hF.out.cell 2
  have a3 : w0.cell? ⟨w.heap.size, 3, Option.none⟩ = some (.int .i64 q.c.s) := hF.out.cell 3
  have a4 : w0.cell? ⟨w.heap.size, 4, Option.none⟩ = some (.int .i64 q.c.a) := hF.out.cell 4
  have a5 : w0.cell? ⟨w.heap.size, 5, Option.none⟩ = some (.int .i64 q.c.e) := hF.out.cell 5
  have a6 : w0.cell? ⟨w.heap.size, 6, Option.none⟩ = some (.int .i64 q.p) := hF.out.cell 6
  have a7 : w0.cell? ⟨w.heap.size, 7, Option.none⟩ = some (.int .i64 q.b) := hF.out.cell 7
  have a8 : w0.cell? ⟨w.heap.size, 8, Option.none⟩ = some (.int .i64 q.s) := hF.out.cell 8
  have a9 : w0.cell? ⟨w.heap.size, 9, Option.none⟩ = some (.int .i64 q.e) := hF.out.cell 9
  go_wp2_with fail
  refine (KP.out _ (tab_later HT.out D1.out)).mono ?_
  rintro e w1 ⟨rfl, b1⟩
  have D2 := Lib.hid (D1.out.trans (b1.mono D1.out.size))
  clear b1
  go_upto_region 5 with (fail)
  generalize hW2 : World.alloc w1 _ = W2
  have D3 := Lib.hid (D2.out.trans ((show Below w1.heap.size w1 W2 by rw [← hW2]; exact below_alloc (Below.refl _ w1) _).mono D2.out.size))
  clear hW2 a0 a1 a2 a3 a4 a5 a6 a7 a8 a9
  go_wp2_with fail
  refine (head_c _ (tab_later HT.out D3.out)).mono ?_
  rintro e w5 ⟨rfl, b5⟩
  go_wp2_with fail
  go_ret
  exact ⟨rfl, D3.out.trans (b5.mono D3.out.size)⟩
set_option maxRecDepth 100000 in
set_option maxHeartbeats 4000000 in
theorem net_zero (s : Sb) (a : Option Addr) (n cap : Nat) (en' : Bool) (w : World) (hw : Tab w) (hp : ∀ w, Tab w → Calls Tryd.prog 9 #[s.fresh.val, .int .i64 3652059, .int .i64 1] w (DueOut (s.fresh.after 0) [] 0 w)) : Calls Tryd.prog 7 #[s.val, .slice a n cap, .bool en'] w fun e w' => e = .returned (.bool true) ∧ Below w.heap.size w w' := by
  have KP := Lib.hid hp
  have HT := Lib.hid hw
  clear hp hw
  go_enter Tryd.func7, Tryd.ntmps7
  unfold Sb.val Sb.cells
  go_upto_region 3 with (fail)
  go_cut [36] (fun _ wx => Blk wx w.heap.size s.fresh.cells 26 ∧ Below w.heap.size w wx)
  case first =>
    have hcl : (s.b < 0 ∧ cl s.b = 0) ∨ (¬ s.b < 0 ∧ 1000 < s.b ∧ cl s.b = 1000) ∨ (¬ s.b < 0 ∧ ¬ 1000 < s.b ∧ cl s.b = s.b) := by unfold cl; split <;> (try split) <;> omega
    have e := Lib.hid (show s.fresh.cells = #[.int .u64 s.id, .int .u64 s.cu, .int .u64 s.pl, .int .i64 s.c.s, .int .i64 s.c.a, .int .i64 s.c.e, .int .i64 s.p, .int .i64 (cl s.b), .int .i64 0, .int .i64 0] from rfl)
    rcases hcl with ⟨h1, h2⟩ | ⟨h1, h2, h3⟩ | ⟨h1, h2, h3⟩
    · have e1 : max s.b 0 = 0 := by omega
      have e2 : min (0 : Int) 1000 = 0 := by omega
      have k1 := Int.le_of_lt h1
      have k2 := Int.not_le.2 h1
      rw [h2] at e
      clear h2
      go_wp2_with fail
      go_meet
      rw [e.out]
      exact ⟨Blk.new w _ _, below_alloc (Below.refl _ w) _⟩
    · have e1 : max s.b 0 = s.b := by omega
      have e2 : min s.b 1000 = 1000 := by omega
      have k1 := Int.not_lt.1 h1
      have k2 := Int.le_of_lt h2
      have k3 := Int.not_le.2 h2
      have k4 := Int.not_lt.2 k2
      rw [h3] at e
      clear h3
      go_wp2_with fail
      go_meet
      rw [e.out]
      exact ⟨Blk.new w _ _, below_alloc (Below.refl _ w) _⟩
    · have e1 : max s.b 0 = s.b := by omega
      have e2 : min s.b 1000 = s.b := by omega
      have k1 := Int.not_lt.1 h1
      have k2 := Int.not_lt.1 h2
      rw [h3] at e
      clear h3
      go_wp2_with fail
      go_meet
      rw [e.out]
      exact ⟨Blk.new w _ _, below_alloc (Below.refl _ w) _⟩
  have hF := Lib.hid hcut.1
  have D1 := Lib.hid hcut.2
  clear hcut
  generalize wc = w0 at *
  generalize s.fresh = q at *
  unfold Sb.cells at hF
  have a0 : w0.cell? ⟨w.heap.size, 0, Option.none⟩ = some (.int .u64 q.id) := hF.out.cell 0
  have a1 : w0.cell? ⟨w.heap.size, 1, Option.none⟩ = some (.int .u64 q.cu) := hF.out.cell 1
  have a2 : w0.cell? ⟨w.heap.size, 2, Option.none⟩ = some (.int .u64 q.pl) := hF.out.cell 2
  have a3 : w0.cell? ⟨w.heap.size, 3, Option.none⟩ = some (.int .i64 q.c.s) := hF.out.cell 3
  have a4 : w0.cell? ⟨w.heap.size, 4, Option.none⟩ = some (.int .i64 q.c.a) := hF.out.cell 4
  have a5 : w0.cell? ⟨w.heap.size, 5, Option.none⟩ = some (.int .i64 q.c.e) := hF.out.cell 5
  have a6 : w0.cell? ⟨w.heap.size, 6, Option.none⟩ = some (.int .i64 q.p) := hF.out.cell 6
  have a7 : w0.cell? ⟨w.heap.size, 7, Option.none⟩ = some (.int .i64 q.b) := hF.out.cell 7
  have a8 : w0.cell? ⟨w.heap.size, 8, Option.none⟩ = some (.int .i64 q.s) := hF.out.cell 8
  have a9 : w0.cell? ⟨w.heap.size, 9, Option.none⟩ = some (.int .i64 q.e) := hF.out.cell 9
  go_wp2_with fail
  refine (KP.out _ (tab_later HT.out D1.out)).mono ?_
  rintro e w1 ⟨ad, cap1, rfl, _, b1⟩
  have D2 := Lib.hid (D1.out.trans (b1.mono D1.out.size))
  clear b1
  go_upto_region 5 with (fail)
  generalize hW2 : World.alloc w1 _ = W2
  have D3 := Lib.hid (D2.out.trans ((show Below w1.heap.size w1 W2 by rw [← hW2]; exact below_alloc (Below.refl _ w1) _).mono D2.out.size))
  clear hW2 a0 a1 a2 a3 a4 a5 a6 a7 a8 a9
  go_wp2_with fail
  refine (head_c _ (tab_later HT.out D3.out)).mono ?_
  rintro e w5 ⟨rfl, b5⟩
  go_wp2_with fail
  go_ret
  exact ⟨rfl, D3.out.trans (b5.mono D3.out.size)⟩
set_option maxRecDepth 100000 in
set_option maxHeartbeats 16000000 in
theorem net_yes (s : Sb) (a : Option Addr) (cap : Nat) (L : List Tu) (en' : Bool) (m : Int) (w : World) (hw : Tab w) (hL : Tus w a L) (hl : L.length ≤ maxLen) (hf : ∀ x ∈ L, x.Fits) (hin : In m s.fresh.c.s) (hok : s.fresh.c.Ok) (b0 : 0 ≤ s.fresh.b)
    (hnet : Net s.fresh.c m s.fresh.b.toNat (s.fresh.after 1) (bnd s.fresh.c m s.fresh.b.toNat) [amt s.fresh.c m s.fresh.b.toNat s.fresh.p (bnd s.fresh.c m s.fresh.b.toNat) (bnd s.fresh.c m (s.fresh.b.toNat + 1))] [] 0)
    (hp : ∀ w, Tab w → Calls Tryd.prog 9 #[s.fresh.val, .int .i64 3652059, .int .i64 1] w (DueOut (s.fresh.after 1) [⟨s.fresh.b, bnd s.fresh.c m s.fresh.b.toNat, bnd s.fresh.c m (s.fresh.b.toNat + 1), amt s.fresh.c m s.fresh.b.toNat s.fresh.p (bnd s.fresh.c m s.fresh.b.toNat) (bnd s.fresh.c m (s.fresh.b.toNat + 1))⟩] 0 w)) : Calls Tryd.prog 7 #[s.val, .slice a L.length cap, .bool en'] w fun e w' => e = .returned (.bool true) ∧ Below w.heap.size w w' := by
  unfold maxLen at hl
  have HT := Lib.hid hw
  have HL := Lib.hid hL
  have HF := Lib.hid hf
  have HIN := Lib.hid hin
  have HOK := Lib.hid hok
  have HN0 := Lib.hid hnet
  have KP0 := Lib.hid hp
  have HB0 := Lib.hid b0
  clear hw hL hf hin hok hnet hp b0
  go_enter Tryd.func7, Tryd.ntmps7
  unfold Sb.val Sb.cells
  go_upto_region 3 with (fail)
  go_cut [36] (fun _ wx => Blk wx w.heap.size s.fresh.cells 26 ∧ Below w.heap.size w wx)
  case first =>
    have hcl : (s.b < 0 ∧ cl s.b = 0) ∨ (¬ s.b < 0 ∧ 1000 < s.b ∧ cl s.b = 1000) ∨ (¬ s.b < 0 ∧ ¬ 1000 < s.b ∧ cl s.b = s.b) := by unfold cl; split <;> (try split) <;> omega
    have e := Lib.hid (show s.fresh.cells = #[.int .u64 s.id, .int .u64 s.cu, .int .u64 s.pl, .int .i64 s.c.s, .int .i64 s.c.a, .int .i64 s.c.e, .int .i64 s.p, .int .i64 (cl s.b), .int .i64 0, .int .i64 0] from rfl)
    rcases hcl with ⟨h1, h2⟩ | ⟨h1, h2, h3⟩ | ⟨h1, h2, h3⟩
    · have e1 : max s.b 0 = 0 := by omega
      have e2 : min (0 : Int) 1000 = 0 := by omega
      have k1 := Int.le_of_lt h1
      have k2 := Int.not_le.2 h1
      rw [h2] at e
      clear h2
      go_wp2_with fail
      go_meet
      rw [e.out]
      exact ⟨Blk.new w _ _, below_alloc (Below.refl _ w) _⟩
    · have e1 : max s.b 0 = s.b := by omega
      have e2 : min s.b 1000 = 1000 := by omega
      have k1 := Int.not_lt.1 h1
      have k2 := Int.le_of_lt h2
      have k3 := Int.not_le.2 h2
      have k4 := Int.not_lt.2 k2
      rw [h3] at e
      clear h3
      go_wp2_with fail
      go_meet
      rw [e.out]
      exact ⟨Blk.new w _ _, below_alloc (Below.refl _ w) _⟩
    · have e1 : max s.b 0 = s.b := by omega
      have e2 : min s.b 1000 = s.b := by omega
      have k1 := Int.not_lt.1 h1
      have k2 := Int.not_lt.1 h2
      rw [h3] at e
      clear h3
      go_wp2_with fail
      go_meet
      rw [e.out]
      exact ⟨Blk.new w _ _, below_alloc (Below.refl _ w) _⟩
  have hF := Lib.hid hcut.1
  have D1 := Lib.hid hcut.2
  clear hcut
  generalize wc = w0 at *
  generalize s.fresh = q at *
  unfold Sb.cells at hF
  obtain ⟨k, hk⟩ : ∃ k, q.b.toNat = k := ⟨_, rfl⟩
  rw [hk] at HN0 KP0
  obtain ⟨N0, hN0⟩ : ∃ N, q.after 1 = N := ⟨_, rfl⟩
  rw [hN0] at HN0 KP0
  have KP := Lib.hid (show ∀ u, Tab u → Calls Tryd.prog 9 #[.agg #[.int .u64 q.id, .int .u64 q.cu, .int .u64 q.pl, .int .i64 q.c.s, .int .i64 q.c.a, .int .i64 q.c.e, .int .i64 q.p, .int .i64 q.b, .int .i64 q.s, .int .i64 q.e], .int .i64 3652059, .int .i64 1] u (fun e u' => ∃ ad cap, e = .returned (.tuple #[.slice ad 1 cap, .agg #[.int .u64 N0.id, .int .u64 N0.cu, .int .u64 N0.pl, .int .i64 N0.c.s, .int .i64 N0.c.a, .int .i64 N0.c.e, .int .i64 N0.p, .int .i64 N0.b, .int .i64 N0.s, .int .i64 N0.e], .int .i64 0]) ∧ Rb u' ad [⟨q.b, bnd q.c m k, bnd q.c m (k + 1), amt q.c m k q.p (bnd q.c m k) (bnd q.c m (k + 1))⟩] ∧ Below u.heap.size u u') from KP0.out)
  obtain ⟨nx, hnx⟩ : ∃ n, bnd q.c m (k + 1) = n := ⟨_, rfl⟩
  have HNX := Lib.hid hnx
  have KF := Lib.hid (show ∀ u, Calls Tryd.prog 21 #[.agg #[.int .i64 q.c.s, .int .i64 q.c.a, .int .i64 q.c.e], .int .i64 N0.b] u (fun e u' => e = .returned (.tuple #[.int .i64 nx, .int .i64 0]) ∧ Below u.heap.size u u') from fun u => hnx ▸ rbnd_yes q.c m N0.b (k + 1) HN0.out.b u HOK.out HIN.out HN0.out.has)
  clear hN0 hk KP0 HB0 hnx
  have a0 : w0.cell? ⟨w.heap.size, 0, Option.none⟩ = some (.int .u64 q.id) := hF.out.cell 0
  have a1 : w0.cell? ⟨w.heap.size, 1, Option.none⟩ = some (.int .u64 q.cu) := hF.out.cell 1
  have a2 : w0.cell? ⟨w.heap.size, 2, Option.none⟩ = some (.int .u64 q.pl) := hF.out.cell 2
  have a3 : w0.cell? ⟨w.heap.size, 3, Option.none⟩ = some (.int .i64 q.c.s) := hF.out.cell 3
  have a4 : w0.cell? ⟨w.heap.size, 4, Option.none⟩ = some (.int .i64 q.c.a) := hF.out.cell 4
  have a5 : w0.cell? ⟨w.heap.size, 5, Option.none⟩ = some (.int .i64 q.c.e) := hF.out.cell 5
  have a6 : w0.cell? ⟨w.heap.size, 6, Option.none⟩ = some (.int .i64 q.p) := hF.out.cell 6
  have a7 : w0.cell? ⟨w.heap.size, 7, Option.none⟩ = some (.int .i64 q.b) := hF.out.cell 7
  have a8 : w0.cell? ⟨w.heap.size, 8, Option.none⟩ = some (.int .i64 q.s) := hF.out.cell 8
  have a9 : w0.cell? ⟨w.heap.size, 9, Option.none⟩ = some (.int .i64 q.e) := hF.out.cell 9
  go_wp2_with fail
  refine (KP.out _ (tab_later HT.out D1.out)).mono ?_
  rintro e w1 ⟨ad, cap1, rfl, r1, b1⟩
  have D2 := Lib.hid (D1.out.trans (b1.mono D1.out.size))
  have Q2 := Lib.hid (Blk.later hF.out b1)
  have R2 := Lib.hid r1
  clear b1 r1 D1 a0 a1 a2 a3 a4 a5 a6 a7 a8 a9
  go_upto_region 5 with (fail)
  generalize hW2 : World.alloc w1 _ = W2
  have b2 : Below w1.heap.size w1 W2 := by rw [← hW2]; exact below_alloc (Below.refl _ w1) _
  have P2 := Lib.hid (show Blk W2 w1.heap.size #[.int .u64 N0.id, .int .u64 N0.cu, .int .u64 N0.pl, .int .i64 N0.c.s, .int .i64 N0.c.a, .int .i64 N0.c.e, .int .i64 N0.p, .int .i64 N0.b, .int .i64 N0.s, .int .i64 N0.e] 26 by rw [← hW2]; exact Blk.new w1 _ _)
  have D3 := Lib.hid (D2.out.trans (b2.mono D2.out.size))
  have Q3 := Lib.hid (Q2.out.later b2)
  have R3 := Lib.hid (R2.out.later b2)
  obtain ⟨G1, hG1⟩ : ∃ G, w1.heap.size = G := ⟨_, rfl⟩
  have M3 := Lib.hid (hG1 ▸ P2.out)
  have HG0 := Lib.hid (show w.heap.size ≤ G1 from hG1 ▸ D2.out.size)
  rw [hG1]
  clear hW2 b2 hG1 P2 D2 Q2 R2 hF
  have a3 : W2.cell? ⟨w.heap.size, 3, Option.none⟩ = some (.int .i64 q.c.s) := Q3.out.cell 3
  have a4 : W2.cell? ⟨w.heap.size, 4, Option.none⟩ = some (.int .i64 q.c.a) := Q3.out.cell 4
  have a5 : W2.cell? ⟨w.heap.size, 5, Option.none⟩ = some (.int .i64 q.c.e) := Q3.out.cell 5
  have b7 : W2.cell? ⟨G1, 7, Option.none⟩ = some (.int .i64 N0.b) := M3.out.cell 7
  go_wp2_with fail
  refine (KF.out _).mono ?_
  rintro e w3 ⟨rfl, b3⟩
  have D4 := Lib.hid (D3.out.trans (b3.mono D3.out.size))
  have M4 := Lib.hid (M3.out.later b3)
  obtain ⟨g, rfl, hg, c0, c1, c2, c3⟩ := (R3.out.later b3) 0 (by simp)
  simp only [List.getElem_cons_zero, Nat.zero_mul, Nat.zero_add] at c0 c1 c2 c3
  obtain ⟨am, ham⟩ : ∃ x, amt q.c m k q.p (bnd q.c m k) (bnd q.c m (k + 1)) = x := ⟨_, rfl⟩
  rw [ham] at c3 HN0
  have hG1lt := M4.out.lt
  clear b3 D3 Q3 R3 M3 KP KF a3 a4 a5 b7 c0 c2 ham
  go_wp2_with fail
  have hA : Below w3.heap.size w3 (w3.alloc (.cells #[.int .i64 am] 2)) := (Below.refl _ _).alloc (Nat.le_refl _) _
  have og : (w3.alloc (.cells #[.int .i64 am] 2)).ownsRow w3.heap.size 2 1 (.slice (some ⟨w3.heap.size, 0, none⟩) 1 1) 1 [.int .i64 am] := own_lit w3 _ _
  generalize hW5 : World.alloc w3 _ = W5 at *
  have OG5 := Lib.hid og
  have D5 := Lib.hid (D4.out.trans (hA.mono D4.out.size))
  have M5 := Lib.hid (M4.out.later hA)
  have hsz := hA.size
  have HBW := Lib.hid D4.out.size
  generalize w3.heap.size = B0 at *
  have HG1 := Lib.hid hG1lt
  have HSZ := Lib.hid hsz
  clear hW5 hA og D4 M4 hG1lt hsz c1 c3 hg
  go_loopw [12, 13, 14, 15] (Lp q.c m k L.length B0 G1 w) (fun _ _ _ i _ => L.length - (intOf i).toNat)
  case atStart => exact ⟨0, N0, _, [am], [], rfl, rfl, by omega, by omega, HN0.out, OG5.out, World.ownsRow_nil _ _ _ _, (by intro g _ h; cases h), M5.out, D5.out, HSZ.out⟩
  case round =>
    obtain ⟨j, M, x, G, V, rfl, rfl, hj, hj20, hnet, og, ov, hsep, hM, hB, hB0⟩ := hrel
    have HNet := Lib.hid hnet
    have OG := Lib.hid og
    have OV := Lib.hid ov
    have HSep := Lib.hid hsep
    have HM := Lib.hid hM
    have HB := Lib.hid hB
    have hx := hnet.days HIN.out (Int.le_refl _) (Int.le_of_lt hnet.hi)
    clear hnet og ov hsep hM hB
    go_upto_region 12 with (fail)
    go_cut [76] (fun v wx => ∃ b : Bool, v = .bool b ∧ (b = true ↔ j < L.length ∧ j < 20) ∧ wr = wx)
    case first =>
      by_cases h1 : j < L.length
      · by_cases h2 : j < 20
        · go_wp2_with fail
          go_meet
          exact ⟨true, by simp; omega, by simp [h1, h2], rfl⟩
        · go_wp2_with fail
          go_meet
          exact ⟨false, by simp; omega, by simp [h1, h2], rfl⟩
      · go_wp2_with fail
        go_meet
        exact ⟨false, rfl, by simp [h1], rfl⟩
    obtain ⟨bb, rfl, hbb, rfl⟩ := hcut
    cases bb with
    | true =>
      obtain ⟨hlt, h20⟩ := hbb.1 rfl
      clear hbb
      obtain ⟨tu, htu⟩ : ∃ t, L[j] = t := ⟨_, rfl⟩
      have hft := HF.out L[j] (List.getElem_mem hlt)
      obtain ⟨ab, ao, rfl, hab, t0, t1, t2⟩ := (HL.out.later HB.out) j hlt
      rw [htu] at hft t0 t1 t2
      obtain ⟨td, tp, tq⟩ := tu
      dsimp only at t0 t1 t2
      have hfd := hft.d
      have HFP := Lib.hid hft.p
      dsimp only at hfd HFP
      have hju : (j : Int) < (L.length : Int) := by omega
      have hj0 : (0 : Int) ≤ (j : Int) := by omega
      clear htu hft
      by_cases hon : nx ≤ x + td
      · have q0 : decide (nx ≤ x + td) = true := by simp; omega
        go_wp2_with fail
        go_roundw
        case rel => exact ⟨j + 1, M, x, G, V, by go_num, rfl, by omega, by omega, HNet.out.skip, OG.out, OV.out, HSep.out, HM.out, HB.out, hB0⟩
        case measure => simp [intOf]; omega
      · have q0 : decide (nx ≤ x + td) = false := by simp; omega
        go_upto_region 16 with (fail)
        obtain ⟨A, X, z, hk, hcase⟩ := HNet.out.chg HIN.out (on := x + td) (tp := tp) (tq := tq) (by omega) (by rw [HNX.out]; omega) HFP.out
        rw [HNX.out] at hcase
        have h1on : x ≤ x + td := by omega
        obtain ⟨on, hon2⟩ : ∃ o, x + td = o := ⟨_, rfl⟩
        rw [hon2] at hon q0 hk hcase h1on ⊢
        clear hon2 t0 hfd
        have KG := Lib.hid (show ∀ u, Tab u → Calls Tryd.prog 17 #[.agg #[.int .u64 M.id, .int .u64 M.cu, .int .u64 M.pl, .int .i64 M.c.s, .int .i64 M.c.a, .int .i64 M.c.e, .int .i64 M.p, .int .i64 M.b, .int .i64 M.s, .int .i64 M.e], .int .i64 on, .agg #[.int .u64 tp, .int .i64 tq]] u (fun e u' => e = .returned (.tuple #[.agg #[.int .u64 A.id, .int .u64 A.cu, .int .u64 A.pl, .int .i64 A.c.s, .int .i64 A.c.a, .int .i64 A.c.e, .int .i64 A.p, .int .i64 A.b, .int .i64 A.s, .int .i64 A.e], .agg #[.int .i64 X.f, .int .i64 X.n, .int .i64 X.c, .int .i64 X.a], .int .i64 z]) ∧ Below u.heap.size u u') from hk)
        have HCase := Lib.hid hcase
        have T4 := Lib.hid (tab_later HT.out HB.out)
        have hab4 : ab < wr.heap.size := hab
        clear hk hcase
        go_cut [17, 18, 19] (fun s17 s18 s19 wx => ∃ B6 B7, s17 = .pointer (some ⟨B6, 0, Option.none⟩) ∧ s18 = .pointer (some ⟨B7, 0, Option.none⟩) ∧ s19 = .int .i64 z ∧ Blk wx B6 #[.int .u64 A.id, .int .u64 A.cu, .int .u64 A.pl, .int .i64 A.c.s, .int .i64 A.c.a, .int .i64 A.c.e, .int .i64 A.p, .int .i64 A.b, .int .i64 A.s, .int .i64 A.e] 26 ∧ Blk wx B7 #[.int .i64 X.f, .int .i64 X.n, .int .i64 X.c, .int .i64 X.a] 45 ∧ Below wr.heap.size wr wx)
        case first =>
          refine wp_region_inv (I := (fun A0 Lf a u => ∃ (x0 x1 x2 x3 x4 x5 x6 x7 x8 x9 x10 x11 x12 x13 x16 : Value), a = putAll A0 [(91, x0), (92, x1), (93, x2), (94, x3), (95, x4), (96, x5), (97, x6), (98, x7), (90, x8), (99, x9), (100, x10), (101, x11), (17, x12), (18, x13), (19, x16)] ∧ Gz wr (.agg #[.int .u64 M.id, .int .u64 M.cu, .int .u64 M.pl, .int .i64 M.c.s, .int .i64 M.c.a, .int .i64 M.c.e, .int .i64 M.p, .int .i64 M.b, .int .i64 M.s, .int .i64 M.e]) (.int .i64 on) (.slice (some ⟨ab, ao, Option.none⟩) L.length cap) (.int .i64 (j : Int)) (.pointer (some ⟨ab, ao + j * 3, Option.none⟩)) (.pointer (some ⟨ab, ao + j * 3 + 1, Option.none⟩)) (.agg #[.int .u64 tp, .int .i64 tq]) (.tuple #[.agg #[.int .u64 A.id, .int .u64 A.cu, .int .u64 A.pl, .int .i64 A.c.s, .int .i64 A.c.a, .int .i64 A.c.e, .int .i64 A.p, .int .i64 A.b, .int .i64 A.s, .int .i64 A.e], .agg #[.int .i64 X.f, .int .i64 X.n, .int .i64 X.c, .int .i64 X.a], .int .i64 z]) (.int .i64 z) #[.int .u64 A.id, .int .u64 A.cu, .int .u64 A.pl, .int .i64 A.c.s, .int .i64 A.c.a, .int .i64 A.c.e, .int .i64 A.p, .int .i64 A.b, .int .i64 A.s, .int .i64 A.e] #[.int .i64 X.f, .int .i64 X.n, .int .i64 X.c, .int .i64 X.a] (Lf 0) (Lf 1) (Lf 2) (Lf 3) (Lf 4) (Lf 5) (Lf 6) (Lf 7) (Lf 8) (Lf 9) (Lf 10) (Lf 11) (Lf 12) (Lf 13) (Lf 14) (Lf 15) (Lf 16) x0 x1 x2 x3 x4 x5 x6 x7 x8 x9 x10 x11 x12 x13 x16 u)) (by kernel_rfl) (by kernel_rfl) ?_ ?_ ?_
          · intro L0 hL0
            exact ⟨_, _, _, _, _, _, _, _, _, _, _, _, _, _, _, by (simp only [putAll, Act.put, List.setIfInBounds_toArray, List.set_cons_zero, List.set_cons_succ]; rfl), Gz.start ⟨hL0 0 (by decide), hL0 1 (by decide), hL0 2 (by decide), hL0 3 (by decide), hL0 4 (by decide), hL0 5 (by decide), hL0 6 (by decide), hL0 7 (by decide), hL0 8 (by decide), hL0 9 (by decide), hL0 10 (by decide), hL0 11 (by decide), hL0 12 (by decide), hL0 13 (by decide), hL0 14 (by decide), hL0 15 (by decide), hL0 16 (by decide)⟩ ((Below.refl _ wr).drew)⟩
          refine Steps.cons (i := 0) rfl ?_ ?_
          · rintro L0 a0 u ⟨x0, x1, x2, x3, x4, x5, x6, x7, x8, x9, x10, x11, x12, x13, x16, rfl, hF⟩ hi hd K hK
            simp only [putAll, Act.put, List.setIfInBounds_toArray, List.set_cons_zero, List.set_cons_succ]
            (try simp [Region.binds] at hd)
            have hs := HM.out.later hF.two.b
            have q0 : u.cell? ⟨G1, 0, Option.none⟩ = some (.int .u64 M.id) := hs.cell 0
            have q1 : u.cell? ⟨G1, 1, Option.none⟩ = some (.int .u64 M.cu) := hs.cell 1
            have q2 : u.cell? ⟨G1, 2, Option.none⟩ = some (.int .u64 M.pl) := hs.cell 2
            have q3 : u.cell? ⟨G1, 3, Option.none⟩ = some (.int .i64 M.c.s) := hs.cell 3
            have q4 : u.cell? ⟨G1, 4, Option.none⟩ = some (.int .i64 M.c.a) := hs.cell 4
            have q5 : u.cell? ⟨G1, 5, Option.none⟩ = some (.int .i64 M.c.e) := hs.cell 5
            have q6 : u.cell? ⟨G1, 6, Option.none⟩ = some (.int .i64 M.p) := hs.cell 6
            have q7 : u.cell? ⟨G1, 7, Option.none⟩ = some (.int .i64 M.b) := hs.cell 7
            have q8 : u.cell? ⟨G1, 8, Option.none⟩ = some (.int .i64 M.s) := hs.cell 8
            have q9 : u.cell? ⟨G1, 9, Option.none⟩ = some (.int .i64 M.e) := hs.cell 9
            go_simp
            exact hK.out _ _ ⟨_, _, _, _, _, _, _, _, _, _, _, _, _, _, _, by (simp only [putAll, Act.put, List.setIfInBounds_toArray, List.set_cons_zero, List.set_cons_succ]), ⟨hF.two, hF.d6, hF.d7, fun _ => rfl, hF.v1, hF.v2, hF.v3, hF.v4, hF.v5, hF.v6, hF.v7, hF.v8, hF.v9, hF.v10, hF.v11, hF.v16⟩⟩
          refine Steps.cons (i := 1) rfl ?_ ?_
          · rintro L0 a0 u ⟨x0, x1, x2, x3, x4, x5, x6, x7, x8, x9, x10, x11, x12, x13, x16, rfl, hF⟩ hi hd K hK
            simp only [putAll, Act.put, List.setIfInBounds_toArray, List.set_cons_zero, List.set_cons_succ]
            (try simp [Region.binds] at hd)
            go_simp
            exact hK.out _ _ ⟨_, _, _, _, _, _, _, _, _, _, _, _, _, _, _, by (simp only [putAll, Act.put, List.setIfInBounds_toArray, List.set_cons_zero, List.set_cons_succ]), ⟨hF.two, hF.d6, hF.d7, hF.v0, fun _ => rfl, hF.v2, hF.v3, hF.v4, hF.v5, hF.v6, hF.v7, hF.v8, hF.v9, hF.v10, hF.v11, hF.v16⟩⟩
          refine Steps.cons (i := 2) rfl ?_ ?_
          · rintro L0 a0 u ⟨x0, x1, x2, x3, x4, x5, x6, x7, x8, x9, x10, x11, x12, x13, x16, rfl, hF⟩ hi hd K hK
            simp only [putAll, Act.put, List.setIfInBounds_toArray, List.set_cons_zero, List.set_cons_succ]
            (try simp [Region.binds] at hd)
            go_simp
            exact hK.out _ _ ⟨_, _, _, _, _, _, _, _, _, _, _, _, _, _, _, by (simp only [putAll, Act.put, List.setIfInBounds_toArray, List.set_cons_zero, List.set_cons_succ]), ⟨hF.two, hF.d6, hF.d7, hF.v0, hF.v1, fun _ => rfl, hF.v3, hF.v4, hF.v5, hF.v6, hF.v7, hF.v8, hF.v9, hF.v10, hF.v11, hF.v16⟩⟩
          refine Steps.cons (i := 3) rfl ?_ ?_
          · rintro L0 a0 u ⟨x0, x1, x2, x3, x4, x5, x6, x7, x8, x9, x10, x11, x12, x13, x16, rfl, hF⟩ hi hd K hK
            simp only [putAll, Act.put, List.setIfInBounds_toArray, List.set_cons_zero, List.set_cons_succ]
            (try simp [Region.binds] at hd)
            go_simp
            exact hK.out _ _ ⟨_, _, _, _, _, _, _, _, _, _, _, _, _, _, _, by (simp only [putAll, Act.put, List.setIfInBounds_toArray, List.set_cons_zero, List.set_cons_succ]), ⟨hF.two, hF.d6, hF.d7, hF.v0, hF.v1, hF.v2, fun _ => rfl, hF.v4, hF.v5, hF.v6, hF.v7, hF.v8, hF.v9, hF.v10, hF.v11, hF.v16⟩⟩
          refine Steps.cons (i := 4) rfl ?_ ?_
          · rintro L0 a0 u ⟨x0, x1, x2, x3, x4, x5, x6, x7, x8, x9, x10, x11, x12, x13, x16, rfl, hF⟩ hi hd K hK
            simp only [putAll, Act.put, List.setIfInBounds_toArray, List.set_cons_zero, List.set_cons_succ]
            (try simp [Region.binds] at hd)
            obtain rfl := hF.v2 (by simp [hd])
            obtain rfl := hF.v3 (by simp [hd])
            go_simp
            exact hK.out _ _ ⟨_, _, _, _, _, _, _, _, _, _, _, _, _, _, _, by (simp only [putAll, Act.put, List.setIfInBounds_toArray, List.set_cons_zero, List.set_cons_succ]), ⟨hF.two, hF.d6, hF.d7, hF.v0, hF.v1, hF.v2, hF.v3, fun _ => rfl, hF.v5, hF.v6, hF.v7, hF.v8, hF.v9, hF.v10, hF.v11, hF.v16⟩⟩
          refine Steps.cons (i := 5) rfl ?_ ?_
          · rintro L0 a0 u ⟨x0, x1, x2, x3, x4, x5, x6, x7, x8, x9, x10, x11, x12, x13, x16, rfl, hF⟩ hi hd K hK
            simp only [putAll, Act.put, List.setIfInBounds_toArray, List.set_cons_zero, List.set_cons_succ]
            (try simp [Region.binds] at hd)
            obtain rfl := hF.v4 (by simp [hd])
            go_simp
            exact hK.out _ _ ⟨_, _, _, _, _, _, _, _, _, _, _, _, _, _, _, by (simp only [putAll, Act.put, List.setIfInBounds_toArray, List.set_cons_zero, List.set_cons_succ]), ⟨hF.two, hF.d6, hF.d7, hF.v0, hF.v1, hF.v2, hF.v3, hF.v4, fun _ => rfl, hF.v6, hF.v7, hF.v8, hF.v9, hF.v10, hF.v11, hF.v16⟩⟩
          refine Steps.cons (i := 6) rfl ?_ ?_
          · rintro L0 a0 u ⟨x0, x1, x2, x3, x4, x5, x6, x7, x8, x9, x10, x11, x12, x13, x16, rfl, hF⟩ hi hd K hK
            simp only [putAll, Act.put, List.setIfInBounds_toArray, List.set_cons_zero, List.set_cons_succ]
            (try simp [Region.binds] at hd)
            obtain rfl := hF.v5 (by simp [hd])
            have q1 := (hF.two.b.cell (p := ⟨ab, ao + j * 3 + 1, Option.none⟩) hab4).trans t1
            have q2 := (hF.two.b.cell (p := ⟨ab, ao + j * 3 + 2, Option.none⟩) hab4).trans t2
            go_simp
            exact hK.out _ _ ⟨_, _, _, _, _, _, _, _, _, _, _, _, _, _, _, by (simp only [putAll, Act.put, List.setIfInBounds_toArray, List.set_cons_zero, List.set_cons_succ]), ⟨hF.two, hF.d6, hF.d7, hF.v0, hF.v1, hF.v2, hF.v3, hF.v4, hF.v5, fun _ => rfl, hF.v7, hF.v8, hF.v9, hF.v10, hF.v11, hF.v16⟩⟩
          refine Steps.cons (i := 7) rfl ?_ ?_
          · rintro L0 a0 u ⟨x0, x1, x2, x3, x4, x5, x6, x7, x8, x9, x10, x11, x12, x13, x16, rfl, hF⟩ hi hd K hK
            simp only [putAll, Act.put, List.setIfInBounds_toArray, List.set_cons_zero, List.set_cons_succ]
            (try simp [Region.binds] at hd)
            obtain rfl := hF.v0 (by simp [hd])
            obtain rfl := hF.v1 (by simp [hd])
            obtain rfl := hF.v6 (by simp [hd])
            go_simp
            refine (KG.out _ (tab_later T4.out hF.two.b)).mono ?_
            rintro e u1 ⟨rfl, hb1⟩
            go_wp2_with fail
            exact hK.out _ _ ⟨_, _, _, _, _, _, _, _, _, _, _, _, _, _, _, by (simp only [putAll, Act.put, List.setIfInBounds_toArray, List.set_cons_zero, List.set_cons_succ]), ⟨hF.two.later hb1, hF.d6, hF.d7, hF.v0, hF.v1, hF.v2, hF.v3, hF.v4, hF.v5, hF.v6, fun _ => rfl, hF.v8, hF.v9, hF.v10, hF.v11, hF.v16⟩⟩
          refine Steps.cons (i := 8) rfl ?_ ?_
          · rintro L0 a0 u ⟨x0, x1, x2, x3, x4, x5, x6, x7, x8, x9, x10, x11, x12, x13, x16, rfl, hF⟩ hi hd K hK
            simp only [putAll, Act.put, List.setIfInBounds_toArray, List.set_cons_zero, List.set_cons_succ]
            (try simp [Region.binds] at hd)
            obtain rfl := hF.v7 (by simp [hd])
            go_simp
            exact hK.out _ _ ⟨_, _, _, _, _, _, _, _, _, _, _, _, _, _, _, by (simp only [putAll, Act.put, List.setIfInBounds_toArray, List.set_cons_zero, List.set_cons_succ]), ⟨hF.two, hF.d6, hF.d7, hF.v0, hF.v1, hF.v2, hF.v3, hF.v4, hF.v5, hF.v6, hF.v7, fun _ => rfl, hF.v9, hF.v10, hF.v11, hF.v16⟩⟩
          refine Steps.cons (i := 9) rfl ?_ ?_
          · rintro L0 a0 u ⟨x0, x1, x2, x3, x4, x5, x6, x7, x8, x9, x10, x11, x12, x13, x16, rfl, hF⟩ hi hd K hK
            simp only [putAll, Act.put, List.setIfInBounds_toArray, List.set_cons_zero, List.set_cons_succ]
            (try simp [Region.binds] at hd)
            obtain rfl := hF.v8 (by simp [hd])
            go_simp
            exact hK.out _ _ ⟨_, _, _, _, _, _, _, _, _, _, _, _, _, _, _, by (simp only [putAll, Act.put, List.setIfInBounds_toArray, List.set_cons_zero, List.set_cons_succ]), ⟨hF.two, hF.d6, hF.d7, hF.v0, hF.v1, hF.v2, hF.v3, hF.v4, hF.v5, hF.v6, hF.v7, hF.v8, fun _ => rfl, hF.v10, hF.v11, hF.v16⟩⟩
          refine Steps.cons (i := 10) rfl ?_ ?_
          · rintro L0 a0 u ⟨x0, x1, x2, x3, x4, x5, x6, x7, x8, x9, x10, x11, x12, x13, x16, rfl, hF⟩ hi hd K hK
            simp only [putAll, Act.put, List.setIfInBounds_toArray, List.set_cons_zero, List.set_cons_succ]
            (try simp [Region.binds] at hd)
            obtain rfl := hF.v8 (by simp [hd])
            go_simp
            exact hK.out _ _ ⟨_, _, _, _, _, _, _, _, _, _, _, _, _, _, _, by (simp only [putAll, Act.put, List.setIfInBounds_toArray, List.set_cons_zero, List.set_cons_succ]), ⟨hF.two, hF.d6, hF.d7, hF.v0, hF.v1, hF.v2, hF.v3, hF.v4, hF.v5, hF.v6, hF.v7, hF.v8, hF.v9, fun _ => rfl, hF.v11, hF.v16⟩⟩
          refine Steps.cons (i := 11) rfl ?_ ?_
          · rintro L0 a0 u ⟨x0, x1, x2, x3, x4, x5, x6, x7, x8, x9, x10, x11, x12, x13, x16, rfl, hF⟩ hi hd K hK
            simp only [putAll, Act.put, List.setIfInBounds_toArray, List.set_cons_zero, List.set_cons_succ]
            (try simp [Region.binds] at hd)
            obtain rfl := hF.v8 (by simp [hd])
            go_simp
            exact hK.out _ _ ⟨_, _, _, _, _, _, _, _, _, _, _, _, _, _, _, by (simp only [putAll, Act.put, List.setIfInBounds_toArray, List.set_cons_zero, List.set_cons_succ]), ⟨hF.two, hF.d6, hF.d7, hF.v0, hF.v1, hF.v2, hF.v3, hF.v4, hF.v5, hF.v6, hF.v7, hF.v8, hF.v9, hF.v10, fun _ => rfl, hF.v16⟩⟩
          refine Steps.cons (i := 12) rfl ?_ ?_
          · rintro L0 a0 u ⟨x0, x1, x2, x3, x4, x5, x6, x7, x8, x9, x10, x11, x12, x13, x16, rfl, hF⟩ hi hd K hK
            simp only [putAll, Act.put, List.setIfInBounds_toArray, List.set_cons_zero, List.set_cons_succ]
            (try simp [Region.binds] at hd)
            go_simp
            exact hK.out _ _ ⟨_, _, _, _, _, _, _, _, _, _, _, _, _, _, _, by (simp only [putAll, Act.put, List.setIfInBounds_toArray, List.set_cons_zero, List.set_cons_succ]), ⟨hF.two.al6 (off_of hF.d6 hi), fun _ => rfl, hF.d7, hF.v0, hF.v1, hF.v2, hF.v3, hF.v4, hF.v5, hF.v6, hF.v7, hF.v8, hF.v9, hF.v10, hF.v11, hF.v16⟩⟩
          refine Steps.cons (i := 13) rfl ?_ ?_
          · rintro L0 a0 u ⟨x0, x1, x2, x3, x4, x5, x6, x7, x8, x9, x10, x11, x12, x13, x16, rfl, hF⟩ hi hd K hK
            simp only [putAll, Act.put, List.setIfInBounds_toArray, List.set_cons_zero, List.set_cons_succ]
            (try simp [Region.binds] at hd)
            go_simp
            exact hK.out _ _ ⟨_, _, _, _, _, _, _, _, _, _, _, _, _, _, _, by (simp only [putAll, Act.put, List.setIfInBounds_toArray, List.set_cons_zero, List.set_cons_succ]), ⟨hF.two.al7 (off_of hF.d7 hi), hF.d6, fun _ => rfl, hF.v0, hF.v1, hF.v2, hF.v3, hF.v4, hF.v5, hF.v6, hF.v7, hF.v8, hF.v9, hF.v10, hF.v11, hF.v16⟩⟩
          refine Steps.cons (i := 14) rfl ?_ ?_
          · rintro L0 a0 u ⟨x0, x1, x2, x3, x4, x5, x6, x7, x8, x9, x10, x11, x12, x13, x16, rfl, hF⟩ hi hd K hK
            simp only [putAll, Act.put, List.setIfInBounds_toArray, List.set_cons_zero, List.set_cons_succ]
            (try simp [Region.binds] at hd)
            obtain rfl := hF.v9 (by simp [hd])
            have ha : L0 12 = true := by simp [hd]
            obtain ⟨B, rfl, hB⟩ := hF.two.at6 ha hi
            obtain ⟨q0, q1, q2, q3, q4, q5, q6, q7, q8, q9, r0, r1, r2, r3, r4, r5, r6, r7, r8, r9⟩ := blk_writes hB
            go_simp
            exact hK.out _ _ ⟨_, _, _, _, _, _, _, _, _, _, _, _, _, _, _, by (simp only [putAll, Act.put, List.setIfInBounds_toArray, List.set_cons_zero, List.set_cons_succ]), ⟨hF.two.st6 ha hi, fun _ => ha, hF.d7, hF.v0, hF.v1, hF.v2, hF.v3, hF.v4, hF.v5, hF.v6, hF.v7, hF.v8, hF.v9, hF.v10, hF.v11, hF.v16⟩⟩
          refine Steps.cons (i := 15) rfl ?_ ?_
          · rintro L0 a0 u ⟨x0, x1, x2, x3, x4, x5, x6, x7, x8, x9, x10, x11, x12, x13, x16, rfl, hF⟩ hi hd K hK
            simp only [putAll, Act.put, List.setIfInBounds_toArray, List.set_cons_zero, List.set_cons_succ]
            (try simp [Region.binds] at hd)
            obtain rfl := hF.v10 (by simp [hd])
            have ha : L0 13 = true := by simp [hd]
            obtain ⟨B, rfl, hB⟩ := hF.two.at7 ha hi
            obtain ⟨q0, q1, q2, q3, r0, r1, r2, r3⟩ := blk_four hB
            go_simp
            exact hK.out _ _ ⟨_, _, _, _, _, _, _, _, _, _, _, _, _, _, _, by (simp only [putAll, Act.put, List.setIfInBounds_toArray, List.set_cons_zero, List.set_cons_succ]), ⟨hF.two.st7 ha hi, hF.d6, fun _ => ha, hF.v0, hF.v1, hF.v2, hF.v3, hF.v4, hF.v5, hF.v6, hF.v7, hF.v8, hF.v9, hF.v10, hF.v11, hF.v16⟩⟩
          refine Steps.cons (i := 16) rfl ?_ ?_
          · rintro L0 a0 u ⟨x0, x1, x2, x3, x4, x5, x6, x7, x8, x9, x10, x11, x12, x13, x16, rfl, hF⟩ hi hd K hK
            simp only [putAll, Act.put, List.setIfInBounds_toArray, List.set_cons_zero, List.set_cons_succ]
            (try simp [Region.binds] at hd)
            obtain rfl := hF.v11 (by simp [hd])
            go_simp
            exact hK.out _ _ ⟨_, _, _, _, _, _, _, _, _, _, _, _, _, _, _, by (simp only [putAll, Act.put, List.setIfInBounds_toArray, List.set_cons_zero, List.set_cons_succ]), ⟨hF.two, hF.d6, hF.d7, hF.v0, hF.v1, hF.v2, hF.v3, hF.v4, hF.v5, hF.v6, hF.v7, hF.v8, hF.v9, hF.v10, hF.v11, fun _ => rfl⟩⟩
          · exact Steps.nil
          · rintro L0 a0 u ⟨x0, x1, x2, x3, x4, x5, x6, x7, x8, x9, x10, x11, x12, x13, x16, rfl, hF⟩ hall
            obtain rfl := hF.v16 (hall 16 (by decide))
            obtain ⟨B6, rfl, -, hB6⟩ := hF.two.o6 (hall 12 (by decide))
            obtain ⟨B7, rfl, -, hB7⟩ := hF.two.o7 (hall 13 (by decide))
            rw [hall 14 (by decide)] at hB6
            rw [hall 15 (by decide)] at hB7
            have hb := hF.two.b
            clear hF hall
            simp only [putAll, Act.put, List.setIfInBounds_toArray, List.set_cons_zero, List.set_cons_succ]
            go_wp2_with fail
            go_meet
            exact ⟨B6, B7, rfl, rfl, rfl, hB6, hB7, hb⟩
        obtain ⟨B6, B7, rfl, rfl, rfl, h6, h7, hb⟩ := hcut
        generalize wc = w6 at *
        have P6 := Lib.hid h6
        have P7 := Lib.hid h7
        have OG6 := Lib.hid (own_later OG.out hb)
        have OV6 := Lib.hid (own_later OV.out hb)
        have M6 := Lib.hid (HM.out.later hb)
        have D6 := Lib.hid (HB.out.trans (hb.mono HB.out.size))
        have hB6 : B0 ≤ w6.heap.size := Nat.le_trans hB0 hb.size
        clear h6 h7 hb OG OV HM HB T4 KG t1 t2 hab hab4
        rcases HCase.out with ⟨rfl, rfl, rfl⟩ | ⟨rfl, hp1, hq0, hq1, rfl, rfl⟩
        · clear HCase
          have a0 : w6.cell? ⟨B6, 0, Option.none⟩ = some (.int .u64 0) := P6.out.cell 0
          have a1 : w6.cell? ⟨B6, 1, Option.none⟩ = some (.int .u64 0) := P6.out.cell 1
          have a2 : w6.cell? ⟨B6, 2, Option.none⟩ = some (.int .u64 0) := P6.out.cell 2
          have a3 : w6.cell? ⟨B6, 3, Option.none⟩ = some (.int .i64 0) := P6.out.cell 3
          have a4 : w6.cell? ⟨B6, 4, Option.none⟩ = some (.int .i64 0) := P6.out.cell 4
          have a5 : w6.cell? ⟨B6, 5, Option.none⟩ = some (.int .i64 0) := P6.out.cell 5
          have a6 : w6.cell? ⟨B6, 6, Option.none⟩ = some (.int .i64 0) := P6.out.cell 6
          have a7 : w6.cell? ⟨B6, 7, Option.none⟩ = some (.int .i64 0) := P6.out.cell 7
          have a8 : w6.cell? ⟨B6, 8, Option.none⟩ = some (.int .i64 0) := P6.out.cell 8
          have a9 : w6.cell? ⟨B6, 9, Option.none⟩ = some (.int .i64 0) := P6.out.cell 9
          have x0 : w6.cell? ⟨B7, 0, Option.none⟩ = some (.int .i64 0) := P7.out.cell 0
          have x1 : w6.cell? ⟨B7, 1, Option.none⟩ = some (.int .i64 0) := P7.out.cell 1
          have x2 : w6.cell? ⟨B7, 2, Option.none⟩ = some (.int .i64 0) := P7.out.cell 2
          have x3 : w6.cell? ⟨B7, 3, Option.none⟩ = some (.int .i64 0) := P7.out.cell 3
          go_wp2_with fail
          go_roundw
          case rel => exact ⟨j + 1, M, x, G, V, by go_num, rfl, by omega, by omega, HNet.out.skip, OG6.out, OV6.out, HSep.out, M6.out, D6.out, hB6⟩
          case measure => simp [intOf]; omega
        · clear HCase
          have HT2 := Lib.hid (HNet.out.turn HIN.out h1on (by rw [HNX.out]; omega) HFP.out hp1 hq0 hq1)
          have KC := Lib.hid (show ∀ u, Tab u → Calls Tryd.prog 14 #[.agg #[.int .u64 M.id, .int .u64 M.cu, .int .u64 tp, .int .i64 M.c.s, .int .i64 M.c.a, .int .i64 M.c.e, .int .i64 tq, .int .i64 M.b, .int .i64 on, .int .i64 M.e]] u (fun e u' => e = .returned (.int .i64 0) ∧ Below u.heap.size u u') from fun u hu => check_yes (M.turned tp tq on) m u hu (HT2.out.cy ▸ HIN.out) HT2.out.ok)
          have KO := Lib.hid (show ∀ u, Calls Tryd.prog 22 #[.agg #[.int .u64 M.id, .int .u64 M.cu, .int .u64 M.pl, .int .i64 M.c.s, .int .i64 M.c.a, .int .i64 M.c.e, .int .i64 M.p, .int .i64 M.b, .int .i64 M.s, .int .i64 M.e], .int .i64 nx, .int .i64 M.p, .int .i64 x, .int .i64 on] u (fun e u' => e = .returned (.int .i64 (amt q.c m k M.p x on)) ∧ Below u.heap.size u u') from fun u => by have := HNet.out.on HIN.out h1on (by rw [HNX.out]; omega) u; rw [HNX.out] at this; exact this)
          have hp0 := HNet.out.ok.num.p0
          have b1 := amt_bd (c := q.c) (m := m) (k := k) hp0 on nx
          have b2 := amt_bd (c := q.c) (m := m) (k := k) hq0 on nx
          have b1' := HNet.out.ok.num.p1
          have HL2 := Lib.hid (show Net q.c m k (M.turned tp tq on) on (G ++ [amt q.c m k tq on nx, -(amt q.c m k M.p on nx)]) (V ++ [amt q.c m k M.p x on]) (j + 1) by have := HT2.out; rw [HNX.out] at this; exact this)
          generalize amt q.c m k M.p on nx = c1 at *
          generalize amt q.c m k tq on nx = c2 at *
          generalize amt q.c m k M.p x on = c0 at *
          have g1 : decide (c1 < 0) = false := by simp; omega
          have g2 : decide (c2 < 0) = false := by simp; omega
          have gl := HNet.out.gl
          have vl := HNet.out.wl
          clear HT2 hp0
          have a0 : w6.cell? ⟨B6, 0, Option.none⟩ = some (.int .u64 M.id) := P6.out.cell 0
          have a1 : w6.cell? ⟨B6, 1, Option.none⟩ = some (.int .u64 M.cu) := P6.out.cell 1
          have a2 : w6.cell? ⟨B6, 2, Option.none⟩ = some (.int .u64 tp) := P6.out.cell 2
          have a3 : w6.cell? ⟨B6, 3, Option.none⟩ = some (.int .i64 M.c.s) := P6.out.cell 3
          have a4 : w6.cell? ⟨B6, 4, Option.none⟩ = some (.int .i64 M.c.a) := P6.out.cell 4
          have a5 : w6.cell? ⟨B6, 5, Option.none⟩ = some (.int .i64 M.c.e) := P6.out.cell 5
          have a6 : w6.cell? ⟨B6, 6, Option.none⟩ = some (.int .i64 tq) := P6.out.cell 6
          have a7 : w6.cell? ⟨B6, 7, Option.none⟩ = some (.int .i64 M.b) := P6.out.cell 7
          have a8 : w6.cell? ⟨B6, 8, Option.none⟩ = some (.int .i64 on) := P6.out.cell 8
          have a9 : w6.cell? ⟨B6, 9, Option.none⟩ = some (.int .i64 M.e) := P6.out.cell 9
          have x0 : w6.cell? ⟨B7, 0, Option.none⟩ = some (.int .i64 on) := P7.out.cell 0
          have x1 : w6.cell? ⟨B7, 1, Option.none⟩ = some (.int .i64 nx) := P7.out.cell 1
          have x2 : w6.cell? ⟨B7, 2, Option.none⟩ = some (.int .i64 c1) := P7.out.cell 2
          have x3 : w6.cell? ⟨B7, 3, Option.none⟩ = some (.int .i64 c2) := P7.out.cell 3
          go_wp2_with fail
          refine (KC.out _ (tab_later HT.out D6.out)).mono ?_
          rintro e w7 ⟨rfl, b7⟩
          have P67 := Lib.hid (P6.out.later b7)
          have P77 := Lib.hid (P7.out.later b7)
          have OG7 := Lib.hid (own_later OG6.out b7)
          have OV7 := Lib.hid (own_later OV6.out b7)
          have M7 := Lib.hid (M6.out.later b7)
          have D7 := Lib.hid (D6.out.trans (b7.mono D6.out.size))
          have hB7 : B0 ≤ w7.heap.size := Nat.le_trans hB6 b7.size
          clear b7 P6 P7 OG6 OV6 M6 D6 hB6 KC a0 a1 a2 a3 a4 a5 a6 a7 a8 a9 x0 x1 x2 x3
          have a0 : w7.cell? ⟨G1, 0, Option.none⟩ = some (.int .u64 M.id) := M7.out.cell 0
          have a1 : w7.cell? ⟨G1, 1, Option.none⟩ = some (.int .u64 M.cu) := M7.out.cell 1
          have a2 : w7.cell? ⟨G1, 2, Option.none⟩ = some (.int .u64 M.pl) := M7.out.cell 2
          have a3 : w7.cell? ⟨G1, 3, Option.none⟩ = some (.int .i64 M.c.s) := M7.out.cell 3
          have a4 : w7.cell? ⟨G1, 4, Option.none⟩ = some (.int .i64 M.c.a) := M7.out.cell 4
          have a5 : w7.cell? ⟨G1, 5, Option.none⟩ = some (.int .i64 M.c.e) := M7.out.cell 5
          have a6 : w7.cell? ⟨G1, 6, Option.none⟩ = some (.int .i64 M.p) := M7.out.cell 6
          have a7 : w7.cell? ⟨G1, 7, Option.none⟩ = some (.int .i64 M.b) := M7.out.cell 7
          have a8 : w7.cell? ⟨G1, 8, Option.none⟩ = some (.int .i64 M.s) := M7.out.cell 8
          have a9 : w7.cell? ⟨G1, 9, Option.none⟩ = some (.int .i64 M.e) := M7.out.cell 9
          go_wp2_with fail
          refine (KO.out _).mono ?_
          rintro e w8 ⟨rfl, b8⟩
          have P68 := Lib.hid (P67.out.later b8)
          have P78 := Lib.hid (P77.out.later b8)
          have OG8 := Lib.hid (own_later OG7.out b8)
          have OV8 := Lib.hid (own_later OV7.out b8)
          have M8 := Lib.hid (M7.out.later b8)
          have D8 := Lib.hid (D7.out.trans (b8.mono D7.out.size))
          have hB8 : B0 ≤ w8.heap.size := Nat.le_trans hB7 b8.size
          clear b8 P67 P77 OG7 OV7 M7 D7 hB7 KO a0 a1 a2 a3 a4 a5 a6 a7 a8 a9
          obtain ⟨i0, hi, hz0, hz1, hz2⟩ := info_parts infoI
          go_wp2_with (at_builtin; refine wpList_append_own_at _ rfl _ _ 59 rfl B0 2 i0 (.int .i64 0) 1 8 Tryd.underlying59 hi hz0 hz1 hz2 rfl (by decide) _ _ _ rfl (OV8.out.alloc _) ⟨w8.heap.size, 0, none⟩ 1 1 [.int .i64 c0] rfl ?c0 ?c1 ?c2 ?c3 ?c4 ?c5 ?_)
          case c0 => rfl
          case c1 =>
            intro i u hi
            rw [Go.WideShapes.add_plain, World.cell?_alloc_at _ _ _ _ rfl]
            simpa using hi
          case c2 => intro u hu; simp at hu; rcases hu with rfl <;> rfl
          case c3 => unfold maxLen; omega
          case c4 => omega
          case c5 => simp; omega
          intro vv' w9 ov9 hgrow _ hat
          have hA : Below w8.heap.size w8 (w8.alloc (.cells #[.int .i64 c0] 2)) := (Below.refl _ _).alloc (Nat.le_refl _) _
          have P69 := Lib.hid (blk_grown (P68.out.later hA) hgrow (OV8.out.alloc _) (by decide))
          have P79 := Lib.hid (blk_grown (P78.out.later hA) hgrow (OV8.out.alloc _) (by decide))
          have M9 := Lib.hid (blk_grown (M8.out.later hA) hgrow (OV8.out.alloc _) (by decide))
          have OG9 := Lib.hid (own_grown (OG8.out.alloc _) hgrow HSep.out)
          have OV9 := Lib.hid (show w9.ownsRow B0 2 1 vv' (V ++ [c0]).length (vals (V ++ [c0])) by simpa [vals] using ov9)
          have HSep9 := Lib.hid (sep_app (OG8.out.alloc (.cells #[.int .i64 c0] 2)) HSep.out (by simpa using hat))
          have D9 := Lib.hid ((D8.out.alloc D8.out.size (.cells #[.int .i64 c0] 2)).grown hgrow (by have := D8.out.size; simp; omega) (fun k hk => Nat.le_trans HBW.out (own_ge OV8.out hk)))
          have hB9 : B0 ≤ w9.heap.size := Nat.le_trans hB8 (Nat.le_trans (by simp) hgrow.size)
          clear ov9 hgrow hat hA P68 P78 M8 OG8 OV8 HSep D8 hB8 hi hz0 hz1 hz2
          have x2 : w9.cell? ⟨B7, 2, Option.none⟩ = some (.int .i64 c1) := P79.out.cell 2
          have x3 : w9.cell? ⟨B7, 3, Option.none⟩ = some (.int .i64 c2) := P79.out.cell 3
          obtain ⟨i0, hi, hz0, hz1, hz2⟩ := info_parts infoI
          go_wp2_with (at_builtin; refine wpList_append_own_at _ rfl _ _ 59 rfl B0 2 i0 (.int .i64 0) 1 8 Tryd.underlying59 hi hz0 hz1 hz2 rfl (by decide) _ _ _ rfl (OG9.out.alloc _) ⟨w9.heap.size, 0, none⟩ 2 2 [.int .i64 c2, .int .i64 (-c1)] rfl ?c0 ?c1 ?c2 ?c3 ?c4 ?c5 ?_)
          case c0 => rfl
          case c1 =>
            intro i u hi
            rw [Go.WideShapes.add_plain, World.cell?_alloc_at _ _ _ _ rfl]
            simpa using hi
          case c2 => intro u hu; simp at hu; rcases hu with rfl | rfl <;> rfl
          case c3 => unfold maxLen; omega
          case c4 => omega
          case c5 => simp; omega
          intro gv' w10 og10 hgrow _ hat
          have hA : Below w9.heap.size w9 (w9.alloc (.cells #[.int .i64 c2, .int .i64 (-c1)] 2)) := (Below.refl _ _).alloc (Nat.le_refl _) _
          have P60 := Lib.hid (blk_grown (P69.out.later hA) hgrow (OG9.out.alloc _) (by decide))
          have M0 := Lib.hid (blk_grown (M9.out.later hA) hgrow (OG9.out.alloc _) (by decide))
          have OV0 := Lib.hid (own_grown (OV9.out.alloc _) hgrow (fun g h1 h2 => HSep9.out g h2 h1))
          have OG0 := Lib.hid (show w10.ownsRow B0 2 1 gv' (G ++ [c2, -c1]).length (vals (G ++ [c2, -c1])) by simpa [vals] using og10)
          have HSep0 := Lib.hid (sep_app' (OV9.out.alloc (.cells #[.int .i64 c2, .int .i64 (-c1)] 2)) HSep9.out (by simpa using hat))
          have D0 := Lib.hid ((D9.out.alloc D9.out.size (.cells #[.int .i64 c2, .int .i64 (-c1)] 2)).grown hgrow (by have := D9.out.size; simp; omega) (fun k hk => Nat.le_trans HBW.out (own_ge OG9.out hk)))
          have hB10 : B0 ≤ w10.heap.size := Nat.le_trans hB9 (Nat.le_trans (by simp) hgrow.size)
          clear og10 hgrow hat hA P69 P79 M9 OG9 OV9 HSep9 D9 hB9 hi hz0 hz1 hz2 x2 x3
          have a0 : w10.cell? ⟨B6, 0, Option.none⟩ = some (.int .u64 M.id) := P60.out.cell 0
          have a1 : w10.cell? ⟨B6, 1, Option.none⟩ = some (.int .u64 M.cu) := P60.out.cell 1
          have a2 : w10.cell? ⟨B6, 2, Option.none⟩ = some (.int .u64 tp) := P60.out.cell 2
          have a3 : w10.cell? ⟨B6, 3, Option.none⟩ = some (.int .i64 M.c.s) := P60.out.cell 3
          have a4 : w10.cell? ⟨B6, 4, Option.none⟩ = some (.int .i64 M.c.a) := P60.out.cell 4
          have a5 : w10.cell? ⟨B6, 5, Option.none⟩ = some (.int .i64 M.c.e) := P60.out.cell 5
          have a6 : w10.cell? ⟨B6, 6, Option.none⟩ = some (.int .i64 tq) := P60.out.cell 6
          have a7 : w10.cell? ⟨B6, 7, Option.none⟩ = some (.int .i64 M.b) := P60.out.cell 7
          have a8 : w10.cell? ⟨B6, 8, Option.none⟩ = some (.int .i64 on) := P60.out.cell 8
          have a9 : w10.cell? ⟨B6, 9, Option.none⟩ = some (.int .i64 M.e) := P60.out.cell 9
          have y0 : w10.cell? ⟨G1, 0, Option.none⟩ = some (.int .u64 M.id) := M0.out.cell 0
          have y1 : w10.cell? ⟨G1, 1, Option.none⟩ = some (.int .u64 M.cu) := M0.out.cell 1
          have y2 : w10.cell? ⟨G1, 2, Option.none⟩ = some (.int .u64 M.pl) := M0.out.cell 2
          have y3 : w10.cell? ⟨G1, 3, Option.none⟩ = some (.int .i64 M.c.s) := M0.out.cell 3
          have y4 : w10.cell? ⟨G1, 4, Option.none⟩ = some (.int .i64 M.c.a) := M0.out.cell 4
          have y5 : w10.cell? ⟨G1, 5, Option.none⟩ = some (.int .i64 M.c.e) := M0.out.cell 5
          have y6 : w10.cell? ⟨G1, 6, Option.none⟩ = some (.int .i64 M.p) := M0.out.cell 6
          have y7 : w10.cell? ⟨G1, 7, Option.none⟩ = some (.int .i64 M.b) := M0.out.cell 7
          have y8 : w10.cell? ⟨G1, 8, Option.none⟩ = some (.int .i64 M.s) := M0.out.cell 8
          have y9 : w10.cell? ⟨G1, 9, Option.none⟩ = some (.int .i64 M.e) := M0.out.cell 9
          have z0 := M0.out.frozen 0
          have z1 := M0.out.frozen 1
          have z2 := M0.out.frozen 2
          have z3 := M0.out.frozen 3
          have z4 := M0.out.frozen 4
          have z5 := M0.out.frozen 5
          have z6 := M0.out.frozen 6
          have z7 := M0.out.frozen 7
          have z8 := M0.out.frozen 8
          have z9 := M0.out.frozen 9
          go_wp2_with fail
          go_roundw
          case rel => exact ⟨j + 1, M.turned tp tq on, on, _, _, by go_num, rfl, by omega, by omega, HL2.out, own_ten OG0.out HG1.out _ _ _ _ _ _ _ _ _ _, own_ten OV0.out HG1.out _ _ _ _ _ _ _ _ _ _, HSep0.out, M0.out.ten _ _ _ _ _ _ _ _ _ _, below_ten D0.out HG0.out _ _ _ _ _ _ _ _ _ _, by simp [World.setCell]; exact hB10⟩
          case measure => simp [intOf]; omega
    | false =>
      clear hbb
      have hlo := HNet.out.hi
      rw [HNX.out] at hlo
      have hp0 := HNet.out.ok.num.p0
      have hp1 := HNet.out.ok.num.p1
      have gl := HNet.out.gl
      have vl := HNet.out.wl
      cases en' with
      | false =>
        have KO := Lib.hid (show ∀ u, Calls Tryd.prog 22 #[.agg #[.int .u64 M.id, .int .u64 M.cu, .int .u64 M.pl, .int .i64 M.c.s, .int .i64 M.c.a, .int .i64 M.c.e, .int .i64 M.p, .int .i64 M.b, .int .i64 M.s, .int .i64 M.e], .int .i64 nx, .int .i64 M.p, .int .i64 x, .int .i64 nx] u (fun e u' => e = .returned (.int .i64 (amt q.c m k M.p x nx)) ∧ Below u.heap.size u u') from fun u => by have := HNet.out.on HIN.out (on := nx) (by omega) (by rw [HNX.out]; exact Int.le_refl _) u; rw [HNX.out] at this; exact this)
        have hs := HNet.out.sum
        rw [HNX.out] at hs
        have hi64 := i64_amt (c := q.c) (m := m) (k := k) (a := x) (b := nx) hp0 hp1
        generalize amt q.c m k M.p x nx = c0 at *
        have HGB := Lib.hid HNet.out.gb
        have HVB := Lib.hid (show ∀ y ∈ V ++ [c0], I64 y from fun y hy => by
          rcases List.mem_append.1 hy with hy | hy
          · exact HNet.out.wb y hy
          · simp only [List.mem_cons, List.not_mem_nil, or_false] at hy
            subst hy
            exact hi64.1)
        have HS := Lib.hid (show G.sum = (V ++ [c0]).sum by simp only [List.sum_append, List.sum_cons, List.sum_nil]; omega)
        have HSepE := Lib.hid HSep.out
        have M6 := Lib.hid HM.out
        have D6 := Lib.hid HB.out
        clear hs hi64 hp0 hp1 hlo HSep HM HB
        have a0 : wr.cell? ⟨G1, 0, Option.none⟩ = some (.int .u64 M.id) := M6.out.cell 0
        have a1 : wr.cell? ⟨G1, 1, Option.none⟩ = some (.int .u64 M.cu) := M6.out.cell 1
        have a2 : wr.cell? ⟨G1, 2, Option.none⟩ = some (.int .u64 M.pl) := M6.out.cell 2
        have a3 : wr.cell? ⟨G1, 3, Option.none⟩ = some (.int .i64 M.c.s) := M6.out.cell 3
        have a4 : wr.cell? ⟨G1, 4, Option.none⟩ = some (.int .i64 M.c.a) := M6.out.cell 4
        have a5 : wr.cell? ⟨G1, 5, Option.none⟩ = some (.int .i64 M.c.e) := M6.out.cell 5
        have a6 : wr.cell? ⟨G1, 6, Option.none⟩ = some (.int .i64 M.p) := M6.out.cell 6
        have a7 : wr.cell? ⟨G1, 7, Option.none⟩ = some (.int .i64 M.b) := M6.out.cell 7
        have a8 : wr.cell? ⟨G1, 8, Option.none⟩ = some (.int .i64 M.s) := M6.out.cell 8
        have a9 : wr.cell? ⟨G1, 9, Option.none⟩ = some (.int .i64 M.e) := M6.out.cell 9
        go_wp2_with fail
        refine (KO.out _).mono ?_
        rintro e w8 ⟨rfl, b8⟩
        have OG8 := Lib.hid (own_later OG.out b8)
        have OV8 := Lib.hid (own_later OV.out b8)
        have D8 := Lib.hid (D6.out.trans (b8.mono D6.out.size))
        have hB8 : B0 ≤ w8.heap.size := Nat.le_trans hB0 b8.size
        clear b8 OG OV M6 D6 KO a0 a1 a2 a3 a4 a5 a6 a7 a8 a9
        obtain ⟨i0, hi, hz0, hz1, hz2⟩ := info_parts infoI
        go_wp2_with (at_builtin; refine wpList_append_own_at _ rfl _ _ 59 rfl B0 2 i0 (.int .i64 0) 1 8 Tryd.underlying59 hi hz0 hz1 hz2 rfl (by decide) _ _ _ rfl (OV8.out.alloc _) ⟨w8.heap.size, 0, none⟩ 1 1 [.int .i64 c0] rfl ?c0 ?c1 ?c2 ?c3 ?c4 ?c5 ?_)
        case c0 => rfl
        case c1 =>
          intro i u hi
          rw [Go.WideShapes.add_plain, World.cell?_alloc_at _ _ _ _ rfl]
          simpa using hi
        case c2 => intro u hu; simp at hu; rcases hu with rfl <;> rfl
        case c3 => unfold maxLen; omega
        case c4 => omega
        case c5 => simp; omega
        intro vv' w9 ov9 hgrow _ hat
        have OG9 := Lib.hid (own_grown (OG8.out.alloc _) hgrow HSepE.out)
        have OV9 := Lib.hid (show w9.ownsRow B0 2 1 vv' (V ++ [c0]).length (vals (V ++ [c0])) by simpa [vals] using ov9)
        have D9 := Lib.hid ((D8.out.alloc D8.out.size (.cells #[.int .i64 c0] 2)).grown hgrow (by have := D8.out.size; simp; omega) (fun k hk => Nat.le_trans HBW.out (own_ge OV8.out hk)))
        clear ov9 hgrow hat OG8 OV8 D8 hB8 hi hz0 hz1 hz2
        have hsum := Lib.hid (show (G).sum = (V ++ [c0]).sum from HS.out)
        have KS := Lib.hid (asum_own B0 _ (G) w9 OG9.out (by first | omega | (simp; omega)) HGB.out)
        go_wp2_with fail
        refine KS.out.mono ?_
        rintro e v1 ⟨rfl, c1⟩
        have KT := Lib.hid (asum_own B0 _ (V ++ [c0]) v1 (own_later OV9.out c1) (by first | omega | (simp; omega)) HVB.out)
        have E1 := Lib.hid (D9.out.trans (c1.mono D9.out.size))
        rw [hsum.out]
        generalize (V ++ [c0]).sum = tt at *
        clear c1 KS OG9 OV9 D9 hsum
        go_wp2_with fail
        refine KT.out.mono ?_
        rintro e v2 ⟨rfl, c2⟩
        have E2 := Lib.hid (E1.out.trans (c2.mono E1.out.size))
        clear c2 KT E1
        generalize Ar.val tt = vl at *
        generalize Ar.ok tt = ob at *
        cases ob
        all_goals
          go_wp2_with fail
          refine (head_c _ (tab_later HT.out E2.out)).mono ?_
          rintro e v3 ⟨rfl, c3⟩
          go_wp2_with fail
          go_ret
          exact ⟨rfl, E2.out.trans (c3.mono E2.out.size)⟩
      | true =>
        have KN := Lib.hid (show ∀ u, Tab u → Calls Tryd.prog 19 #[.agg #[.int .u64 M.id, .int .u64 M.cu, .int .u64 M.pl, .int .i64 M.c.s, .int .i64 M.c.a, .int .i64 M.c.e, .int .i64 M.p, .int .i64 M.b, .int .i64 M.s, .int .i64 M.e], .int .i64 x, .bool true] u (fun e u' => e = .returned (.tuple #[.agg #[.int .u64 M.id, .int .u64 M.cu, .int .u64 M.pl, .int .i64 M.c.s, .int .i64 M.c.a, .int .i64 M.c.e, .int .i64 M.p, .int .i64 M.b, .int .i64 M.s, .int .i64 x], .agg #[.int .i64 x, .int .i64 nx, .int .i64 (amt q.c m k M.p x nx), .int .i64 0], .int .i64 0]) ∧ Below u.heap.size u u') from fun u hu => by have := HNet.out.can HIN.out u hu; rw [HNX.out] at this; exact this)
        have KC := Lib.hid (show ∀ u, Tab u → Calls Tryd.prog 14 #[.agg #[.int .u64 M.id, .int .u64 M.cu, .int .u64 M.pl, .int .i64 M.c.s, .int .i64 M.c.a, .int .i64 M.c.e, .int .i64 M.p, .int .i64 M.b, .int .i64 M.s, .int .i64 x]] u (fun e u' => e = .returned (.int .i64 0) ∧ Below u.heap.size u u') from fun u hu => check_yes (M.ended x) m u hu (HNet.out.cy ▸ HIN.out) (HNet.out.endok HIN.out))
        have KD := Lib.hid (show ∀ u, Tab u → Calls Tryd.prog 9 #[.agg #[.int .u64 M.id, .int .u64 M.cu, .int .u64 M.pl, .int .i64 M.c.s, .int .i64 M.c.a, .int .i64 M.c.e, .int .i64 M.p, .int .i64 M.b, .int .i64 M.s, .int .i64 x], .int .i64 3652059, .int .i64 1000] u (fun e u' => ∃ ad cap, e = .returned (.tuple #[.slice ad 0 cap, .agg #[.int .u64 M.id, .int .u64 M.cu, .int .u64 M.pl, .int .i64 M.c.s, .int .i64 M.c.a, .int .i64 M.c.e, .int .i64 M.p, .int .i64 M.b, .int .i64 M.s, .int .i64 x], .int .i64 0]) ∧ Below u.heap.size u u') from fun u hu => (HNet.out.none HIN.out u hu).mono fun e u' hr => by
          obtain ⟨ad, cap, he, _, hb⟩ := hr
          exact ⟨ad, cap, he, hb⟩)
        have KO := Lib.hid (show ∀ u, Calls Tryd.prog 22 #[.agg #[.int .u64 M.id, .int .u64 M.cu, .int .u64 M.pl, .int .i64 M.c.s, .int .i64 M.c.a, .int .i64 M.c.e, .int .i64 M.p, .int .i64 M.b, .int .i64 M.s, .int .i64 M.e], .int .i64 nx, .int .i64 M.p, .int .i64 x, .int .i64 x] u (fun e u' => e = .returned (.int .i64 (amt q.c m k M.p x x)) ∧ Below u.heap.size u u') from fun u => by have := HNet.out.on HIN.out (on := x) (by omega) (by rw [HNX.out]; omega) u; rw [HNX.out] at this; exact this)
        have hs := HNet.out.sum
        rw [HNX.out] at hs
        have hi64 := i64_amt (c := q.c) (m := m) (k := k) (a := x) (b := nx) hp0 hp1
        have hbd := amt_bd (c := q.c) (m := m) (k := k) hp0 x nx
        have hz := amt_0 HNet.out.c HIN.out HNet.out.has hp0 hp1 HNet.out.lo (by rw [HNX.out]; omega)
        generalize amt q.c m k M.p x nx = c1 at *
        generalize amt q.c m k M.p x x = c0 at *
        have HGB := Lib.hid (show ∀ y ∈ G ++ [-c1], I64 y from fun y hy => by
          rcases List.mem_append.1 hy with hy | hy
          · exact HNet.out.gb y hy
          · simp only [List.mem_cons, List.not_mem_nil, or_false] at hy
            subst hy
            exact hi64.2)
        have HVB := Lib.hid (show ∀ y ∈ V ++ [c0], I64 y from fun y hy => by
          rcases List.mem_append.1 hy with hy | hy
          · exact HNet.out.wb y hy
          · simp only [List.mem_cons, List.not_mem_nil, or_false] at hy
            subst hy
            unfold I64
            omega)
        have HS := Lib.hid (show (G ++ [-c1]).sum = (V ++ [c0]).sum by simp only [List.sum_append, List.sum_cons, List.sum_nil]; omega)
        have b1 : 0 ≤ c1 := hbd.1
        have b2 : c1 < 4611686018427387904 := by omega
        have g1 : decide (c1 < 0) = false := by simp; omega
        clear hs hi64 hbd hz hp0 hp1 hlo
        have a0 : wr.cell? ⟨G1, 0, Option.none⟩ = some (.int .u64 M.id) := HM.out.cell 0
        have a1 : wr.cell? ⟨G1, 1, Option.none⟩ = some (.int .u64 M.cu) := HM.out.cell 1
        have a2 : wr.cell? ⟨G1, 2, Option.none⟩ = some (.int .u64 M.pl) := HM.out.cell 2
        have a3 : wr.cell? ⟨G1, 3, Option.none⟩ = some (.int .i64 M.c.s) := HM.out.cell 3
        have a4 : wr.cell? ⟨G1, 4, Option.none⟩ = some (.int .i64 M.c.a) := HM.out.cell 4
        have a5 : wr.cell? ⟨G1, 5, Option.none⟩ = some (.int .i64 M.c.e) := HM.out.cell 5
        have a6 : wr.cell? ⟨G1, 6, Option.none⟩ = some (.int .i64 M.p) := HM.out.cell 6
        have a7 : wr.cell? ⟨G1, 7, Option.none⟩ = some (.int .i64 M.b) := HM.out.cell 7
        have a8 : wr.cell? ⟨G1, 8, Option.none⟩ = some (.int .i64 M.s) := HM.out.cell 8
        have a9 : wr.cell? ⟨G1, 9, Option.none⟩ = some (.int .i64 M.e) := HM.out.cell 9
        go_wp2_with fail
        refine (KN.out _ (tab_later HT.out HB.out)).mono ?_
        rintro e u1 ⟨rfl, d1⟩
        have OG1 := Lib.hid (own_later OG.out d1)
        have OV1 := Lib.hid (own_later OV.out d1)
        have M1 := Lib.hid (HM.out.later d1)
        have F1 := Lib.hid (HB.out.trans (d1.mono HB.out.size))
        have hB1 : B0 ≤ u1.heap.size := Nat.le_trans hB0 d1.size
        clear d1 OG OV HM HB KN a0 a1 a2 a3 a4 a5 a6 a7 a8 a9
        go_upto_region 29 with (fail)
        generalize hW2 : World.alloc (World.alloc u1 _) _ = U2
        have P2 := Lib.hid (show Pair u1 (M.ended x) ⟨x, nx, c1, 0⟩ U2 by rw [← hW2]; exact pair_new u1 _ _)
        clear hW2
        have OG2 := Lib.hid (own_later OG1.out P2.out.b)
        have OV2 := Lib.hid (own_later OV1.out P2.out.b)
        have M2 := Lib.hid (M1.out.later P2.out.b)
        have F2 := Lib.hid (F1.out.trans (P2.out.b.mono F1.out.size))
        have hB2 : B0 ≤ U2.heap.size := Nat.le_trans hB1 P2.out.b.size
        obtain ⟨GE, hGE⟩ : ∃ G, u1.heap.size = G := ⟨_, rfl⟩
        have E2 := Lib.hid (hGE ▸ P2.out.a)
        have X2 := Lib.hid (hGE ▸ P2.out.x)
        rw [hGE]
        clear hGE P2 OG1 OV1 M1 F1 hB1
        have a0 : U2.cell? ⟨GE, 0, Option.none⟩ = some (.int .u64 M.id) := E2.out.cell 0
        have a1 : U2.cell? ⟨GE, 1, Option.none⟩ = some (.int .u64 M.cu) := E2.out.cell 1
        have a2 : U2.cell? ⟨GE, 2, Option.none⟩ = some (.int .u64 M.pl) := E2.out.cell 2
        have a3 : U2.cell? ⟨GE, 3, Option.none⟩ = some (.int .i64 M.c.s) := E2.out.cell 3
        have a4 : U2.cell? ⟨GE, 4, Option.none⟩ = some (.int .i64 M.c.a) := E2.out.cell 4
        have a5 : U2.cell? ⟨GE, 5, Option.none⟩ = some (.int .i64 M.c.e) := E2.out.cell 5
        have a6 : U2.cell? ⟨GE, 6, Option.none⟩ = some (.int .i64 M.p) := E2.out.cell 6
        have a7 : U2.cell? ⟨GE, 7, Option.none⟩ = some (.int .i64 M.b) := E2.out.cell 7
        have a8 : U2.cell? ⟨GE, 8, Option.none⟩ = some (.int .i64 M.s) := E2.out.cell 8
        have a9 : U2.cell? ⟨GE, 9, Option.none⟩ = some (.int .i64 x) := E2.out.cell 9
        have x2 : U2.cell? ⟨GE + 1, 2, Option.none⟩ = some (.int .i64 c1) := X2.out.cell 2
        go_wp2_with fail
        refine (KC.out _ (tab_later HT.out F2.out)).mono ?_
        rintro e u3 ⟨rfl, d3⟩
        have OG3 := Lib.hid (own_later OG2.out d3)
        have OV3 := Lib.hid (own_later OV2.out d3)
        have M3 := Lib.hid (M2.out.later d3)
        have E3 := Lib.hid (E2.out.later d3)
        have X3 := Lib.hid (X2.out.later d3)
        have F3 := Lib.hid (F2.out.trans (d3.mono F2.out.size))
        have hB3 : B0 ≤ u3.heap.size := Nat.le_trans hB2 d3.size
        clear d3 OG2 OV2 M2 E2 X2 F2 hB2 KC a0 a1 a2 a3 a4 a5 a6 a7 a8 a9 x2
        have a9 : u3.cell? ⟨GE, 9, Option.none⟩ = some (.int .i64 x) := E3.out.cell 9
        have x2 : u3.cell? ⟨GE + 1, 2, Option.none⟩ = some (.int .i64 c1) := X3.out.cell 2
        obtain ⟨i0, hi, hz0, hz1, hz2⟩ := info_parts infoI
        go_wp2_with (at_builtin; refine wpList_append_own_at _ rfl _ _ 59 rfl B0 2 i0 (.int .i64 0) 1 8 Tryd.underlying59 hi hz0 hz1 hz2 rfl (by decide) _ _ _ rfl (OG3.out.alloc _) ⟨u3.heap.size, 0, none⟩ 1 1 [.int .i64 (-c1)] rfl ?c0 ?c1 ?c2 ?c3 ?c4 ?c5 ?_)
        case c0 => rfl
        case c1 =>
          intro i u hi
          rw [Go.WideShapes.add_plain, World.cell?_alloc_at _ _ _ _ rfl]
          simpa using hi
        case c2 => intro u hu; simp at hu; rcases hu with rfl <;> rfl
        case c3 => unfold maxLen; omega
        case c4 => omega
        case c5 => simp; omega
        intro gv' u4 og4 hgrow _ hat
        have hA : Below u3.heap.size u3 (u3.alloc (.cells #[.int .i64 (-c1)] 2)) := (Below.refl _ _).alloc (Nat.le_refl _) _
        have E4 := Lib.hid (blk_grown (E3.out.later hA) hgrow (OG3.out.alloc _) (by decide))
        have M4 := Lib.hid (blk_grown (M3.out.later hA) hgrow (OG3.out.alloc _) (by decide))
        have OV4 := Lib.hid (own_grown (OV3.out.alloc _) hgrow (fun g h1 h2 => HSep.out g h2 h1))
        have OG4 := Lib.hid (show u4.ownsRow B0 2 1 gv' (G ++ [-c1]).length (vals (G ++ [-c1])) by simpa [vals] using og4)
        have HSepE := Lib.hid (sep_app' (OV3.out.alloc (.cells #[.int .i64 (-c1)] 2)) HSep.out (by simpa using hat))
        have F4 := Lib.hid ((F3.out.alloc F3.out.size (.cells #[.int .i64 (-c1)] 2)).grown hgrow (by have := F3.out.size; simp; omega) (fun k hk => Nat.le_trans HBW.out (own_ge OG3.out hk)))
        have hB4 : B0 ≤ u4.heap.size := Nat.le_trans hB3 (Nat.le_trans (by simp) hgrow.size)
        clear og4 hgrow hat hA E3 X3 M3 OG3 OV3 HSep F3 hB3 hi hz0 hz1 hz2 x2 a9
        have a0 : u4.cell? ⟨GE, 0, Option.none⟩ = some (.int .u64 M.id) := E4.out.cell 0
        have a1 : u4.cell? ⟨GE, 1, Option.none⟩ = some (.int .u64 M.cu) := E4.out.cell 1
        have a2 : u4.cell? ⟨GE, 2, Option.none⟩ = some (.int .u64 M.pl) := E4.out.cell 2
        have a3 : u4.cell? ⟨GE, 3, Option.none⟩ = some (.int .i64 M.c.s) := E4.out.cell 3
        have a4 : u4.cell? ⟨GE, 4, Option.none⟩ = some (.int .i64 M.c.a) := E4.out.cell 4
        have a5 : u4.cell? ⟨GE, 5, Option.none⟩ = some (.int .i64 M.c.e) := E4.out.cell 5
        have a6 : u4.cell? ⟨GE, 6, Option.none⟩ = some (.int .i64 M.p) := E4.out.cell 6
        have a7 : u4.cell? ⟨GE, 7, Option.none⟩ = some (.int .i64 M.b) := E4.out.cell 7
        have a8 : u4.cell? ⟨GE, 8, Option.none⟩ = some (.int .i64 M.s) := E4.out.cell 8
        have a9 : u4.cell? ⟨GE, 9, Option.none⟩ = some (.int .i64 x) := E4.out.cell 9
        go_wp2_with fail
        refine (KD.out _ (tab_later HT.out F4.out)).mono ?_
        rintro e u5 ⟨ad5, cap5, rfl, d5⟩
        have OG5' := Lib.hid (own_later OG4.out d5)
        have OV5' := Lib.hid (own_later OV4.out d5)
        have M5' := Lib.hid (M4.out.later d5)
        have F5 := Lib.hid (F4.out.trans (d5.mono F4.out.size))
        have hB5 : B0 ≤ u5.heap.size := Nat.le_trans hB4 d5.size
        clear d5 OG4 OV4 M4 E4 F4 hB4 KD a0 a1 a2 a3 a4 a5 a6 a7 a8 a9
        go_upto_region 34 with (fail)
        generalize hW6 : World.alloc u5 _ = U6
        have d6 : Below u5.heap.size u5 U6 := by rw [← hW6]; exact below_alloc (Below.refl _ u5) _
        have OG6 := Lib.hid (own_later OG5'.out d6)
        have OV6 := Lib.hid (own_later OV5'.out d6)
        have M6 := Lib.hid (M5'.out.later d6)
        have F6 := Lib.hid (F5.out.trans (d6.mono F5.out.size))
        have hB6 : B0 ≤ U6.heap.size := Nat.le_trans hB5 d6.size
        clear hW6 d6 OG5' OV5' M5' F5 hB5
        have a0 : U6.cell? ⟨G1, 0, Option.none⟩ = some (.int .u64 M.id) := M6.out.cell 0
        have a1 : U6.cell? ⟨G1, 1, Option.none⟩ = some (.int .u64 M.cu) := M6.out.cell 1
        have a2 : U6.cell? ⟨G1, 2, Option.none⟩ = some (.int .u64 M.pl) := M6.out.cell 2
        have a3 : U6.cell? ⟨G1, 3, Option.none⟩ = some (.int .i64 M.c.s) := M6.out.cell 3
        have a4 : U6.cell? ⟨G1, 4, Option.none⟩ = some (.int .i64 M.c.a) := M6.out.cell 4
        have a5 : U6.cell? ⟨G1, 5, Option.none⟩ = some (.int .i64 M.c.e) := M6.out.cell 5
        have a6 : U6.cell? ⟨G1, 6, Option.none⟩ = some (.int .i64 M.p) := M6.out.cell 6
        have a7 : U6.cell? ⟨G1, 7, Option.none⟩ = some (.int .i64 M.b) := M6.out.cell 7
        have a8 : U6.cell? ⟨G1, 8, Option.none⟩ = some (.int .i64 M.s) := M6.out.cell 8
        have a9 : U6.cell? ⟨G1, 9, Option.none⟩ = some (.int .i64 M.e) := M6.out.cell 9
        go_wp2_with fail
        refine (KO.out _).mono ?_
        rintro e w8 ⟨rfl, b8⟩
        have OG8 := Lib.hid (own_later OG6.out b8)
        have OV8 := Lib.hid (own_later OV6.out b8)
        have D8 := Lib.hid (F6.out.trans (b8.mono F6.out.size))
        have hB8 : B0 ≤ w8.heap.size := Nat.le_trans hB6 b8.size
        clear b8 OG6 OV6 M6 F6 KO a0 a1 a2 a3 a4 a5 a6 a7 a8 a9
        obtain ⟨i0, hi, hz0, hz1, hz2⟩ := info_parts infoI
        go_wp2_with (at_builtin; refine wpList_append_own_at _ rfl _ _ 59 rfl B0 2 i0 (.int .i64 0) 1 8 Tryd.underlying59 hi hz0 hz1 hz2 rfl (by decide) _ _ _ rfl (OV8.out.alloc _) ⟨w8.heap.size, 0, none⟩ 1 1 [.int .i64 c0] rfl ?c0 ?c1 ?c2 ?c3 ?c4 ?c5 ?_)
        case c0 => rfl
        case c1 =>
          intro i u hi
          rw [Go.WideShapes.add_plain, World.cell?_alloc_at _ _ _ _ rfl]
          simpa using hi
        case c2 => intro u hu; simp at hu; rcases hu with rfl <;> rfl
        case c3 => unfold maxLen; omega
        case c4 => omega
        case c5 => simp; omega
        intro vv' w9 ov9 hgrow _ hat
        have OG9 := Lib.hid (own_grown (OG8.out.alloc _) hgrow HSepE.out)
        have OV9 := Lib.hid (show w9.ownsRow B0 2 1 vv' (V ++ [c0]).length (vals (V ++ [c0])) by simpa [vals] using ov9)
        have D9 := Lib.hid ((D8.out.alloc D8.out.size (.cells #[.int .i64 c0] 2)).grown hgrow (by have := D8.out.size; simp; omega) (fun k hk => Nat.le_trans HBW.out (own_ge OV8.out hk)))
        clear ov9 hgrow hat OG8 OV8 D8 hB8 hi hz0 hz1 hz2
        have hsum := Lib.hid (show (G ++ [-c1]).sum = (V ++ [c0]).sum from HS.out)
        have KS := Lib.hid (asum_own B0 _ (G ++ [-c1]) w9 OG9.out (by first | omega | (simp; omega)) HGB.out)
        go_wp2_with fail
        refine KS.out.mono ?_
        rintro e v1 ⟨rfl, c1⟩
        have KT := Lib.hid (asum_own B0 _ (V ++ [c0]) v1 (own_later OV9.out c1) (by first | omega | (simp; omega)) HVB.out)
        have E1 := Lib.hid (D9.out.trans (c1.mono D9.out.size))
        rw [hsum.out]
        generalize (V ++ [c0]).sum = tt at *
        clear c1 KS OG9 OV9 D9 hsum
        go_wp2_with fail
        refine KT.out.mono ?_
        rintro e v2 ⟨rfl, c2⟩
        have E2 := Lib.hid (E1.out.trans (c2.mono E1.out.size))
        clear c2 KT E1
        generalize Ar.val tt = vl at *
        generalize Ar.ok tt = ob at *
        cases ob
        all_goals
          go_wp2_with fail
          refine (head_c _ (tab_later HT.out E2.out)).mono ?_
          rintro e v3 ⟨rfl, c3⟩
          go_wp2_with fail
          go_ret
          exact ⟨rfl, E2.out.trans (c3.mono E2.out.size)⟩
theorem net_law (s : Sb) (a : Option Addr) (cap : Nat) (L : List Tu) (en' : Bool) (w : World) (hs : s.Fits) (hw : Tab w) (hL : Tus w a L) (hl : L.length ≤ maxLen) (hf : ∀ x ∈ L, x.Fits) : Calls Tryd.prog 7 #[s.val, .slice a L.length cap, .bool en'] w fun e w' => e = .returned (.bool true) ∧ Below w.heap.size w w' := by
  rcases due_one s.fresh (fresh_fits hs) rfl rfl with h | h | ⟨m, hin, hok, -, b0, -, hnet, hp⟩
  · exact net_no s a _ cap en' w hw h
  · exact net_zero s a _ cap en' w hw h
  · exact net_yes s a cap L en' m w hw hL hl hf hin hok b0 hnet hp
end Go.Proofs.YtjchecjonkmhgaaDoor.Su
