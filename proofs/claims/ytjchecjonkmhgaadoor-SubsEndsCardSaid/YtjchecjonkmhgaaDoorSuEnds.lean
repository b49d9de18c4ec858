/- Package subs: the law of ends. -/
import Derived.Test.YtjchecjonkmhgaaDoorSuLaw1
import Derived.Test.YtjchecjonkmhgaaDoorSuWh0
import Derived.Deep.RegionHeld3
namespace Go.Proofs.YtjchecjonkmhgaaDoor.Su
open Go.RowKit Pr Cw An Rf
set_option maxRecDepth 100000 in
set_option maxHeartbeats 4000000 in
theorem ends_no (s : Sb) (day : Int) (at' : Bool) (z : Int) (w : World) (hw : Tab w) (hz : (z == 0) = false) (hp : ∀ w, Tab w → Calls Tryd.prog 19 #[s.val, .int .i64 day, .bool at'] w (NoRes z w)) : Calls Tryd.prog 8 #[s.val, .int .i64 day, .bool at'] w fun e w' => e = .returned (.bool true) ∧ Below w.heap.size w w' := by
  have KP := Lib.hid (show ∀ w, Tab w → Calls Tryd.prog 19 #[s.val, .int .i64 day, .bool at'] w fun e w' => e = .returned (.tuple #[.agg #[.int .u64 0, .int .u64 0, .int .u64 0, .int .i64 0, .int .i64 0, .int .i64 0, .int .i64 0, .int .i64 0, .int .i64 0, .int .i64 0], .agg #[.int .i64 0, .int .i64 0, .int .i64 0, .int .i64 0], .int .i64 z]) ∧ Below w.heap.size w w' from hp)
  have hz' : (z != 0) = true := by simpa using hz
  have HT := Lib.hid hw
  have D0 := Lib.hid (show Below w.heap.size w (w.alloc (.cells s.cells 26)) from below_alloc (Below.refl _ w) _)
  clear hp hw
  go_enter Tryd.func8, Tryd.ntmps8
  unfold Sb.val Sb.cells
  go_wp2_with fail
  refine (KP.out _ (tab_later HT.out D0.out)).mono ?_
  rintro e w1 ⟨rfl, b1⟩
  have D1 := Lib.hid (D0.out.trans (b1.mono D0.out.size))
  clear b1 D0
  go_upto_region 2 with (fail)
  generalize hW2 : World.alloc (World.alloc w1 _) _ = W2
  have P2 := Lib.hid (show Pair w1 Sb.none Tn.none W2 by rw [← hW2]; exact pair_new w1 Sb.none Tn.none)
  clear hW2
  have D2 := Lib.hid (D1.out.trans (P2.out.b.mono D1.out.size))
  have a0 : W2.cell? ⟨w1.heap.size, 0, Option.none⟩ = some (.int .u64 0) := P2.out.a.cell 0
  have a1 : W2.cell? ⟨w1.heap.size, 1, Option.none⟩ = some (.int .u64 0) := P2.out.a.cell 1
  have a2 : W2.cell? ⟨w1.heap.size, 2, Option.none⟩ = some (.int .u64 0) := P2.out.a.cell 2
  have a3 : W2.cell? ⟨w1.heap.size, 3, Option.none⟩ = some (.int .i64 0) := P2.out.a.cell 3
  have a4 : W2.cell? ⟨w1.heap.size, 4, Option.none⟩ = some (.int .i64 0) := P2.out.a.cell 4
  have a5 : W2.cell? ⟨w1.heap.size, 5, Option.none⟩ = some (.int .i64 0) := P2.out.a.cell 5
  have a6 : W2.cell? ⟨w1.heap.size, 6, Option.none⟩ = some (.int .i64 0) := P2.out.a.cell 6
  have a7 : W2.cell? ⟨w1.heap.size, 7, Option.none⟩ = some (.int .i64 0) := P2.out.a.cell 7
  have a8 : W2.cell? ⟨w1.heap.size, 8, Option.none⟩ = some (.int .i64 0) := P2.out.a.cell 8
  have a9 : W2.cell? ⟨w1.heap.size, 9, Option.none⟩ = some (.int .i64 0) := P2.out.a.cell 9
  have x0 : W2.cell? ⟨w1.heap.size + 1, 0, Option.none⟩ = some (.int .i64 0) := P2.out.x.cell 0
  have x1 : W2.cell? ⟨w1.heap.size + 1, 1, Option.none⟩ = some (.int .i64 0) := P2.out.x.cell 1
  have x2 : W2.cell? ⟨w1.heap.size + 1, 2, Option.none⟩ = some (.int .i64 0) := P2.out.x.cell 2
  have x3 : W2.cell? ⟨w1.heap.size + 1, 3, Option.none⟩ = some (.int .i64 0) := P2.out.x.cell 3
  go_wp2_with fail
  refine (head_c _ (tab_later HT.out D2.out)).mono ?_
  rintro e w5 ⟨rfl, b5⟩
  go_wp2_with fail
  go_ret
  exact ⟨rfl, D2.out.trans (b5.mono D2.out.size)⟩
set_option maxRecDepth 100000 in
set_option maxHeartbeats 8000000 in
theorem ends_tt (s : Sb) (m day E : Int) (x : Tn) (k : Nat) (w : World) (hw : Tab w) (hin : In m s.c.s) (h : s.Ok m) (hd : 1 ≤ day ∧ day ≤ 3652059) (he : EndIs s m day true k E x) (hgt : s.c.s < E)
    (hp : ∀ w, Tab w → Calls Tryd.prog 19 #[s.val, .int .i64 day, .bool true] w (Yes s m day true k w)) : Calls Tryd.prog 8 #[s.val, .int .i64 day, .bool true] w fun e w' => e = .returned (.bool true) ∧ Below w.heap.size w w' := by
  have hok := ended_ok h he.e0 he.e1 he.es
  have hne : (s.ended E).e ≠ 0 := by have := he.e0; show E ≠ 0; omega
  obtain ⟨n, hn⟩ := many_ex (s.ended E) m 3652059 1000 (by decide)
  have hnl := hn.le (by decide) hok.num
  have hxv : x.val = .agg #[.int .i64 x.f, .int .i64 x.n, .int .i64 x.c, .int .i64 0] := by show Value.agg #[.int .i64 x.f, .int .i64 x.n, .int .i64 x.c, .int .i64 x.a] = _; rw [he.a]
  have KP := Lib.hid (show ∀ u, Tab u → Calls Tryd.prog 19 #[s.val, .int .i64 day, .bool true] u (fun e u' => e = .returned (.tuple #[.agg #[.int .u64 s.id, .int .u64 s.cu, .int .u64 s.pl, .int .i64 s.c.s, .int .i64 s.c.a, .int .i64 s.c.e, .int .i64 s.p, .int .i64 s.b, .int .i64 s.s, .int .i64 E], .agg #[.int .i64 x.f, .int .i64 x.n, .int .i64 x.c, .int .i64 0], .int .i64 0]) ∧ Below u.heap.size u u') from fun u hu => (hp u hu).mono fun e u' hr => ⟨by rw [hr.1, he.ce, he.cx, hxv]; rfl, hr.2⟩)
  have KC := Lib.hid (show ∀ u, Tab u → Calls Tryd.prog 14 #[.agg #[.int .u64 s.id, .int .u64 s.cu, .int .u64 s.pl, .int .i64 s.c.s, .int .i64 s.c.a, .int .i64 s.c.e, .int .i64 s.p, .int .i64 s.b, .int .i64 s.s, .int .i64 E]] u (fun e u' => e = .returned (.int .i64 0) ∧ Below u.heap.size u u') from fun u hu => check_yes (s.ended E) m u hu hin hok)
  have KA := Lib.hid (show ∀ u, Tab u → Calls Tryd.prog 19 #[.agg #[.int .u64 s.id, .int .u64 s.cu, .int .u64 s.pl, .int .i64 s.c.s, .int .i64 s.c.a, .int .i64 s.c.e, .int .i64 s.p, .int .i64 s.b, .int .i64 s.s, .int .i64 E], .int .i64 day, .bool true] u (fun e u' => e = .returned (.tuple #[.agg #[.int .u64 0, .int .u64 0, .int .u64 0, .int .i64 0, .int .i64 0, .int .i64 0, .int .i64 0, .int .i64 0, .int .i64 0, .int .i64 0], .agg #[.int .i64 0, .int .i64 0, .int .i64 0, .int .i64 0], .int .i64 9]) ∧ Below u.heap.size u u') from fun u hu => can_e (s.ended E) m day true u hu hin hok hd hne)
  have KO := Lib.hid (show ∀ u, Tab u → Calls Tryd.prog 11 #[.agg #[.int .u64 s.id, .int .u64 s.cu, .int .u64 s.pl, .int .i64 s.c.s, .int .i64 s.c.a, .int .i64 s.c.e, .int .i64 s.p, .int .i64 s.b, .int .i64 s.s, .int .i64 E], .int .i64 E] u (fun e u' => e = .returned (.tuple #[.int .u8 3, .int .i64 0]) ∧ Below u.heap.size u u') from fun u hu => (state_ok (s.ended E) m E u hu hin hok ⟨he.e0, he.e1⟩).mono fun e u' hr => ⟨by rw [hr.1, sta_over he.e0 he.es], hr.2⟩)
  have KG := Lib.hid (show ∀ u, Tab u → Calls Tryd.prog 11 #[.agg #[.int .u64 s.id, .int .u64 s.cu, .int .u64 s.pl, .int .i64 s.c.s, .int .i64 s.c.a, .int .i64 s.c.e, .int .i64 s.p, .int .i64 s.b, .int .i64 s.s, .int .i64 E], .int .i64 (E - 1)] u (fun e u' => e = .returned (.tuple #[.int .u8 2, .int .i64 0]) ∧ Below u.heap.size u u') from fun u hu => (state_ok (s.ended E) m (E - 1) u hu hin hok (by have := h.c.s0; have := he.e1; omega)).mono fun e u' hr => ⟨by rw [hr.1, sta_ending he.e0 hgt], hr.2⟩)
  have KD := Lib.hid (show ∀ u, Tab u → Calls Tryd.prog 9 #[.agg #[.int .u64 s.id, .int .u64 s.cu, .int .u64 s.pl, .int .i64 s.c.s, .int .i64 s.c.a, .int .i64 s.c.e, .int .i64 s.p, .int .i64 s.b, .int .i64 s.s, .int .i64 E], .int .i64 3652059, .int .i64 1000] u (DueOut ((s.ended E).after n) (bills (s.ended E) m n) 0 u) from fun u hu => (due_in (s.ended E) m 3652059 1000 u hu hin hok (by decide) (by decide) (by decide)).mono fun _ _ hr => due_out_yes hn hr)
  have HBL := Lib.hid (show ∀ j (hj : j < (bills (s.ended E) m n).length), (bills (s.ended E) m n)[j].f < E ∧ (bills (s.ended E) m n)[j].n ≤ E from fun j hj => by
    rw [bills_get]
    have hs := not_stop (hn.1 j (by rwa [bills_len] at hj))
    exact ⟨(hs.2.2.1).resolve_left hne, en_le' hne⟩)
  have HLN := Lib.hid (bills_len (s.ended E) m n)
  have q1 : decide (E < day) = false := by have := he.ed; simp; omega
  have q2 : (E != day) = false := by simp [he.at1 rfl]
  have q3 : decide (x.c < 0) = false := by have := he.c0; simp; omega
  have q4 : decide (s.p < x.c) = false := by have := he.c1; simp; omega
  have q5 : decide (s.c.s < E) = true := by simp; omega
  have q6 : IntKind.i64.wrap (E - 1) = E - 1 := IntWalk.i64_in _ (by have := he.e0; have := he.e1; omega)
  have HT := Lib.hid hw
  have D0 := Lib.hid (show Below w.heap.size w (w.alloc (.cells s.cells 26)) from below_alloc (Below.refl _ w) _)
  have S0 := Lib.hid (show Blk (w.alloc (.cells s.cells 26)) w.heap.size s.cells 26 from Blk.new w _ _)
  obtain ⟨L, hL⟩ : ∃ L, bills (s.ended E) m n = L := ⟨_, rfl⟩
  rw [hL] at KD HBL HLN
  obtain ⟨A9, hA9⟩ : ∃ A, (s.ended E).after n = A := ⟨_, rfl⟩
  rw [hA9] at KD
  have hn' : n ≤ 2000 := by have := hnl.2; have := hok.num.b0; omega
  clear hp hw hin h hd he hgt hok hne hn hnl hxv hL hA9
  go_enter Tryd.func8, Tryd.ntmps8
  unfold Sb.val Sb.cells
  go_wp2_with fail
  refine (KP.out _ (tab_later HT.out D0.out)).mono ?_
  rintro e w1 ⟨rfl, b1⟩
  have D1 := Lib.hid (D0.out.trans (b1.mono D0.out.size))
  have S1 := Lib.hid (S0.out.later b1)
  clear b1 D0 S0
  go_upto_region 2 with (fail)
  generalize hW2 : World.alloc (World.alloc w1 _) _ = W2
  have P2 := Lib.hid (show Pair w1 (s.ended E) ⟨x.f, x.n, x.c, 0⟩ W2 by rw [← hW2]; exact pair_new w1 (s.ended E) ⟨x.f, x.n, x.c, 0⟩)
  clear hW2
  have D2 := Lib.hid (D1.out.trans (P2.out.b.mono D1.out.size))
  have S2 := Lib.hid (S1.out.later P2.out.b)
  obtain ⟨G1, hG1⟩ : ∃ G, w1.heap.size = G := ⟨_, rfl⟩
  have A2 := Lib.hid (hG1 ▸ P2.out.a)
  have X2 := Lib.hid (hG1 ▸ P2.out.x)
  rw [hG1]
  clear hG1 P2 D1 S1
  have a0 : W2.cell? ⟨G1, 0, Option.none⟩ = some (.int .u64 s.id) := A2.out.cell 0
  have a1 : W2.cell? ⟨G1, 1, Option.none⟩ = some (.int .u64 s.cu) := A2.out.cell 1
  have a2 : W2.cell? ⟨G1, 2, Option.none⟩ = some (.int .u64 s.pl) := A2.out.cell 2
  have a3 : W2.cell? ⟨G1, 3, Option.none⟩ = some (.int .i64 s.c.s) := A2.out.cell 3
  have a4 : W2.cell? ⟨G1, 4, Option.none⟩ = some (.int .i64 s.c.a) := A2.out.cell 4
  have a5 : W2.cell? ⟨G1, 5, Option.none⟩ = some (.int .i64 s.c.e) := A2.out.cell 5
  have a6 : W2.cell? ⟨G1, 6, Option.none⟩ = some (.int .i64 s.p) := A2.out.cell 6
  have a7 : W2.cell? ⟨G1, 7, Option.none⟩ = some (.int .i64 s.b) := A2.out.cell 7
  have a8 : W2.cell? ⟨G1, 8, Option.none⟩ = some (.int .i64 s.s) := A2.out.cell 8
  have a9 : W2.cell? ⟨G1, 9, Option.none⟩ = some (.int .i64 E) := A2.out.cell 9
  go_wp2_with fail
  refine (KC.out _ (tab_later HT.out D2.out)).mono ?_
  rintro e w3 ⟨rfl, b3⟩
  have D3 := Lib.hid (D2.out.trans (b3.mono D2.out.size))
  have A3 := Lib.hid (A2.out.later b3)
  have s6 : w3.cell? ⟨w.heap.size, 6, Option.none⟩ = some (.int .i64 s.p) := (S2.out.later b3).cell 6
  have x0 : w3.cell? ⟨G1 + 1, 0, Option.none⟩ = some (.int .i64 x.f) := (X2.out.later b3).cell 0
  have x1 : w3.cell? ⟨G1 + 1, 1, Option.none⟩ = some (.int .i64 x.n) := (X2.out.later b3).cell 1
  have x2 : w3.cell? ⟨G1 + 1, 2, Option.none⟩ = some (.int .i64 x.c) := (X2.out.later b3).cell 2
  have x3 : w3.cell? ⟨G1 + 1, 3, Option.none⟩ = some (.int .i64 0) := (X2.out.later b3).cell 3
  clear b3 D2 A2 S2 X2 a0 a1 a2 a3 a4 a5 a6 a7 a8 a9
  have a0 : w3.cell? ⟨G1, 0, Option.none⟩ = some (.int .u64 s.id) := A3.out.cell 0
  have a1 : w3.cell? ⟨G1, 1, Option.none⟩ = some (.int .u64 s.cu) := A3.out.cell 1
  have a2 : w3.cell? ⟨G1, 2, Option.none⟩ = some (.int .u64 s.pl) := A3.out.cell 2
  have a3 : w3.cell? ⟨G1, 3, Option.none⟩ = some (.int .i64 s.c.s) := A3.out.cell 3
  have a4 : w3.cell? ⟨G1, 4, Option.none⟩ = some (.int .i64 s.c.a) := A3.out.cell 4
  have a5 : w3.cell? ⟨G1, 5, Option.none⟩ = some (.int .i64 s.c.e) := A3.out.cell 5
  have a6 : w3.cell? ⟨G1, 6, Option.none⟩ = some (.int .i64 s.p) := A3.out.cell 6
  have a7 : w3.cell? ⟨G1, 7, Option.none⟩ = some (.int .i64 s.b) := A3.out.cell 7
  have a8 : w3.cell? ⟨G1, 8, Option.none⟩ = some (.int .i64 s.s) := A3.out.cell 8
  have a9 : w3.cell? ⟨G1, 9, Option.none⟩ = some (.int .i64 E) := A3.out.cell 9
  go_wp2_with fail
  refine (KA.out _ (tab_later HT.out D3.out)).mono ?_
  rintro e w4 ⟨rfl, b4⟩
  have D4 := Lib.hid (D3.out.trans (b4.mono D3.out.size))
  have A4 := Lib.hid (A3.out.later b4)
  clear b4 D3 A3 s6 x0 x1 x2 x3 a0 a1 a2 a3 a4 a5 a6 a7 a8 a9
  go_upto_region 7 with (fail)
  generalize hW5 : World.alloc (World.alloc w4 _) _ = W5
  have P5 := Lib.hid (show Pair w4 Sb.none Tn.none W5 by rw [← hW5]; exact pair_new w4 Sb.none Tn.none)
  clear hW5
  have D5 := Lib.hid (D4.out.trans (P5.out.b.mono D4.out.size))
  have A5 := Lib.hid (A4.out.later P5.out.b)
  clear P5 D4 A4
  have a0 : W5.cell? ⟨G1, 0, Option.none⟩ = some (.int .u64 s.id) := A5.out.cell 0
  have a1 : W5.cell? ⟨G1, 1, Option.none⟩ = some (.int .u64 s.cu) := A5.out.cell 1
  have a2 : W5.cell? ⟨G1, 2, Option.none⟩ = some (.int .u64 s.pl) := A5.out.cell 2
  have a3 : W5.cell? ⟨G1, 3, Option.none⟩ = some (.int .i64 s.c.s) := A5.out.cell 3
  have a4 : W5.cell? ⟨G1, 4, Option.none⟩ = some (.int .i64 s.c.a) := A5.out.cell 4
  have a5 : W5.cell? ⟨G1, 5, Option.none⟩ = some (.int .i64 s.c.e) := A5.out.cell 5
  have a6 : W5.cell? ⟨G1, 6, Option.none⟩ = some (.int .i64 s.p) := A5.out.cell 6
  have a7 : W5.cell? ⟨G1, 7, Option.none⟩ = some (.int .i64 s.b) := A5.out.cell 7
  have a8 : W5.cell? ⟨G1, 8, Option.none⟩ = some (.int .i64 s.s) := A5.out.cell 8
  have a9 : W5.cell? ⟨G1, 9, Option.none⟩ = some (.int .i64 E) := A5.out.cell 9
  go_wp2_with fail
  refine (KO.out _ (tab_later HT.out D5.out)).mono ?_
  rintro e w6 ⟨rfl, b6⟩
  have D6 := Lib.hid (D5.out.trans (b6.mono D5.out.size))
  have A6 := Lib.hid (A5.out.later b6)
  clear b6 D5 A5 a0 a1 a2 a3 a4 a5 a6 a7 a8 a9
  have a0 : w6.cell? ⟨G1, 0, Option.none⟩ = some (.int .u64 s.id) := A6.out.cell 0
  have a1 : w6.cell? ⟨G1, 1, Option.none⟩ = some (.int .u64 s.cu) := A6.out.cell 1
  have a2 : w6.cell? ⟨G1, 2, Option.none⟩ = some (.int .u64 s.pl) := A6.out.cell 2
  have a3 : w6.cell? ⟨G1, 3, Option.none⟩ = some (.int .i64 s.c.s) := A6.out.cell 3
  have a4 : w6.cell? ⟨G1, 4, Option.none⟩ = some (.int .i64 s.c.a) := A6.out.cell 4
  have a5 : w6.cell? ⟨G1, 5, Option.none⟩ = some (.int .i64 s.c.e) := A6.out.cell 5
  have a6 : w6.cell? ⟨G1, 6, Option.none⟩ = some (.int .i64 s.p) := A6.out.cell 6
  have a7 : w6.cell? ⟨G1, 7, Option.none⟩ = some (.int .i64 s.b) := A6.out.cell 7
  have a8 : w6.cell? ⟨G1, 8, Option.none⟩ = some (.int .i64 s.s) := A6.out.cell 8
  have a9 : w6.cell? ⟨G1, 9, Option.none⟩ = some (.int .i64 E) := A6.out.cell 9
  go_wp2_with fail
  refine (KG.out _ (tab_later HT.out D6.out)).mono ?_
  rintro e w7 ⟨rfl, b7⟩
  have D7 := Lib.hid (D6.out.trans (b7.mono D6.out.size))
  have A7 := Lib.hid (A6.out.later b7)
  clear b7 D6 A6 a0 a1 a2 a3 a4 a5 a6 a7 a8 a9
  have a0 : w7.cell? ⟨G1, 0, Option.none⟩ = some (.int .u64 s.id) := A7.out.cell 0
  have a1 : w7.cell? ⟨G1, 1, Option.none⟩ = some (.int .u64 s.cu) := A7.out.cell 1
  have a2 : w7.cell? ⟨G1, 2, Option.none⟩ = some (.int .u64 s.pl) := A7.out.cell 2
  have a3 : w7.cell? ⟨G1, 3, Option.none⟩ = some (.int .i64 s.c.s) := A7.out.cell 3
  have a4 : w7.cell? ⟨G1, 4, Option.none⟩ = some (.int .i64 s.c.a) := A7.out.cell 4
  have a5 : w7.cell? ⟨G1, 5, Option.none⟩ = some (.int .i64 s.c.e) := A7.out.cell 5
  have a6 : w7.cell? ⟨G1, 6, Option.none⟩ = some (.int .i64 s.p) := A7.out.cell 6
  have a7 : w7.cell? ⟨G1, 7, Option.none⟩ = some (.int .i64 s.b) := A7.out.cell 7
  have a8 : w7.cell? ⟨G1, 8, Option.none⟩ = some (.int .i64 s.s) := A7.out.cell 8
  have a9 : w7.cell? ⟨G1, 9, Option.none⟩ = some (.int .i64 E) := A7.out.cell 9
  go_wp2_with fail
  refine (KD.out _ (tab_later HT.out D7.out)).mono ?_
  rintro e w8 ⟨ad, cap, rfl, r8, b8⟩
  have D8 := Lib.hid (D7.out.trans (b8.mono D7.out.size))
  have A8 := Lib.hid (A7.out.later b8)
  rw [HLN.out]
  have R8 := Lib.hid r8
  clear b8 r8 D7 A7 a0 a1 a2 a3 a4 a5 a6 a7 a8 a9
  go_upto_region 15 with (fail)
  generalize hW9 : World.alloc w8 _ = W9
  have b9 : Below w8.heap.size w8 W9 := by rw [← hW9]; exact below_alloc (Below.refl _ w8) _
  have D9 := Lib.hid (D8.out.trans (b9.mono D8.out.size))
  have A9 := Lib.hid (A8.out.later b9)
  have R9 := Lib.hid (R8.out.later b9)
  clear hW9 b9 D8 A8 R8
  go_wp2_with fail
  go_loopw [20] (fun i wr => ∃ k : Nat, k ≤ n ∧ i = .int .i64 k ∧ Below W9.heap.size W9 wr) (fun i _ => n - (intOf i).toNat)
  case atStart => exact ⟨0, by omega, rfl, Below.refl _ _⟩
  case round =>
    obtain ⟨j, hj, rfl, hB⟩ := hrel
    by_cases hlt : j < n
    · have hjl : j < L.length := by rw [HLN.out]; exact hlt
      obtain ⟨g, rfl, hg, c0, c1, c2, c3⟩ := (R9.out.later hB) j hjl
      have hbl := HBL.out j hjl
      generalize L[j].f = e1 at *
      generalize L[j].n = e2 at *
      have p1 : decide (E ≤ e1) = false := by simp; omega
      have p2 : decide (E < e2) = false := by simp; omega
      have a9 : wr.cell? ⟨G1, 9, Option.none⟩ = some (.int .i64 E) := (A9.out.later hB).cell 9
      clear c0 c3 hbl
      have HBB := Lib.hid hB
      clear hB
      go_wp2_with fail
      go_region
      go_wp2_with fail
      go_roundw
      case rel => exact ⟨j + 1, by omega, by go_num, HBB.out.drew⟩
      case measure => simp [intOf]; omega
    · obtain rfl : j = n := by omega
      have D10 := Lib.hid (D9.out.trans (hB.mono D9.out.size))
      go_wp2_with fail
      refine (head_c _ (tab_later HT.out D10.out)).mono ?_
      rintro e w11 ⟨rfl, b11⟩
      go_wp2_with fail
      go_ret
      exact ⟨rfl, D10.out.trans (b11.mono D10.out.size)⟩
set_option maxRecDepth 100000 in
set_option maxHeartbeats 8000000 in
theorem ends_tf (s : Sb) (m day E : Int) (x : Tn) (k : Nat) (w : World) (hw : Tab w) (hin : In m s.c.s) (h : s.Ok m) (hd : 1 ≤ day ∧ day ≤ 3652059) (he : EndIs s m day true k E x) (hgt : ¬ s.c.s < E)
    (hp : ∀ w, Tab w → Calls Tryd.prog 19 #[s.val, .int .i64 day, .bool true] w (Yes s m day true k w)) : Calls Tryd.prog 8 #[s.val, .int .i64 day, .bool true] w fun e w' => e = .returned (.bool true) ∧ Below w.heap.size w w' := by
  have hok := ended_ok h he.e0 he.e1 he.es
  have hne : (s.ended E).e ≠ 0 := by have := he.e0; show E ≠ 0; omega
  obtain ⟨n, hn⟩ := many_ex (s.ended E) m 3652059 1000 (by decide)
  have hnl := hn.le (by decide) hok.num
  have hxv : x.val = .agg #[.int .i64 x.f, .int .i64 x.n, .int .i64 x.c, .int .i64 0] := by show Value.agg #[.int .i64 x.f, .int .i64 x.n, .int .i64 x.c, .int .i64 x.a] = _; rw [he.a]
  have KP := Lib.hid (show ∀ u, Tab u → Calls Tryd.prog 19 #[s.val, .int .i64 day, .bool true] u (fun e u' => e = .returned (.tuple #[.agg #[.int .u64 s.id, .int .u64 s.cu, .int .u64 s.pl, .int .i64 s.c.s, .int .i64 s.c.a, .int .i64 s.c.e, .int .i64 s.p, .int .i64 s.b, .int .i64 s.s, .int .i64 E], .agg #[.int .i64 x.f, .int .i64 x.n, .int .i64 x.c, .int .i64 0], .int .i64 0]) ∧ Below u.heap.size u u') from fun u hu => (hp u hu).mono fun e u' hr => ⟨by rw [hr.1, he.ce, he.cx, hxv]; rfl, hr.2⟩)
  have KC := Lib.hid (show ∀ u, Tab u → Calls Tryd.prog 14 #[.agg #[.int .u64 s.id, .int .u64 s.cu, .int .u64 s.pl, .int .i64 s.c.s, .int .i64 s.c.a, .int .i64 s.c.e, .int .i64 s.p, .int .i64 s.b, .int .i64 s.s, .int .i64 E]] u (fun e u' => e = .returned (.int .i64 0) ∧ Below u.heap.size u u') from fun u hu => check_yes (s.ended E) m u hu hin hok)
  have KA := Lib.hid (show ∀ u, Tab u → Calls Tryd.prog 19 #[.agg #[.int .u64 s.id, .int .u64 s.cu, .int .u64 s.pl, .int .i64 s.c.s, .int .i64 s.c.a, .int .i64 s.c.e, .int .i64 s.p, .int .i64 s.b, .int .i64 s.s, .int .i64 E], .int .i64 day, .bool true] u (fun e u' => e = .returned (.tuple #[.agg #[.int .u64 0, .int .u64 0, .int .u64 0, .int .i64 0, .int .i64 0, .int .i64 0, .int .i64 0, .int .i64 0, .int .i64 0, .int .i64 0], .agg #[.int .i64 0, .int .i64 0, .int .i64 0, .int .i64 0], .int .i64 9]) ∧ Below u.heap.size u u') from fun u hu => can_e (s.ended E) m day true u hu hin hok hd hne)
  have KO := Lib.hid (show ∀ u, Tab u → Calls Tryd.prog 11 #[.agg #[.int .u64 s.id, .int .u64 s.cu, .int .u64 s.pl, .int .i64 s.c.s, .int .i64 s.c.a, .int .i64 s.c.e, .int .i64 s.p, .int .i64 s.b, .int .i64 s.s, .int .i64 E], .int .i64 E] u (fun e u' => e = .returned (.tuple #[.int .u8 3, .int .i64 0]) ∧ Below u.heap.size u u') from fun u hu => (state_ok (s.ended E) m E u hu hin hok ⟨he.e0, he.e1⟩).mono fun e u' hr => ⟨by rw [hr.1, sta_over he.e0 he.es], hr.2⟩)
  have KD := Lib.hid (show ∀ u, Tab u → Calls Tryd.prog 9 #[.agg #[.int .u64 s.id, .int .u64 s.cu, .int .u64 s.pl, .int .i64 s.c.s, .int .i64 s.c.a, .int .i64 s.c.e, .int .i64 s.p, .int .i64 s.b, .int .i64 s.s, .int .i64 E], .int .i64 3652059, .int .i64 1000] u (DueOut ((s.ended E).after n) (bills (s.ended E) m n) 0 u) from fun u hu => (due_in (s.ended E) m 3652059 1000 u hu hin hok (by decide) (by decide) (by decide)).mono fun _ _ hr => due_out_yes hn hr)
  have HBL := Lib.hid (show ∀ j (hj : j < (bills (s.ended E) m n).length), (bills (s.ended E) m n)[j].f < E ∧ (bills (s.ended E) m n)[j].n ≤ E from fun j hj => by
    rw [bills_get]
    have hs := not_stop (hn.1 j (by rwa [bills_len] at hj))
    exact ⟨(hs.2.2.1).resolve_left hne, en_le' hne⟩)
  have HLN := Lib.hid (bills_len (s.ended E) m n)
  have q1 : decide (E < day) = false := by have := he.ed; simp; omega
  have q2 : (E != day) = false := by simp [he.at1 rfl]
  have q3 : decide (x.c < 0) = false := by have := he.c0; simp; omega
  have q4 : decide (s.p < x.c) = false := by have := he.c1; simp; omega
  have q5 : decide (s.c.s < E) = false := by simp; omega
  have q6 : IntKind.i64.wrap (E - 1) = E - 1 := IntWalk.i64_in _ (by have := he.e0; have := he.e1; omega)
  have HT := Lib.hid hw
  have D0 := Lib.hid (show Below w.heap.size w (w.alloc (.cells s.cells 26)) from below_alloc (Below.refl _ w) _)
  have S0 := Lib.hid (show Blk (w.alloc (.cells s.cells 26)) w.heap.size s.cells 26 from Blk.new w _ _)
  obtain ⟨L, hL⟩ : ∃ L, bills (s.ended E) m n = L := ⟨_, rfl⟩
  rw [hL] at KD HBL HLN
  obtain ⟨A9, hA9⟩ : ∃ A, (s.ended E).after n = A := ⟨_, rfl⟩
  rw [hA9] at KD
  have hn' : n ≤ 2000 := by have := hnl.2; have := hok.num.b0; omega
  clear hp hw hin h hd he hgt hok hne hn hnl hxv hL hA9
  go_enter Tryd.func8, Tryd.ntmps8
  unfold Sb.val Sb.cells
  go_wp2_with fail
  refine (KP.out _ (tab_later HT.out D0.out)).mono ?_
  rintro e w1 ⟨rfl, b1⟩
  have D1 := Lib.hid (D0.out.trans (b1.mono D0.out.size))
  have S1 := Lib.hid (S0.out.later b1)
  clear b1 D0 S0
  go_upto_region 2 with (fail)
  generalize hW2 : World.alloc (World.alloc w1 _) _ = W2
  have P2 := Lib.hid (show Pair w1 (s.ended E) ⟨x.f, x.n, x.c, 0⟩ W2 by rw [← hW2]; exact pair_new w1 (s.ended E) ⟨x.f, x.n, x.c, 0⟩)
  clear hW2
  have D2 := Lib.hid (D1.out.trans (P2.out.b.mono D1.out.size))
  have S2 := Lib.hid (S1.out.later P2.out.b)
  obtain ⟨G1, hG1⟩ : ∃ G, w1.heap.size = G := ⟨_, rfl⟩
  have A2 := Lib.hid (hG1 ▸ P2.out.a)
  have X2 := Lib.hid (hG1 ▸ P2.out.x)
  rw [hG1]
  clear hG1 P2 D1 S1
  have a0 : W2.cell? ⟨G1, 0, Option.none⟩ = some (.int .u64 s.id) := A2.out.cell 0
  have a1 : W2.cell? ⟨G1, 1, Option.none⟩ = some (.int .u64 s.cu) := A2.out.cell 1
  have a2 : W2.cell? ⟨G1, 2, Option.none⟩ = some (.int .u64 s.pl) := A2.out.cell 2
  have a3 : W2.cell? ⟨G1, 3, Option.none⟩ = some (.int .i64 s.c.s) := A2.out.cell 3
  have a4 : W2.cell? ⟨G1, 4, Option.none⟩ = some (.int .i64 s.c.a) := A2.out.cell 4
  have a5 : W2.cell? ⟨G1, 5, Option.none⟩ = some (.int .i64 s.c.e) := A2.out.cell 5
  have a6 : W2.cell? ⟨G1, 6, Option.none⟩ = some (.int .i64 s.p) := A2.out.cell 6
  have a7 : W2.cell? ⟨G1, 7, Option.none⟩ = some (.int .i64 s.b) := A2.out.cell 7
  have a8 : W2.cell? ⟨G1, 8, Option.none⟩ = some (.int .i64 s.s) := A2.out.cell 8
  have a9 : W2.cell? ⟨G1, 9, Option.none⟩ = some (.int .i64 E) := A2.out.cell 9
  go_wp2_with fail
  refine (KC.out _ (tab_later HT.out D2.out)).mono ?_
  rintro e w3 ⟨rfl, b3⟩
  have D3 := Lib.hid (D2.out.trans (b3.mono D2.out.size))
  have A3 := Lib.hid (A2.out.later b3)
  have s6 : w3.cell? ⟨w.heap.size, 6, Option.none⟩ = some (.int .i64 s.p) := (S2.out.later b3).cell 6
  have x0 : w3.cell? ⟨G1 + 1, 0, Option.none⟩ = some (.int .i64 x.f) := (X2.out.later b3).cell 0
  have x1 : w3.cell? ⟨G1 + 1, 1, Option.none⟩ = some (.int .i64 x.n) := (X2.out.later b3).cell 1
  have x2 : w3.cell? ⟨G1 + 1, 2, Option.none⟩ = some (.int .i64 x.c) := (X2.out.later b3).cell 2
  have x3 : w3.cell? ⟨G1 + 1, 3, Option.none⟩ = some (.int .i64 0) := (X2.out.later b3).cell 3
  clear b3 D2 A2 S2 X2 a0 a1 a2 a3 a4 a5 a6 a7 a8 a9
  have a0 : w3.cell? ⟨G1, 0, Option.none⟩ = some (.int .u64 s.id) := A3.out.cell 0
  have a1 : w3.cell? ⟨G1, 1, Option.none⟩ = some (.int .u64 s.cu) := A3.out.cell 1
  have a2 : w3.cell? ⟨G1, 2, Option.none⟩ = some (.int .u64 s.pl) := A3.out.cell 2
  have a3 : w3.cell? ⟨G1, 3, Option.none⟩ = some (.int .i64 s.c.s) := A3.out.cell 3
  have a4 : w3.cell? ⟨G1, 4, Option.none⟩ = some (.int .i64 s.c.a) := A3.out.cell 4
  have a5 : w3.cell? ⟨G1, 5, Option.none⟩ = some (.int .i64 s.c.e) := A3.out.cell 5
  have a6 : w3.cell? ⟨G1, 6, Option.none⟩ = some (.int .i64 s.p) := A3.out.cell 6
  have a7 : w3.cell? ⟨G1, 7, Option.none⟩ = some (.int .i64 s.b) := A3.out.cell 7
  have a8 : w3.cell? ⟨G1, 8, Option.none⟩ = some (.int .i64 s.s) := A3.out.cell 8
  have a9 : w3.cell? ⟨G1, 9, Option.none⟩ = some (.int .i64 E) := A3.out.cell 9
  go_wp2_with fail
  refine (KA.out _ (tab_later HT.out D3.out)).mono ?_
  rintro e w4 ⟨rfl, b4⟩
  have D4 := Lib.hid (D3.out.trans (b4.mono D3.out.size))
  have A4 := Lib.hid (A3.out.later b4)
  clear b4 D3 A3 s6 x0 x1 x2 x3 a0 a1 a2 a3 a4 a5 a6 a7 a8 a9
  go_upto_region 7 with (fail)
  generalize hW5 : World.alloc (World.alloc w4 _) _ = W5
  have P5 := Lib.hid (show Pair w4 Sb.none Tn.none W5 by rw [← hW5]; exact pair_new w4 Sb.none Tn.none)
  clear hW5
  have D5 := Lib.hid (D4.out.trans (P5.out.b.mono D4.out.size))
  have A5 := Lib.hid (A4.out.later P5.out.b)
  clear P5 D4 A4
  have a0 : W5.cell? ⟨G1, 0, Option.none⟩ = some (.int .u64 s.id) := A5.out.cell 0
  have a1 : W5.cell? ⟨G1, 1, Option.none⟩ = some (.int .u64 s.cu) := A5.out.cell 1
  have a2 : W5.cell? ⟨G1, 2, Option.none⟩ = some (.int .u64 s.pl) := A5.out.cell 2
  have a3 : W5.cell? ⟨G1, 3, Option.none⟩ = some (.int .i64 s.c.s) := A5.out.cell 3
  have a4 : W5.cell? ⟨G1, 4, Option.none⟩ = some (.int .i64 s.c.a) := A5.out.cell 4
  have a5 : W5.cell? ⟨G1, 5, Option.none⟩ = some (.int .i64 s.c.e) := A5.out.cell 5
  have a6 : W5.cell? ⟨G1, 6, Option.none⟩ = some (.int .i64 s.p) := A5.out.cell 6
  have a7 : W5.cell? ⟨G1, 7, Option.none⟩ = some (.int .i64 s.b) := A5.out.cell 7
  have a8 : W5.cell? ⟨G1, 8, Option.none⟩ = some (.int .i64 s.s) := A5.out.cell 8
  have a9 : W5.cell? ⟨G1, 9, Option.none⟩ = some (.int .i64 E) := A5.out.cell 9
  go_wp2_with fail
  refine (KO.out _ (tab_later HT.out D5.out)).mono ?_
  rintro e w6 ⟨rfl, b6⟩
  have D6 := Lib.hid (D5.out.trans (b6.mono D5.out.size))
  have A6 := Lib.hid (A5.out.later b6)
  clear b6 D5 A5 a0 a1 a2 a3 a4 a5 a6 a7 a8 a9
  have a0 : w6.cell? ⟨G1, 0, Option.none⟩ = some (.int .u64 s.id) := A6.out.cell 0
  have a1 : w6.cell? ⟨G1, 1, Option.none⟩ = some (.int .u64 s.cu) := A6.out.cell 1
  have a2 : w6.cell? ⟨G1, 2, Option.none⟩ = some (.int .u64 s.pl) := A6.out.cell 2
  have a3 : w6.cell? ⟨G1, 3, Option.none⟩ = some (.int .i64 s.c.s) := A6.out.cell 3
  have a4 : w6.cell? ⟨G1, 4, Option.none⟩ = some (.int .i64 s.c.a) := A6.out.cell 4
  have a5 : w6.cell? ⟨G1, 5, Option.none⟩ = some (.int .i64 s.c.e) := A6.out.cell 5
  have a6 : w6.cell? ⟨G1, 6, Option.none⟩ = some (.int .i64 s.p) := A6.out.cell 6
  have a7 : w6.cell? ⟨G1, 7, Option.none⟩ = some (.int .i64 s.b) := A6.out.cell 7
  have a8 : w6.cell? ⟨G1, 8, Option.none⟩ = some (.int .i64 s.s) := A6.out.cell 8
  have a9 : w6.cell? ⟨G1, 9, Option.none⟩ = some (.int .i64 E) := A6.out.cell 9
  go_wp2_with fail
  refine (KD.out _ (tab_later HT.out D6.out)).mono ?_
  rintro e w8 ⟨ad, cap, rfl, r8, b8⟩
  have D8 := Lib.hid (D6.out.trans (b8.mono D6.out.size))
  have A8 := Lib.hid (A6.out.later b8)
  rw [HLN.out]
  have R8 := Lib.hid r8
  clear b8 r8 D6 A6 a0 a1 a2 a3 a4 a5 a6 a7 a8 a9
  go_upto_region 15 with (fail)
  generalize hW9 : World.alloc w8 _ = W9
  have b9 : Below w8.heap.size w8 W9 := by rw [← hW9]; exact below_alloc (Below.refl _ w8) _
  have D9 := Lib.hid (D8.out.trans (b9.mono D8.out.size))
  have A9 := Lib.hid (A8.out.later b9)
  have R9 := Lib.hid (R8.out.later b9)
  clear hW9 b9 D8 A8 R8
  go_wp2_with fail
  go_loopw [20] (fun i wr => ∃ k : Nat, k ≤ n ∧ i = .int .i64 k ∧ Below W9.heap.size W9 wr) (fun i _ => n - (intOf i).toNat)
  case atStart => exact ⟨0, by omega, rfl, Below.refl _ _⟩
  case round =>
    obtain ⟨j, hj, rfl, hB⟩ := hrel
    by_cases hlt : j < n
    · have hjl : j < L.length := by rw [HLN.out]; exact hlt
      obtain ⟨g, rfl, hg, c0, c1, c2, c3⟩ := (R9.out.later hB) j hjl
      have hbl := HBL.out j hjl
      generalize L[j].f = e1 at *
      generalize L[j].n = e2 at *
      have p1 : decide (E ≤ e1) = false := by simp; omega
      have p2 : decide (E < e2) = false := by simp; omega
      have a9 : wr.cell? ⟨G1, 9, Option.none⟩ = some (.int .i64 E) := (A9.out.later hB).cell 9
      clear c0 c3 hbl
      have HBB := Lib.hid hB
      clear hB
      go_wp2_with fail
      go_region
      go_wp2_with fail
      go_roundw
      case rel => exact ⟨j + 1, by omega, by go_num, HBB.out.drew⟩
      case measure => simp [intOf]; omega
    · obtain rfl : j = n := by omega
      have D10 := Lib.hid (D9.out.trans (hB.mono D9.out.size))
      go_wp2_with fail
      refine (head_c _ (tab_later HT.out D10.out)).mono ?_
      rintro e w11 ⟨rfl, b11⟩
      go_wp2_with fail
      go_ret
      exact ⟨rfl, D10.out.trans (b11.mono D10.out.size)⟩
set_option maxRecDepth 100000 in
set_option maxHeartbeats 8000000 in
theorem ends_ft (s : Sb) (m day E : Int) (x : Tn) (k : Nat) (w : World) (hw : Tab w) (hin : In m s.c.s) (h : s.Ok m) (hd : 1 ≤ day ∧ day ≤ 3652059) (he : EndIs s m day false k E x) (hgt : s.c.s < E)
    (hp : ∀ w, Tab w → Calls Tryd.prog 19 #[s.val, .int .i64 day, .bool false] w (Yes s m day false k w)) : Calls Tryd.prog 8 #[s.val, .int .i64 day, .bool false] w fun e w' => e = .returned (.bool true) ∧ Below w.heap.size w w' := by
  have hok := ended_ok h he.e0 he.e1 he.es
  have hne : (s.ended E).e ≠ 0 := by have := he.e0; show E ≠ 0; omega
  obtain ⟨n, hn⟩ := many_ex (s.ended E) m 3652059 1000 (by decide)
  have hnl := hn.le (by decide) hok.num
  have hxv : x.val = .agg #[.int .i64 0, .int .i64 0, .int .i64 0, .int .i64 0] := by rw [(he.at0 rfl).2]; rfl
  have KP := Lib.hid (show ∀ u, Tab u → Calls Tryd.prog 19 #[s.val, .int .i64 day, .bool false] u (fun e u' => e = .returned (.tuple #[.agg #[.int .u64 s.id, .int .u64 s.cu, .int .u64 s.pl, .int .i64 s.c.s, .int .i64 s.c.a, .int .i64 s.c.e, .int .i64 s.p, .int .i64 s.b, .int .i64 s.s, .int .i64 E], .agg #[.int .i64 0, .int .i64 0, .int .i64 0, .int .i64 0], .int .i64 0]) ∧ Below u.heap.size u u') from fun u hu => (hp u hu).mono fun e u' hr => ⟨by rw [hr.1, he.ce, he.cx, hxv]; rfl, hr.2⟩)
  have KC := Lib.hid (show ∀ u, Tab u → Calls Tryd.prog 14 #[.agg #[.int .u64 s.id, .int .u64 s.cu, .int .u64 s.pl, .int .i64 s.c.s, .int .i64 s.c.a, .int .i64 s.c.e, .int .i64 s.p, .int .i64 s.b, .int .i64 s.s, .int .i64 E]] u (fun e u' => e = .returned (.int .i64 0) ∧ Below u.heap.size u u') from fun u hu => check_yes (s.ended E) m u hu hin hok)
  have KA := Lib.hid (show ∀ u, Tab u → Calls Tryd.prog 19 #[.agg #[.int .u64 s.id, .int .u64 s.cu, .int .u64 s.pl, .int .i64 s.c.s, .int .i64 s.c.a, .int .i64 s.c.e, .int .i64 s.p, .int .i64 s.b, .int .i64 s.s, .int .i64 E], .int .i64 day, .bool false] u (fun e u' => e = .returned (.tuple #[.agg #[.int .u64 0, .int .u64 0, .int .u64 0, .int .i64 0, .int .i64 0, .int .i64 0, .int .i64 0, .int .i64 0, .int .i64 0, .int .i64 0], .agg #[.int .i64 0, .int .i64 0, .int .i64 0, .int .i64 0], .int .i64 9]) ∧ Below u.heap.size u u') from fun u hu => can_e (s.ended E) m day false u hu hin hok hd hne)
  have KO := Lib.hid (show ∀ u, Tab u → Calls Tryd.prog 11 #[.agg #[.int .u64 s.id, .int .u64 s.cu, .int .u64 s.pl, .int .i64 s.c.s, .int .i64 s.c.a, .int .i64 s.c.e, .int .i64 s.p, .int .i64 s.b, .int .i64 s.s, .int .i64 E], .int .i64 E] u (fun e u' => e = .returned (.tuple #[.int .u8 3, .int .i64 0]) ∧ Below u.heap.size u u') from fun u hu => (state_ok (s.ended E) m E u hu hin hok ⟨he.e0, he.e1⟩).mono fun e u' hr => ⟨by rw [hr.1, sta_over he.e0 he.es], hr.2⟩)
  have KG := Lib.hid (show ∀ u, Tab u → Calls Tryd.prog 11 #[.agg #[.int .u64 s.id, .int .u64 s.cu, .int .u64 s.pl, .int .i64 s.c.s, .int .i64 s.c.a, .int .i64 s.c.e, .int .i64 s.p, .int .i64 s.b, .int .i64 s.s, .int .i64 E], .int .i64 (E - 1)] u (fun e u' => e = .returned (.tuple #[.int .u8 2, .int .i64 0]) ∧ Below u.heap.size u u') from fun u hu => (state_ok (s.ended E) m (E - 1) u hu hin hok (by have := h.c.s0; have := he.e1; omega)).mono fun e u' hr => ⟨by rw [hr.1, sta_ending he.e0 hgt], hr.2⟩)
  have KD := Lib.hid (show ∀ u, Tab u → Calls Tryd.prog 9 #[.agg #[.int .u64 s.id, .int .u64 s.cu, .int .u64 s.pl, .int .i64 s.c.s, .int .i64 s.c.a, .int .i64 s.c.e, .int .i64 s.p, .int .i64 s.b, .int .i64 s.s, .int .i64 E], .int .i64 3652059, .int .i64 1000] u (DueOut ((s.ended E).after n) (bills (s.ended E) m n) 0 u) from fun u hu => (due_in (s.ended E) m 3652059 1000 u hu hin hok (by decide) (by decide) (by decide)).mono fun _ _ hr => due_out_yes hn hr)
  have HBL := Lib.hid (show ∀ j (hj : j < (bills (s.ended E) m n).length), (bills (s.ended E) m n)[j].f < E ∧ (bills (s.ended E) m n)[j].n ≤ E from fun j hj => by
    rw [bills_get]
    have hs := not_stop (hn.1 j (by rwa [bills_len] at hj))
    exact ⟨(hs.2.2.1).resolve_left hne, en_le' hne⟩)
  have HLN := Lib.hid (bills_len (s.ended E) m n)
  have q1 : decide (E < day) = false := by have := he.ed; simp; omega
  have q2 : decide (E ≤ day) = false := by have := (he.at0 rfl).1; simp; omega
  have q4 : decide (s.p < 0) = false := by have := h.num.p0; simp; omega
  have q5 : decide (s.c.s < E) = true := by simp; omega
  have q6 : IntKind.i64.wrap (E - 1) = E - 1 := IntWalk.i64_in _ (by have := he.e0; have := he.e1; omega)
  have HT := Lib.hid hw
  have D0 := Lib.hid (show Below w.heap.size w (w.alloc (.cells s.cells 26)) from below_alloc (Below.refl _ w) _)
  have S0 := Lib.hid (show Blk (w.alloc (.cells s.cells 26)) w.heap.size s.cells 26 from Blk.new w _ _)
  obtain ⟨L, hL⟩ : ∃ L, bills (s.ended E) m n = L := ⟨_, rfl⟩
  rw [hL] at KD HBL HLN
  obtain ⟨A9, hA9⟩ : ∃ A, (s.ended E).after n = A := ⟨_, rfl⟩
  rw [hA9] at KD
  have hn' : n ≤ 2000 := by have := hnl.2; have := hok.num.b0; omega
  clear hp hw hin h hd he hgt hok hne hn hnl hxv hL hA9
  go_enter Tryd.func8, Tryd.ntmps8
  unfold Sb.val Sb.cells
  go_wp2_with fail
  refine (KP.out _ (tab_later HT.out D0.out)).mono ?_
  rintro e w1 ⟨rfl, b1⟩
  have D1 := Lib.hid (D0.out.trans (b1.mono D0.out.size))
  have S1 := Lib.hid (S0.out.later b1)
  clear b1 D0 S0
  go_upto_region 2 with (fail)
  generalize hW2 : World.alloc (World.alloc w1 _) _ = W2
  have P2 := Lib.hid (show Pair w1 (s.ended E) ⟨0, 0, 0, 0⟩ W2 by rw [← hW2]; exact pair_new w1 (s.ended E) ⟨0, 0, 0, 0⟩)
  clear hW2
  have D2 := Lib.hid (D1.out.trans (P2.out.b.mono D1.out.size))
  have S2 := Lib.hid (S1.out.later P2.out.b)
  obtain ⟨G1, hG1⟩ : ∃ G, w1.heap.size = G := ⟨_, rfl⟩
  have A2 := Lib.hid (hG1 ▸ P2.out.a)
  have X2 := Lib.hid (hG1 ▸ P2.out.x)
  rw [hG1]
  clear hG1 P2 D1 S1
  have a0 : W2.cell? ⟨G1, 0, Option.none⟩ = some (.int .u64 s.id) := A2.out.cell 0
  have a1 : W2.cell? ⟨G1, 1, Option.none⟩ = some (.int .u64 s.cu) := A2.out.cell 1
  have a2 : W2.cell? ⟨G1, 2, Option.none⟩ = some (.int .u64 s.pl) := A2.out.cell 2
  have a3 : W2.cell? ⟨G1, 3, Option.none⟩ = some (.int .i64 s.c.s) := A2.out.cell 3
  have a4 : W2.cell? ⟨G1, 4, Option.none⟩ = some (.int .i64 s.c.a) := A2.out.cell 4
  have a5 : W2.cell? ⟨G1, 5, Option.none⟩ = some (.int .i64 s.c.e) := A2.out.cell 5
  have a6 : W2.cell? ⟨G1, 6, Option.none⟩ = some (.int .i64 s.p) := A2.out.cell 6
  have a7 : W2.cell? ⟨G1, 7, Option.none⟩ = some (.int .i64 s.b) := A2.out.cell 7
  have a8 : W2.cell? ⟨G1, 8, Option.none⟩ = some (.int .i64 s.s) := A2.out.cell 8
  have a9 : W2.cell? ⟨G1, 9, Option.none⟩ = some (.int .i64 E) := A2.out.cell 9
  go_wp2_with fail
  refine (KC.out _ (tab_later HT.out D2.out)).mono ?_
  rintro e w3 ⟨rfl, b3⟩
  have D3 := Lib.hid (D2.out.trans (b3.mono D2.out.size))
  have A3 := Lib.hid (A2.out.later b3)
  have s6 : w3.cell? ⟨w.heap.size, 6, Option.none⟩ = some (.int .i64 s.p) := (S2.out.later b3).cell 6
  have x0 : w3.cell? ⟨G1 + 1, 0, Option.none⟩ = some (.int .i64 0) := (X2.out.later b3).cell 0
  have x1 : w3.cell? ⟨G1 + 1, 1, Option.none⟩ = some (.int .i64 0) := (X2.out.later b3).cell 1
  have x2 : w3.cell? ⟨G1 + 1, 2, Option.none⟩ = some (.int .i64 0) := (X2.out.later b3).cell 2
  have x3 : w3.cell? ⟨G1 + 1, 3, Option.none⟩ = some (.int .i64 0) := (X2.out.later b3).cell 3
  clear b3 D2 A2 S2 X2 a0 a1 a2 a3 a4 a5 a6 a7 a8 a9
  have a0 : w3.cell? ⟨G1, 0, Option.none⟩ = some (.int .u64 s.id) := A3.out.cell 0
  have a1 : w3.cell? ⟨G1, 1, Option.none⟩ = some (.int .u64 s.cu) := A3.out.cell 1
  have a2 : w3.cell? ⟨G1, 2, Option.none⟩ = some (.int .u64 s.pl) := A3.out.cell 2
  have a3 : w3.cell? ⟨G1, 3, Option.none⟩ = some (.int .i64 s.c.s) := A3.out.cell 3
  have a4 : w3.cell? ⟨G1, 4, Option.none⟩ = some (.int .i64 s.c.a) := A3.out.cell 4
  have a5 : w3.cell? ⟨G1, 5, Option.none⟩ = some (.int .i64 s.c.e) := A3.out.cell 5
  have a6 : w3.cell? ⟨G1, 6, Option.none⟩ = some (.int .i64 s.p) := A3.out.cell 6
  have a7 : w3.cell? ⟨G1, 7, Option.none⟩ = some (.int .i64 s.b) := A3.out.cell 7
  have a8 : w3.cell? ⟨G1, 8, Option.none⟩ = some (.int .i64 s.s) := A3.out.cell 8
  have a9 : w3.cell? ⟨G1, 9, Option.none⟩ = some (.int .i64 E) := A3.out.cell 9
  go_wp2_with fail
  refine (KA.out _ (tab_later HT.out D3.out)).mono ?_
  rintro e w4 ⟨rfl, b4⟩
  have D4 := Lib.hid (D3.out.trans (b4.mono D3.out.size))
  have A4 := Lib.hid (A3.out.later b4)
  clear b4 D3 A3 s6 x0 x1 x2 x3 a0 a1 a2 a3 a4 a5 a6 a7 a8 a9
  go_upto_region 7 with (fail)
  generalize hW5 : World.alloc (World.alloc w4 _) _ = W5
  have P5 := Lib.hid (show Pair w4 Sb.none Tn.none W5 by rw [← hW5]; exact pair_new w4 Sb.none Tn.none)
  clear hW5
  have D5 := Lib.hid (D4.out.trans (P5.out.b.mono D4.out.size))
  have A5 := Lib.hid (A4.out.later P5.out.b)
  clear P5 D4 A4
  have a0 : W5.cell? ⟨G1, 0, Option.none⟩ = some (.int .u64 s.id) := A5.out.cell 0
  have a1 : W5.cell? ⟨G1, 1, Option.none⟩ = some (.int .u64 s.cu) := A5.out.cell 1
  have a2 : W5.cell? ⟨G1, 2, Option.none⟩ = some (.int .u64 s.pl) := A5.out.cell 2
  have a3 : W5.cell? ⟨G1, 3, Option.none⟩ = some (.int .i64 s.c.s) := A5.out.cell 3
  have a4 : W5.cell? ⟨G1, 4, Option.none⟩ = some (.int .i64 s.c.a) := A5.out.cell 4
  have a5 : W5.cell? ⟨G1, 5, Option.none⟩ = some (.int .i64 s.c.e) := A5.out.cell 5
  have a6 : W5.cell? ⟨G1, 6, Option.none⟩ = some (.int .i64 s.p) := A5.out.cell 6
  have a7 : W5.cell? ⟨G1, 7, Option.none⟩ = some (.int .i64 s.b) := A5.out.cell 7
  have a8 : W5.cell? ⟨G1, 8, Option.none⟩ = some (.int .i64 s.s) := A5.out.cell 8
  have a9 : W5.cell? ⟨G1, 9, Option.none⟩ = some (.int .i64 E) := A5.out.cell 9
  go_wp2_with fail
  refine (KO.out _ (tab_later HT.out D5.out)).mono ?_
  rintro e w6 ⟨rfl, b6⟩
  have D6 := Lib.hid (D5.out.trans (b6.mono D5.out.size))
  have A6 := Lib.hid (A5.out.later b6)
  clear b6 D5 A5 a0 a1 a2 a3 a4 a5 a6 a7 a8 a9
  have a0 : w6.cell? ⟨G1, 0, Option.none⟩ = some (.int .u64 s.id) := A6.out.cell 0
  have a1 : w6.cell? ⟨G1, 1, Option.none⟩ = some (.int .u64 s.cu) := A6.out.cell 1
  have a2 : w6.cell? ⟨G1, 2, Option.none⟩ = some (.int .u64 s.pl) := A6.out.cell 2
  have a3 : w6.cell? ⟨G1, 3, Option.none⟩ = some (.int .i64 s.c.s) := A6.out.cell 3
  have a4 : w6.cell? ⟨G1, 4, Option.none⟩ = some (.int .i64 s.c.a) := A6.out.cell 4
  have a5 : w6.cell? ⟨G1, 5, Option.none⟩ = some (.int .i64 s.c.e) := A6.out.cell 5
  have a6 : w6.cell? ⟨G1, 6, Option.none⟩ = some (.int .i64 s.p) := A6.out.cell 6
  have a7 : w6.cell? ⟨G1, 7, Option.none⟩ = some (.int .i64 s.b) := A6.out.cell 7
  have a8 : w6.cell? ⟨G1, 8, Option.none⟩ = some (.int .i64 s.s) := A6.out.cell 8
  have a9 : w6.cell? ⟨G1, 9, Option.none⟩ = some (.int .i64 E) := A6.out.cell 9
  go_wp2_with fail
  refine (KG.out _ (tab_later HT.out D6.out)).mono ?_
  rintro e w7 ⟨rfl, b7⟩
  have D7 := Lib.hid (D6.out.trans (b7.mono D6.out.size))
  have A7 := Lib.hid (A6.out.later b7)
  clear b7 D6 A6 a0 a1 a2 a3 a4 a5 a6 a7 a8 a9
  have a0 : w7.cell? ⟨G1, 0, Option.none⟩ = some (.int .u64 s.id) := A7.out.cell 0
  have a1 : w7.cell? ⟨G1, 1, Option.none⟩ = some (.int .u64 s.cu) := A7.out.cell 1
  have a2 : w7.cell? ⟨G1, 2, Option.none⟩ = some (.int .u64 s.pl) := A7.out.cell 2
  have a3 : w7.cell? ⟨G1, 3, Option.none⟩ = some (.int .i64 s.c.s) := A7.out.cell 3
  have a4 : w7.cell? ⟨G1, 4, Option.none⟩ = some (.int .i64 s.c.a) := A7.out.cell 4
  have a5 : w7.cell? ⟨G1, 5, Option.none⟩ = some (.int .i64 s.c.e) := A7.out.cell 5
  have a6 : w7.cell? ⟨G1, 6, Option.none⟩ = some (.int .i64 s.p) := A7.out.cell 6
  have a7 : w7.cell? ⟨G1, 7, Option.none⟩ = some (.int .i64 s.b) := A7.out.cell 7
  have a8 : w7.cell? ⟨G1, 8, Option.none⟩ = some (.int .i64 s.s) := A7.out.cell 8
  have a9 : w7.cell? ⟨G1, 9, Option.none⟩ = some (.int .i64 E) := A7.out.cell 9
  go_wp2_with fail
  refine (KD.out _ (tab_later HT.out D7.out)).mono ?_
  rintro e w8 ⟨ad, cap, rfl, r8, b8⟩
  have D8 := Lib.hid (D7.out.trans (b8.mono D7.out.size))
  have A8 := Lib.hid (A7.out.later b8)
  rw [HLN.out]
  have R8 := Lib.hid r8
  clear b8 r8 D7 A7 a0 a1 a2 a3 a4 a5 a6 a7 a8 a9
  go_upto_region 15 with (fail)
  generalize hW9 : World.alloc w8 _ = W9
  have b9 : Below w8.heap.size w8 W9 := by rw [← hW9]; exact below_alloc (Below.refl _ w8) _
  have D9 := Lib.hid (D8.out.trans (b9.mono D8.out.size))
  have A9 := Lib.hid (A8.out.later b9)
  have R9 := Lib.hid (R8.out.later b9)
  clear hW9 b9 D8 A8 R8
  go_wp2_with fail
  go_loopw [20] (fun i wr => ∃ k : Nat, k ≤ n ∧ i = .int .i64 k ∧ Below W9.heap.size W9 wr) (fun i _ => n - (intOf i).toNat)
  case atStart => exact ⟨0, by omega, rfl, Below.refl _ _⟩
  case round =>
    obtain ⟨j, hj, rfl, hB⟩ := hrel
    by_cases hlt : j < n
    · have hjl : j < L.length := by rw [HLN.out]; exact hlt
      obtain ⟨g, rfl, hg, c0, c1, c2, c3⟩ := (R9.out.later hB) j hjl
      have hbl := HBL.out j hjl
      generalize L[j].f = e1 at *
      generalize L[j].n = e2 at *
      have p1 : decide (E ≤ e1) = false := by simp; omega
      have p2 : decide (E < e2) = false := by simp; omega
      have a9 : wr.cell? ⟨G1, 9, Option.none⟩ = some (.int .i64 E) := (A9.out.later hB).cell 9
      clear c0 c3 hbl
      have HBB := Lib.hid hB
      clear hB
      go_wp2_with fail
      go_region
      go_wp2_with fail
      go_roundw
      case rel => exact ⟨j + 1, by omega, by go_num, HBB.out.drew⟩
      case measure => simp [intOf]; omega
    · obtain rfl : j = n := by omega
      have D10 := Lib.hid (D9.out.trans (hB.mono D9.out.size))
      go_wp2_with fail
      refine (head_c _ (tab_later HT.out D10.out)).mono ?_
      rintro e w11 ⟨rfl, b11⟩
      go_wp2_with fail
      go_ret
      exact ⟨rfl, D10.out.trans (b11.mono D10.out.size)⟩
theorem ends_law (s : Sb) (day : Int) (at' : Bool) (w : World) (hf : s.Fits) (hw : Tab w) : Calls Tryd.prog 8 #[s.val, .int .i64 day, .bool at'] w fun e w' => e = .returned (.bool true) ∧ Below w.heap.size w w' := by
  rcases can_all s day at' hf with ⟨z, hz, hp⟩ | ⟨m, k, hin, h, hd, h1, h2, h3, hk, hb, hp⟩
  · exact ends_no s day at' z w hw hz hp
  · have he := end_is (at' := at') hin h hd h2 hk
    cases at' with
    | true =>
      by_cases hgt : s.c.s < canEnd s m day true k
      · exact ends_tt s m day _ _ k w hw hin h hd he hgt hp
      · exact ends_tf s m day _ _ k w hw hin h hd he hgt hp
    | false =>
      by_cases hgt : s.c.s < canEnd s m day false k
      · exact ends_ft s m day _ _ k w hw hin h hd he hgt hp
      · exact absurd (he.at0 rfl).1 (by have := he.es; omega)
end Go.Proofs.YtjchecjonkmhgaaDoor.Su
