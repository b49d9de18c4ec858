/- Package subs: the laws of Change and of Cancel. -/
import Derived.Test.YtjchecjonkmhgaaDoorSuHd2
import Derived.Test.YtjchecjonkmhgaaDoorSuAll1
import Derived.Test.YtjchecjonkmhgaaDoorSuAll2
namespace Go.Proofs.YtjchecjonkmhgaaDoor.Su
open Go.RowKit Pr Cw An Rf
abbrev Tn.cells (x : Tn) : Array Value := #[.int .i64 x.f, .int .i64 x.n, .int .i64 x.c, .int .i64 x.a]
/-- Two variables that are made. -/
structure Pair (w : World) (a : Sb) (x : Tn) (W : World) : Prop where
  a : Blk W w.heap.size a.cells 26
  x : Blk W (w.heap.size + 1) x.cells 45
  b : Below w.heap.size w W
theorem pair_new (w : World) (a : Sb) (x : Tn) : Pair w a x ((w.alloc (.cells a.cells 26)).alloc (.cells x.cells 45)) := by
  refine ⟨(Blk.new w _ _).alloc _, ?_, below_alloc (below_alloc (Below.refl _ w) _) _⟩
  have := Blk.new (w.alloc (.cells a.cells 26)) x.cells 45
  rwa [World.size_alloc] at this
set_option maxRecDepth 100000 in
set_option maxHeartbeats 4000000 in
theorem change_law (s : Sb) (day tp tq : Int) (w : World) (hf : s.Fits) (htp : U64 tp) (hw : Tab w) : Calls Tryd.prog 4 #[s.val, .int .i64 day, .agg #[.int .u64 tp, .int .i64 tq]] w fun e w' => e = .returned (.bool true) ∧ Below w.heap.size w w' := by
  obtain ⟨a, x, z, hp, hr⟩ := both_chg s day tp tq hf htp
  have KP := Lib.hid hp
  have KR := Lib.hid hr
  have HT := Lib.hid hw
  have D0 := Lib.hid (show Below w.heap.size w ((w.alloc (.cells s.cells 26)).alloc (.cells #[.int .u64 tp, .int .i64 tq] 43)) from below_alloc (below_alloc (Below.refl _ w) _) _)
  have S0 := Lib.hid (show Blk ((w.alloc (.cells s.cells 26)).alloc (.cells #[.int .u64 tp, .int .i64 tq] 43)) w.heap.size s.cells 26 from (Blk.new w _ _).alloc _)
  have O0 := Lib.hid (show Blk ((w.alloc (.cells s.cells 26)).alloc (.cells #[.int .u64 tp, .int .i64 tq] 43)) (w.heap.size + 1) #[.int .u64 tp, .int .i64 tq] 43 by
    have := Blk.new (w.alloc (.cells s.cells 26)) #[.int .u64 tp, .int .i64 tq] 43
    rwa [World.size_alloc] at this)
  clear hp hr hw
  go_enter Tryd.func4, Tryd.ntmps4
  unfold Sb.val Sb.cells
  go_wp2_with fail
  refine (KP.out _ (tab_later HT.out D0.out)).mono ?_
  rintro e w1 ⟨rfl, b1⟩
  have D1 := Lib.hid (D0.out.trans (b1.mono D0.out.size))
  have S1 := Lib.hid (S0.out.later b1)
  have O1 := Lib.hid (O0.out.later b1)
  clear b1
  go_upto_region 2 with (fail)
  obtain ⟨W2, hW2⟩ : ∃ W, (w1.alloc (.cells a.cells 26)).alloc (.cells x.cells 45) = W := ⟨_, rfl⟩
  have P2 := Lib.hid (hW2 ▸ pair_new w1 a x)
  rw [show (w1.alloc (.cells #[.int .u64 a.id, .int .u64 a.cu, .int .u64 a.pl, .int .i64 a.c.s, .int .i64 a.c.a, .int .i64 a.c.e, .int .i64 a.p, .int .i64 a.b, .int .i64 a.s, .int .i64 a.e] 26)).alloc (.cells #[.int .i64 x.f, .int .i64 x.n, .int .i64 x.c, .int .i64 x.a] 45) = W2 from hW2]
  clear hW2
  have D2 := Lib.hid (D1.out.trans (P2.out.b.mono D1.out.size))
  have S2 := Lib.hid (S1.out.later P2.out.b)
  have O2 := Lib.hid (O1.out.later P2.out.b)
  obtain ⟨G1, hG1⟩ : ∃ G, w1.heap.size = G := ⟨_, rfl⟩
  have A2 := Lib.hid (hG1 ▸ P2.out.a)
  have X2 := Lib.hid (hG1 ▸ P2.out.x)
  rw [hG1]
  clear hG1 P2 D1 S1 O1
  have s0 : W2.cell? ⟨w.heap.size, 0, Option.none⟩ = some (.int .u64 s.id) := S2.out.cell 0
  have s1 : W2.cell? ⟨w.heap.size, 1, Option.none⟩ = some (.int .u64 s.cu) := S2.out.cell 1
  have s2 : W2.cell? ⟨w.heap.size, 2, Option.none⟩ = some (.int .u64 s.pl) := S2.out.cell 2
  have s3 : W2.cell? ⟨w.heap.size, 3, Option.none⟩ = some (.int .i64 s.c.s) := S2.out.cell 3
  have s4 : W2.cell? ⟨w.heap.size, 4, Option.none⟩ = some (.int .i64 s.c.a) := S2.out.cell 4
  have s5 : W2.cell? ⟨w.heap.size, 5, Option.none⟩ = some (.int .i64 s.c.e) := S2.out.cell 5
  have s6 : W2.cell? ⟨w.heap.size, 6, Option.none⟩ = some (.int .i64 s.p) := S2.out.cell 6
  have s7 : W2.cell? ⟨w.heap.size, 7, Option.none⟩ = some (.int .i64 s.b) := S2.out.cell 7
  have s8 : W2.cell? ⟨w.heap.size, 8, Option.none⟩ = some (.int .i64 s.s) := S2.out.cell 8
  have s9 : W2.cell? ⟨w.heap.size, 9, Option.none⟩ = some (.int .i64 s.e) := S2.out.cell 9
  have o0 : W2.cell? ⟨w.heap.size + 1, 0, Option.none⟩ = some (.int .u64 tp) := O2.out.cell 0
  have o1 : W2.cell? ⟨w.heap.size + 1, 1, Option.none⟩ = some (.int .i64 tq) := O2.out.cell 1
  go_wp2_with fail
  refine (KR.out _).mono ?_
  rintro e w3 ⟨rfl, b3⟩
  have D3 := Lib.hid (D2.out.trans (b3.mono D2.out.size))
  have A3 := Lib.hid (A2.out.later b3)
  have X3 := Lib.hid (X2.out.later b3)
  clear b3 D2 A2 X2 S2 O2 o0 o1 s0 s1 s2 s3 s4 s5 s6 s7 s8 s9
  go_upto_region 3 with (fail)
  obtain ⟨W4, hW4⟩ : ∃ W, (w3.alloc (.cells a.cells 26)).alloc (.cells x.cells 45) = W := ⟨_, rfl⟩
  have P4 := Lib.hid (hW4 ▸ pair_new w3 a x)
  rw [show (w3.alloc (.cells #[.int .u64 a.id, .int .u64 a.cu, .int .u64 a.pl, .int .i64 a.c.s, .int .i64 a.c.a, .int .i64 a.c.e, .int .i64 a.p, .int .i64 a.b, .int .i64 a.s, .int .i64 a.e] 26)).alloc (.cells #[.int .i64 x.f, .int .i64 x.n, .int .i64 x.c, .int .i64 x.a] 45) = W4 from hW4]
  clear hW4
  have D4 := Lib.hid (D3.out.trans (P4.out.b.mono D3.out.size))
  have A4 := Lib.hid (A3.out.later P4.out.b)
  have X4 := Lib.hid (X3.out.later P4.out.b)
  obtain ⟨G3, hG3⟩ : ∃ G, w3.heap.size = G := ⟨_, rfl⟩
  have B4 := Lib.hid (hG3 ▸ P4.out.a)
  have Y4 := Lib.hid (hG3 ▸ P4.out.x)
  rw [hG3]
  clear hG3 P4 D3 A3 X3
  have a0 : W4.cell? ⟨G1, 0, Option.none⟩ = some (.int .u64 a.id) := A4.out.cell 0
  have b0 : W4.cell? ⟨G3, 0, Option.none⟩ = some (.int .u64 a.id) := B4.out.cell 0
  have a1 : W4.cell? ⟨G1, 1, Option.none⟩ = some (.int .u64 a.cu) := A4.out.cell 1
  have b1 : W4.cell? ⟨G3, 1, Option.none⟩ = some (.int .u64 a.cu) := B4.out.cell 1
  have a2 : W4.cell? ⟨G1, 2, Option.none⟩ = some (.int .u64 a.pl) := A4.out.cell 2
  have b2 : W4.cell? ⟨G3, 2, Option.none⟩ = some (.int .u64 a.pl) := B4.out.cell 2
  have a3 : W4.cell? ⟨G1, 3, Option.none⟩ = some (.int .i64 a.c.s) := A4.out.cell 3
  have b3 : W4.cell? ⟨G3, 3, Option.none⟩ = some (.int .i64 a.c.s) := B4.out.cell 3
  have a4 : W4.cell? ⟨G1, 4, Option.none⟩ = some (.int .i64 a.c.a) := A4.out.cell 4
  have b4 : W4.cell? ⟨G3, 4, Option.none⟩ = some (.int .i64 a.c.a) := B4.out.cell 4
  have a5 : W4.cell? ⟨G1, 5, Option.none⟩ = some (.int .i64 a.c.e) := A4.out.cell 5
  have b5 : W4.cell? ⟨G3, 5, Option.none⟩ = some (.int .i64 a.c.e) := B4.out.cell 5
  have a6 : W4.cell? ⟨G1, 6, Option.none⟩ = some (.int .i64 a.p) := A4.out.cell 6
  have b6 : W4.cell? ⟨G3, 6, Option.none⟩ = some (.int .i64 a.p) := B4.out.cell 6
  have a7 : W4.cell? ⟨G1, 7, Option.none⟩ = some (.int .i64 a.b) := A4.out.cell 7
  have b7 : W4.cell? ⟨G3, 7, Option.none⟩ = some (.int .i64 a.b) := B4.out.cell 7
  have a8 : W4.cell? ⟨G1, 8, Option.none⟩ = some (.int .i64 a.s) := A4.out.cell 8
  have b8 : W4.cell? ⟨G3, 8, Option.none⟩ = some (.int .i64 a.s) := B4.out.cell 8
  have a9 : W4.cell? ⟨G1, 9, Option.none⟩ = some (.int .i64 a.e) := A4.out.cell 9
  have b9 : W4.cell? ⟨G3, 9, Option.none⟩ = some (.int .i64 a.e) := B4.out.cell 9
  have x0 : W4.cell? ⟨G1 + 1, 0, Option.none⟩ = some (.int .i64 x.f) := X4.out.cell 0
  have y0 : W4.cell? ⟨G3 + 1, 0, Option.none⟩ = some (.int .i64 x.f) := Y4.out.cell 0
  have x1 : W4.cell? ⟨G1 + 1, 1, Option.none⟩ = some (.int .i64 x.n) := X4.out.cell 1
  have y1 : W4.cell? ⟨G3 + 1, 1, Option.none⟩ = some (.int .i64 x.n) := Y4.out.cell 1
  have x2 : W4.cell? ⟨G1 + 1, 2, Option.none⟩ = some (.int .i64 x.c) := X4.out.cell 2
  have y2 : W4.cell? ⟨G3 + 1, 2, Option.none⟩ = some (.int .i64 x.c) := Y4.out.cell 2
  have x3 : W4.cell? ⟨G1 + 1, 3, Option.none⟩ = some (.int .i64 x.a) := X4.out.cell 3
  have y3 : W4.cell? ⟨G3 + 1, 3, Option.none⟩ = some (.int .i64 x.a) := Y4.out.cell 3
  clear A4 B4 X4 Y4
  go_wp2_with fail
  refine (head_c _ (tab_later HT.out D4.out)).mono ?_
  rintro e w5 ⟨rfl, b5⟩
  go_wp2_with fail
  go_ret
  exact ⟨rfl, D4.out.trans (b5.mono D4.out.size)⟩
set_option maxRecDepth 100000 in
set_option maxHeartbeats 4000000 in
theorem cancel_law (s : Sb) (day : Int) (at' : Bool) (w : World) (hf : s.Fits) (hw : Tab w) : Calls Tryd.prog 5 #[s.val, .int .i64 day, .bool at'] w fun e w' => e = .returned (.bool true) ∧ Below w.heap.size w w' := by
  obtain ⟨a, x, z, hp, hr⟩ := both_can s day at' hf
  have KP := Lib.hid hp
  have KR := Lib.hid hr
  have HT := Lib.hid hw
  have D0 := Lib.hid (show Below w.heap.size w (w.alloc (.cells s.cells 26)) from below_alloc (Below.refl _ w) _)
  have S0 := Lib.hid (show Blk (w.alloc (.cells s.cells 26)) w.heap.size s.cells 26 from Blk.new w _ _)
  clear hp hr hw
  go_enter Tryd.func5, Tryd.ntmps5
  unfold Sb.val Sb.cells
  go_wp2_with fail
  refine (KP.out _ (tab_later HT.out D0.out)).mono ?_
  rintro e w1 ⟨rfl, b1⟩
  have D1 := Lib.hid (D0.out.trans (b1.mono D0.out.size))
  have S1 := Lib.hid (S0.out.later b1)
  clear b1
  go_upto_region 2 with (fail)
  obtain ⟨W2, hW2⟩ : ∃ W, (w1.alloc (.cells a.cells 26)).alloc (.cells x.cells 45) = W := ⟨_, rfl⟩
  have P2 := Lib.hid (hW2 ▸ pair_new w1 a x)
  rw [show (w1.alloc (.cells #[.int .u64 a.id, .int .u64 a.cu, .int .u64 a.pl, .int .i64 a.c.s, .int .i64 a.c.a, .int .i64 a.c.e, .int .i64 a.p, .int .i64 a.b, .int .i64 a.s, .int .i64 a.e] 26)).alloc (.cells #[.int .i64 x.f, .int .i64 x.n, .int .i64 x.c, .int .i64 x.a] 45) = W2 from hW2]
  clear hW2
  have D2 := Lib.hid (D1.out.trans (P2.out.b.mono D1.out.size))
  have S2 := Lib.hid (S1.out.later P2.out.b)
  obtain ⟨G1, hG1⟩ : ∃ G, w1.heap.size = G := ⟨_, rfl⟩
  have A2 := Lib.hid (hG1 ▸ P2.out.a)
  have X2 := Lib.hid (hG1 ▸ P2.out.x)
  rw [hG1]
  clear hG1 P2 D1 S1 
  have s0 : W2.cell? ⟨w.heap.size, 0, Option.none⟩ = some (.int .u64 s.id) := S2.out.cell 0
  have s1 : W2.cell? ⟨w.heap.size, 1, Option.none⟩ = some (.int .u64 s.cu) := S2.out.cell 1
  have s2 : W2.cell? ⟨w.heap.size, 2, Option.none⟩ = some (.int .u64 s.pl) := S2.out.cell 2
  have s3 : W2.cell? ⟨w.heap.size, 3, Option.none⟩ = some (.int .i64 s.c.s) := S2.out.cell 3
  have s4 : W2.cell? ⟨w.heap.size, 4, Option.none⟩ = some (.int .i64 s.c.a) := S2.out.cell 4
  have s5 : W2.cell? ⟨w.heap.size, 5, Option.none⟩ = some (.int .i64 s.c.e) := S2.out.cell 5
  have s6 : W2.cell? ⟨w.heap.size, 6, Option.none⟩ = some (.int .i64 s.p) := S2.out.cell 6
  have s7 : W2.cell? ⟨w.heap.size, 7, Option.none⟩ = some (.int .i64 s.b) := S2.out.cell 7
  have s8 : W2.cell? ⟨w.heap.size, 8, Option.none⟩ = some (.int .i64 s.s) := S2.out.cell 8
  have s9 : W2.cell? ⟨w.heap.size, 9, Option.none⟩ = some (.int .i64 s.e) := S2.out.cell 9
  go_wp2_with fail
  refine (KR.out _).mono ?_
  rintro e w3 ⟨rfl, b3⟩
  have D3 := Lib.hid (D2.out.trans (b3.mono D2.out.size))
  have A3 := Lib.hid (A2.out.later b3)
  have X3 := Lib.hid (X2.out.later b3)
  clear b3 D2 A2 X2 S2 s0 s1 s2 s3 s4 s5 s6 s7 s8 s9
  go_upto_region 3 with (fail)
  obtain ⟨W4, hW4⟩ : ∃ W, (w3.alloc (.cells a.cells 26)).alloc (.cells x.cells 45) = W := ⟨_, rfl⟩
  have P4 := Lib.hid (hW4 ▸ pair_new w3 a x)
  rw [show (w3.alloc (.cells #[.int .u64 a.id, .int .u64 a.cu, .int .u64 a.pl, .int .i64 a.c.s, .int .i64 a.c.a, .int .i64 a.c.e, .int .i64 a.p, .int .i64 a.b, .int .i64 a.s, .int .i64 a.e] 26)).alloc (.cells #[.int .i64 x.f, .int .i64 x.n, .int .i64 x.c, .int .i64 x.a] 45) = W4 from hW4]
  clear hW4
  have D4 := Lib.hid (D3.out.trans (P4.out.b.mono D3.out.size))
  have A4 := Lib.hid (A3.out.later P4.out.b)
  have X4 := Lib.hid (X3.out.later P4.out.b)
  obtain ⟨G3, hG3⟩ : ∃ G, w3.heap.size = G := ⟨_, rfl⟩
  have B4 := Lib.hid (hG3 ▸ P4.out.a)
  have Y4 := Lib.hid (hG3 ▸ P4.out.x)
  rw [hG3]
  clear hG3 P4 D3 A3 X3
  have a0 : W4.cell? ⟨G1, 0, Option.none⟩ = some (.int .u64 a.id) := A4.out.cell 0
  have b0 : W4.cell? ⟨G3, 0, Option.none⟩ = some (.int .u64 a.id) := B4.out.cell 0
  have a1 : W4.cell? ⟨G1, 1, Option.none⟩ = some (.int .u64 a.cu) := A4.out.cell 1
  have b1 : W4.cell? ⟨G3, 1, Option.none⟩ = some (.int .u64 a.cu) := B4.out.cell 1
  have a2 : W4.cell? ⟨G1, 2, Option.none⟩ = some (.int .u64 a.pl) := A4.out.cell 2
  have b2 : W4.cell? ⟨G3, 2, Option.none⟩ = some (.int .u64 a.pl) := B4.out.cell 2
  have a3 : W4.cell? ⟨G1, 3, Option.none⟩ = some (.int .i64 a.c.s) := A4.out.cell 3
  have b3 : W4.cell? ⟨G3, 3, Option.none⟩ = some (.int .i64 a.c.s) := B4.out.cell 3
  have a4 : W4.cell? ⟨G1, 4, Option.none⟩ = some (.int .i64 a.c.a) := A4.out.cell 4
  have b4 : W4.cell? ⟨G3, 4, Option.none⟩ = some (.int .i64 a.c.a) := B4.out.cell 4
  have a5 : W4.cell? ⟨G1, 5, Option.none⟩ = some (.int .i64 a.c.e) := A4.out.cell 5
  have b5 : W4.cell? ⟨G3, 5, Option.none⟩ = some (.int .i64 a.c.e) := B4.out.cell 5
  have a6 : W4.cell? ⟨G1, 6, Option.none⟩ = some (.int .i64 a.p) := A4.out.cell 6
  have b6 : W4.cell? ⟨G3, 6, Option.none⟩ = some (.int .i64 a.p) := B4.out.cell 6
  have a7 : W4.cell? ⟨G1, 7, Option.none⟩ = some (.int .i64 a.b) := A4.out.cell 7
  have b7 : W4.cell? ⟨G3, 7, Option.none⟩ = some (.int .i64 a.b) := B4.out.cell 7
  have a8 : W4.cell? ⟨G1, 8, Option.none⟩ = some (.int .i64 a.s) := A4.out.cell 8
  have b8 : W4.cell? ⟨G3, 8, Option.none⟩ = some (.int .i64 a.s) := B4.out.cell 8
  have a9 : W4.cell? ⟨G1, 9, Option.none⟩ = some (.int .i64 a.e) := A4.out.cell 9
  have b9 : W4.cell? ⟨G3, 9, Option.none⟩ = some (.int .i64 a.e) := B4.out.cell 9
  have x0 : W4.cell? ⟨G1 + 1, 0, Option.none⟩ = some (.int .i64 x.f) := X4.out.cell 0
  have y0 : W4.cell? ⟨G3 + 1, 0, Option.none⟩ = some (.int .i64 x.f) := Y4.out.cell 0
  have x1 : W4.cell? ⟨G1 + 1, 1, Option.none⟩ = some (.int .i64 x.n) := X4.out.cell 1
  have y1 : W4.cell? ⟨G3 + 1, 1, Option.none⟩ = some (.int .i64 x.n) := Y4.out.cell 1
  have x2 : W4.cell? ⟨G1 + 1, 2, Option.none⟩ = some (.int .i64 x.c) := X4.out.cell 2
  have y2 : W4.cell? ⟨G3 + 1, 2, Option.none⟩ = some (.int .i64 x.c) := Y4.out.cell 2
  have x3 : W4.cell? ⟨G1 + 1, 3, Option.none⟩ = some (.int .i64 x.a) := X4.out.cell 3
  have y3 : W4.cell? ⟨G3 + 1, 3, Option.none⟩ = some (.int .i64 x.a) := Y4.out.cell 3
  clear A4 B4 X4 Y4
  go_wp2_with fail
  refine (head_c _ (tab_later HT.out D4.out)).mono ?_
  rintro e w5 ⟨rfl, b5⟩
  go_wp2_with fail
  go_ret
  exact ⟨rfl, D4.out.trans (b5.mono D4.out.size)⟩
end Go.Proofs.YtjchecjonkmhgaaDoor.Su
