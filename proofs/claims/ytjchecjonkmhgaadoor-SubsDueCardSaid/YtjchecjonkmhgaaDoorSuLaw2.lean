/- Package subs: the law of Due. -/
import Derived.Test.YtjchecjonkmhgaaDoorSuHd2
import Derived.Test.YtjchecjonkmhgaaDoorSuAll0
import Derived.Deep.RegionHeld3
namespace Go.Proofs.YtjchecjonkmhgaaDoor.Su
open Go.RowKit Pr Cw An Rf
set_option maxRecDepth 100000 in
set_option maxHeartbeats 16000000 in
theorem due_law (s : Sb) (today most : Int) (w : World) (hf : s.Fits) (hw : Tab w) : Calls Tryd.prog 3 #[s.val, .int .i64 today, .int .i64 most] w fun e w' => e = .returned (.bool true) ∧ Below w.heap.size w w' := by
  obtain ⟨a, L, z, hL, hp, hr⟩ := both_due s today most hf
  obtain ⟨v, y, hsp, hsr⟩ := both_state s today hf
  obtain ⟨c, hcp, hcr⟩ := both_check s hf
  have KP := Lib.hid hp
  have KR := Lib.hid hr
  have KSP := Lib.hid hsp
  have KSR := Lib.hid hsr
  have KCP := Lib.hid hcp
  have KCR := Lib.hid hcr
  have HL := Lib.hid hL
  have HT := Lib.hid hw
  have D0 := Lib.hid (show Below w.heap.size w (w.alloc (.cells s.cells 26)) from below_alloc (Below.refl _ w) _)
  have S0 := Lib.hid (show Blk (w.alloc (.cells s.cells 26)) w.heap.size s.cells 26 from Blk.new w _ _)
  clear hp hr hw hsp hsr hcp hcr hL
  go_enter Tryd.func3, Tryd.ntmps3
  unfold Sb.val Sb.cells
  go_wp2_with fail
  refine (KP.out _ (tab_later HT.out D0.out)).mono ?_
  rintro e w1 ⟨ad, cap, rfl, r1, b1⟩
  have D1 := Lib.hid (D0.out.trans (b1.mono D0.out.size))
  have S1 := Lib.hid (S0.out.later b1)
  have R1 := Lib.hid r1
  clear b1 r1 D0 S0
  go_upto_region 2 with (fail)
  obtain ⟨W2, hW2⟩ : ∃ W, w1.alloc (.cells a.cells 26) = W := ⟨_, rfl⟩
  have P2 := Lib.hid (show Blk W2 w1.heap.size a.cells 26 by rw [← hW2]; exact Blk.new w1 _ _)
  have hb2 : Below w1.heap.size w1 W2 := by rw [← hW2]; exact below_alloc (Below.refl _ w1) _
  rw [show w1.alloc (.cells #[.int .u64 a.id, .int .u64 a.cu, .int .u64 a.pl, .int .i64 a.c.s, .int .i64 a.c.a, .int .i64 a.c.e, .int .i64 a.p, .int .i64 a.b, .int .i64 a.s, .int .i64 a.e] 26) = W2 from hW2]
  clear hW2
  have D2 := Lib.hid (D1.out.trans (hb2.mono D1.out.size))
  have S2 := Lib.hid (S1.out.later hb2)
  have R2 := Lib.hid (R1.out.later hb2)
  obtain ⟨G1, hG1⟩ : ∃ G, w1.heap.size = G := ⟨_, rfl⟩
  have A2 := Lib.hid (hG1 ▸ P2.out)
  rw [hG1]
  clear hG1 P2 D1 S1 R1 hb2
  have s0 : W2.cell? ⟨w.heap.size, 0, Option.none⟩ = some (.int .u64 s.id) := S2.out.cell 0
  have s1 : W2.cell? ⟨w.heap.size, 1, Option.none⟩ = some (.int .u64 s.cu) := S2.out.cell 1
  have s2 : W2.cell? ⟨w.heap.size, 2, Option.none⟩ = some (.int .u64 s.pl) := S2.out.cell 2
  have s3 : W2.cell? ⟨w.heap.size, 3, Option.none⟩ = some (.int .i64 s.c.s) := S2.out.cell 3
  have s4 : W2.cell? ⟨w.heap.size, 4, Option.none⟩ = some (.int .i64 s.c.a) := S2.out.cell 4
  have s5 : W2.cell? ⟨w.heap.size, 5, Option.none⟩ = some (.int .i64 s.c.e) := S2.out.cell 5
  have s6 : W2.cell? ⟨w.heap.size, 6, Option.none⟩ = some (.int .i64 s.p) := S2.out.cell 6
  have s7 : W2.cell? ⟨w.heap.size, 7, Option.none⟩ = some (.int .i64 s.b) := S2.out.cell 7
  have s8 : W2.cell? ⟨w.heap.size, 8, Option.none⟩ = some (.int .i64 s.s) := S2.out.cell 8
  have s9 : W2.cell? ⟨w.heap.size, 9, Option.none⟩ = some (.int .i64 s.e) := S2.out.cell 9
  go_wp2_with fail
  refine (KR.out _).mono ?_
  rintro e w3 ⟨ad', cap', rfl, r3, b3⟩
  have D3 := Lib.hid (D2.out.trans (b3.mono D2.out.size))
  have S3 := Lib.hid (S2.out.later b3)
  have R3 := Lib.hid (R2.out.later b3)
  have A3 := Lib.hid (A2.out.later b3)
  have Q3 := Lib.hid r3
  clear b3 r3 D2 S2 R2 A2 s0 s1 s2 s3 s4 s5 s6 s7 s8 s9
  go_upto_region 3 with (fail)
  obtain ⟨W4, hW4⟩ : ∃ W, w3.alloc (.cells a.cells 26) = W := ⟨_, rfl⟩
  have P4 := Lib.hid (show Blk W4 w3.heap.size a.cells 26 by rw [← hW4]; exact Blk.new w3 _ _)
  have hb4 : Below w3.heap.size w3 W4 := by rw [← hW4]; exact below_alloc (Below.refl _ w3) _
  rw [show w3.alloc (.cells #[.int .u64 a.id, .int .u64 a.cu, .int .u64 a.pl, .int .i64 a.c.s, .int .i64 a.c.a, .int .i64 a.c.e, .int .i64 a.p, .int .i64 a.b, .int .i64 a.s, .int .i64 a.e] 26) = W4 from hW4]
  clear hW4
  have D4 := Lib.hid (D3.out.trans (hb4.mono D3.out.size))
  have S4 := Lib.hid (S3.out.later hb4)
  have R4 := Lib.hid (R3.out.later hb4)
  have A4 := Lib.hid (A3.out.later hb4)
  have Q4 := Lib.hid (Q3.out.later hb4)
  obtain ⟨G3, hG3⟩ : ∃ G, w3.heap.size = G := ⟨_, rfl⟩
  have B4 := Lib.hid (hG3 ▸ P4.out)
  rw [hG3]
  clear hG3 P4 D3 S3 R3 A3 Q3 hb4
  have s0 : W4.cell? ⟨w.heap.size, 0, Option.none⟩ = some (.int .u64 s.id) := S4.out.cell 0
  have s1 : W4.cell? ⟨w.heap.size, 1, Option.none⟩ = some (.int .u64 s.cu) := S4.out.cell 1
  have s2 : W4.cell? ⟨w.heap.size, 2, Option.none⟩ = some (.int .u64 s.pl) := S4.out.cell 2
  have s3 : W4.cell? ⟨w.heap.size, 3, Option.none⟩ = some (.int .i64 s.c.s) := S4.out.cell 3
  have s4 : W4.cell? ⟨w.heap.size, 4, Option.none⟩ = some (.int .i64 s.c.a) := S4.out.cell 4
  have s5 : W4.cell? ⟨w.heap.size, 5, Option.none⟩ = some (.int .i64 s.c.e) := S4.out.cell 5
  have s6 : W4.cell? ⟨w.heap.size, 6, Option.none⟩ = some (.int .i64 s.p) := S4.out.cell 6
  have s7 : W4.cell? ⟨w.heap.size, 7, Option.none⟩ = some (.int .i64 s.b) := S4.out.cell 7
  have s8 : W4.cell? ⟨w.heap.size, 8, Option.none⟩ = some (.int .i64 s.s) := S4.out.cell 8
  have s9 : W4.cell? ⟨w.heap.size, 9, Option.none⟩ = some (.int .i64 s.e) := S4.out.cell 9
  go_wp2_with fail
  refine (KSP.out _ (tab_later HT.out D4.out)).mono ?_
  rintro e w5 ⟨rfl, b5⟩
  have D5 := Lib.hid (D4.out.trans (b5.mono D4.out.size))
  have S5 := Lib.hid (S4.out.later b5)
  have R5 := Lib.hid (R4.out.later b5)
  have A5 := Lib.hid (A4.out.later b5)
  have B5 := Lib.hid (B4.out.later b5)
  have Q5 := Lib.hid (Q4.out.later b5)
  clear b5 D4 S4 R4 A4 B4 Q4 s0 s1 s2 s3 s4 s5 s6 s7 s8 s9
  have s0 : w5.cell? ⟨w.heap.size, 0, Option.none⟩ = some (.int .u64 s.id) := S5.out.cell 0
  have s1 : w5.cell? ⟨w.heap.size, 1, Option.none⟩ = some (.int .u64 s.cu) := S5.out.cell 1
  have s2 : w5.cell? ⟨w.heap.size, 2, Option.none⟩ = some (.int .u64 s.pl) := S5.out.cell 2
  have s3 : w5.cell? ⟨w.heap.size, 3, Option.none⟩ = some (.int .i64 s.c.s) := S5.out.cell 3
  have s4 : w5.cell? ⟨w.heap.size, 4, Option.none⟩ = some (.int .i64 s.c.a) := S5.out.cell 4
  have s5 : w5.cell? ⟨w.heap.size, 5, Option.none⟩ = some (.int .i64 s.c.e) := S5.out.cell 5
  have s6 : w5.cell? ⟨w.heap.size, 6, Option.none⟩ = some (.int .i64 s.p) := S5.out.cell 6
  have s7 : w5.cell? ⟨w.heap.size, 7, Option.none⟩ = some (.int .i64 s.b) := S5.out.cell 7
  have s8 : w5.cell? ⟨w.heap.size, 8, Option.none⟩ = some (.int .i64 s.s) := S5.out.cell 8
  have s9 : w5.cell? ⟨w.heap.size, 9, Option.none⟩ = some (.int .i64 s.e) := S5.out.cell 9
  go_wp2_with fail
  refine (KSR.out _).mono ?_
  rintro e W ⟨rfl, b6⟩
  have D := Lib.hid (D5.out.trans (b6.mono D5.out.size))
  have S6 := Lib.hid (S5.out.later b6)
  have R6 := Lib.hid (R5.out.later b6)
  have A6 := Lib.hid (A5.out.later b6)
  have B6 := Lib.hid (B5.out.later b6)
  have Q6 := Lib.hid (Q5.out.later b6)
  clear b6 D5 S5 R5 A5 B5 Q5 s0 s1 s2 s3 s4 s5 s6 s7 s8 s9
  have PK := Lib.hid (show ∀ u, Below W.heap.size W u → u.cell? ⟨w.heap.size, 0, Option.none⟩ = some (.int .u64 s.id) ∧ u.cell? ⟨w.heap.size, 1, Option.none⟩ = some (.int .u64 s.cu) ∧ u.cell? ⟨w.heap.size, 2, Option.none⟩ = some (.int .u64 s.pl) ∧ u.cell? ⟨w.heap.size, 3, Option.none⟩ = some (.int .i64 s.c.s) ∧ u.cell? ⟨w.heap.size, 4, Option.none⟩ = some (.int .i64 s.c.a) ∧ u.cell? ⟨w.heap.size, 5, Option.none⟩ = some (.int .i64 s.c.e) ∧ u.cell? ⟨w.heap.size, 6, Option.none⟩ = some (.int .i64 s.p) ∧ u.cell? ⟨w.heap.size, 7, Option.none⟩ = some (.int .i64 s.b) ∧ u.cell? ⟨w.heap.size, 8, Option.none⟩ = some (.int .i64 s.s) ∧ u.cell? ⟨w.heap.size, 9, Option.none⟩ = some (.int .i64 s.e) ∧ u.cell? ⟨G1, 0, Option.none⟩ = some (.int .u64 a.id) ∧ u.cell? ⟨G1, 1, Option.none⟩ = some (.int .u64 a.cu) ∧ u.cell? ⟨G1, 2, Option.none⟩ = some (.int .u64 a.pl) ∧ u.cell? ⟨G1, 3, Option.none⟩ = some (.int .i64 a.c.s) ∧ u.cell? ⟨G1, 4, Option.none⟩ = some (.int .i64 a.c.a) ∧ u.cell? ⟨G1, 5, Option.none⟩ = some (.int .i64 a.c.e) ∧ u.cell? ⟨G1, 6, Option.none⟩ = some (.int .i64 a.p) ∧ u.cell? ⟨G1, 7, Option.none⟩ = some (.int .i64 a.b) ∧ u.cell? ⟨G1, 8, Option.none⟩ = some (.int .i64 a.s) ∧ u.cell? ⟨G1, 9, Option.none⟩ = some (.int .i64 a.e) ∧ u.cell? ⟨G3, 0, Option.none⟩ = some (.int .u64 a.id) ∧ u.cell? ⟨G3, 1, Option.none⟩ = some (.int .u64 a.cu) ∧ u.cell? ⟨G3, 2, Option.none⟩ = some (.int .u64 a.pl) ∧ u.cell? ⟨G3, 3, Option.none⟩ = some (.int .i64 a.c.s) ∧ u.cell? ⟨G3, 4, Option.none⟩ = some (.int .i64 a.c.a) ∧ u.cell? ⟨G3, 5, Option.none⟩ = some (.int .i64 a.c.e) ∧ u.cell? ⟨G3, 6, Option.none⟩ = some (.int .i64 a.p) ∧ u.cell? ⟨G3, 7, Option.none⟩ = some (.int .i64 a.b) ∧ u.cell? ⟨G3, 8, Option.none⟩ = some (.int .i64 a.s) ∧ u.cell? ⟨G3, 9, Option.none⟩ = some (.int .i64 a.e) ∧ Below W.heap.size W u from fun u hu => ⟨(S6.out.later hu).cell 0, (S6.out.later hu).cell 1, (S6.out.later hu).cell 2, (S6.out.later hu).cell 3, (S6.out.later hu).cell 4, (S6.out.later hu).cell 5, (S6.out.later hu).cell 6, (S6.out.later hu).cell 7, (S6.out.later hu).cell 8, (S6.out.later hu).cell 9, (A6.out.later hu).cell 0, (A6.out.later hu).cell 1, (A6.out.later hu).cell 2, (A6.out.later hu).cell 3, (A6.out.later hu).cell 4, (A6.out.later hu).cell 5, (A6.out.later hu).cell 6, (A6.out.later hu).cell 7, (A6.out.later hu).cell 8, (A6.out.later hu).cell 9, (B6.out.later hu).cell 0, (B6.out.later hu).cell 1, (B6.out.later hu).cell 2, (B6.out.later hu).cell 3, (B6.out.later hu).cell 4, (B6.out.later hu).cell 5, (B6.out.later hu).cell 6, (B6.out.later hu).cell 7, (B6.out.later hu).cell 8, (B6.out.later hu).cell 9, hu⟩)
  have KS := Lib.hid (show ∀ x, Below W.heap.size W x → Calls Tryd.prog 13 #[.slice ad L.length cap, .slice ad' L.length cap'] x (fun e w' => e = .returned (.bool true) ∧ Below W.heap.size W w') from fun x hx => (same_c L ad ad' cap cap' x (Nat.le_trans HL.out (by decide)) (R6.out.later hx) (Q6.out.later hx)).mono fun _ _ h => ⟨h.1, hx.trans (h.2.mono hx.size)⟩)
  have KC := Lib.hid (show ∀ x, Below W.heap.size W x → Calls Tryd.prog 14 #[s.val] x (fun e w' => e = .returned (.int .i64 c) ∧ Below W.heap.size W w') from fun x hx => (KCP.out x (tab_later (tab_later HT.out D.out) hx)).mono fun _ _ h => ⟨h.1, hx.trans (h.2.mono hx.size)⟩)
  have KD := Lib.hid (show ∀ x, Below W.heap.size W x → Calls Tryd.prog 15 #[s.val] x (fun e w' => e = .returned (.int .i64 c) ∧ Below W.heap.size W w') from fun x hx => (KCR.out x).mono fun _ _ h => ⟨h.1, hx.trans (h.2.mono hx.size)⟩)
  have KH := Lib.hid (show ∀ x, Below W.heap.size W x → Calls Tryd.prog 16 #[] x (fun e w' => e = .returned (.bool true) ∧ Below W.heap.size W w') from fun x hx => (head_c x (tab_later (tab_later HT.out D.out) hx)).mono fun _ _ h => ⟨h.1, hx.trans (h.2.mono hx.size)⟩)
  have hb0 : Below W.heap.size W W.drew := (Below.refl _ _).drew
  clear S6 R6 A6 B6 Q6 KP KR KSP KSR KCP KCR HL hf
  go_wp2_with fail
  go_region_held3 (fun u => u.cell? ⟨w.heap.size, 0, Option.none⟩ = some (.int .u64 s.id) ∧ u.cell? ⟨w.heap.size, 1, Option.none⟩ = some (.int .u64 s.cu) ∧ u.cell? ⟨w.heap.size, 2, Option.none⟩ = some (.int .u64 s.pl) ∧ u.cell? ⟨w.heap.size, 3, Option.none⟩ = some (.int .i64 s.c.s) ∧ u.cell? ⟨w.heap.size, 4, Option.none⟩ = some (.int .i64 s.c.a) ∧ u.cell? ⟨w.heap.size, 5, Option.none⟩ = some (.int .i64 s.c.e) ∧ u.cell? ⟨w.heap.size, 6, Option.none⟩ = some (.int .i64 s.p) ∧ u.cell? ⟨w.heap.size, 7, Option.none⟩ = some (.int .i64 s.b) ∧ u.cell? ⟨w.heap.size, 8, Option.none⟩ = some (.int .i64 s.s) ∧ u.cell? ⟨w.heap.size, 9, Option.none⟩ = some (.int .i64 s.e) ∧ u.cell? ⟨G1, 0, Option.none⟩ = some (.int .u64 a.id) ∧ u.cell? ⟨G1, 1, Option.none⟩ = some (.int .u64 a.cu) ∧ u.cell? ⟨G1, 2, Option.none⟩ = some (.int .u64 a.pl) ∧ u.cell? ⟨G1, 3, Option.none⟩ = some (.int .i64 a.c.s) ∧ u.cell? ⟨G1, 4, Option.none⟩ = some (.int .i64 a.c.a) ∧ u.cell? ⟨G1, 5, Option.none⟩ = some (.int .i64 a.c.e) ∧ u.cell? ⟨G1, 6, Option.none⟩ = some (.int .i64 a.p) ∧ u.cell? ⟨G1, 7, Option.none⟩ = some (.int .i64 a.b) ∧ u.cell? ⟨G1, 8, Option.none⟩ = some (.int .i64 a.s) ∧ u.cell? ⟨G1, 9, Option.none⟩ = some (.int .i64 a.e) ∧ u.cell? ⟨G3, 0, Option.none⟩ = some (.int .u64 a.id) ∧ u.cell? ⟨G3, 1, Option.none⟩ = some (.int .u64 a.cu) ∧ u.cell? ⟨G3, 2, Option.none⟩ = some (.int .u64 a.pl) ∧ u.cell? ⟨G3, 3, Option.none⟩ = some (.int .i64 a.c.s) ∧ u.cell? ⟨G3, 4, Option.none⟩ = some (.int .i64 a.c.a) ∧ u.cell? ⟨G3, 5, Option.none⟩ = some (.int .i64 a.c.e) ∧ u.cell? ⟨G3, 6, Option.none⟩ = some (.int .i64 a.p) ∧ u.cell? ⟨G3, 7, Option.none⟩ = some (.int .i64 a.b) ∧ u.cell? ⟨G3, 8, Option.none⟩ = some (.int .i64 a.s) ∧ u.cell? ⟨G3, 9, Option.none⟩ = some (.int .i64 a.e) ∧ Below W.heap.size W u)
    (exact PK.out _ (by assumption))
    (first | (go_at_call 13; (try go_split_ands); refine (KS.out _ (by assumption)).mono ?_; rintro e u1 ⟨rfl, hb1⟩) | (go_at_call 14; (try go_split_ands); refine (KC.out _ (by assumption)).mono ?_; rintro e u2 ⟨rfl, hb2⟩) | (go_at_call 15; (try go_split_ands); refine (KD.out _ (by assumption)).mono ?_; rintro e u3 ⟨rfl, hb3⟩) | (go_at_call 16; (try go_split_ands); refine (KH.out _ (by assumption)).mono ?_; rintro e u4 ⟨rfl, hb4⟩))
  go_split_ands
  go_wp2_with fail
  go_ret
  exact ⟨rfl, D.out.trans (hb4.mono D.out.size)⟩
end Go.Proofs.YtjchecjonkmhgaaDoor.Su
