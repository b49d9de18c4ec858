/- Package journal: the document's SameLines, Same, alike, Less. -/
import Derived.Test.YtnblilonjpfdnaaJnRev
import Derived.Deep.LoopGhost
import Derived.BigQuiet
import Derived.Deep.QuietTactic
import Derived.Deep.DeepCutAuto
import Derived.Laws.StructEq
import Derived.Laws.Cover2
namespace Go.Proofs.Ytnblilonjpfdnaa.Jn
open Go Go.RowKit Ck
theorem line_eq (x a b c : Int) (u : World) : (binOp .neq TLine (.agg #[.int .i64 x, .int .u64 a, .int .u64 b, .int .i64 c]) (.agg #[.int .i64 x, .int .u64 a, .int .u64 b, .int .i64 c])).run Try.prog u = .ok (.bool false) u := by
  have key : (Op.equalIn 10000 TLine (.agg #[.int .i64 x, .int .u64 a, .int .u64 b, .int .i64 c]) (.agg #[.int .i64 x, .int .u64 a, .int .u64 b, .int .i64 c])).run Try.prog u = .ok true u := by
    have u3 := Try.underlying3
    have a3 := Try.isAgg3
    have z3 := Try.sizeOf3
    have u2 := Try.underlying2
    have a2 := Try.isAgg2
    have z2 := Try.sizeOf2
    have u4 := Try.underlying22
    have a4 := Try.isAgg22
    have z4 := Try.sizeOf22
    have hS : Try.prog.underlying TLine = some (.struct (Try.prog.fieldsOf TLine)) := by kernel_rfl
    rw [show (10000 : Nat) = 9999 + 1 from rfl, run_equalIn_agg u 9999 TLine _ _ hS (by kernel_rfl)]
    simp only [Program.fieldsOf, Try.underlying67]
    go_simp
  rw [run_neq_struct, key]
  rfl
theorem below_drewN {B : Nat} {a w : World} (h : Below B a w) (n : Nat) : Below B a (w.drewN n) := ⟨h.os, h.tape, h.output, h.size, h.block⟩
section
set_option maxRecDepth 100000
set_option maxHeartbeats 1600000
theorem sameL_c (L : List Ln) (a b : Option Addr) (ca cb : Nat) (w : World) (h : Lns w a L) (h' : Lns w b L) (hl : L.length ≤ 1000000) : Calls Try.prog 24 #[.slice a L.length ca, .slice b L.length cb] w fun e w' => e = .returned (.bool true) ∧ Below w.heap.size w w' := by
  have H := Lib.hid h
  have H' := Lib.hid h'
  have HL := Lib.hid hl
  clear h h'
  go_enter Try.func24, Try.ntmps24
  go_upto_region 4 with (fail)
  go_loopg [5] L.length (fun kx s5 wr => ∃ i : Nat, s5 = .int .i64 (i : Int) ∧ i ≤ L.length ∧ Hid (Below w.heap.size w wr) ∧ L.length ≤ i + kx)
  case atStart => exact ⟨0, rfl, Nat.zero_le _, Below.refl _ _, by omega⟩
  case round =>
    obtain ⟨i, rfl, hi9, HB, hkx⟩ := hrel
    by_cases hlt : i < L.length
    · obtain ⟨ab, ao, rfl, _, hc⟩ := (H.out.later HB.out) i hlt
      obtain ⟨bb, bo, rfl, _, hd⟩ := (H'.out.later HB.out) i hlt
      have c0 := hc 0 _ rfl
      have c1 := hc 1 _ rfl
      have c2 := hc 2 _ rfl
      have c3 := hc 3 _ rfl
      have d0 := hd 0 _ rfl
      have d1 := hd 1 _ rfl
      have d2 := hd 2 _ rfl
      have d3 := hd 3 _ rfl
      have j0 : (0 : Int) ≤ (i : Int) := by omega
      have j1 : (i : Int) < (L.length : Int) := by omega
      obtain ⟨x, hx⟩ : ∃ x, x = L[i] := ⟨_, rfl⟩
      rw [← hx] at c0 c1 c2 c3 d0 d1 d2 d3
      rw [Nat.add_zero] at c0 d0
      clear hc hd hx hlt
      obtain ⟨xa, xb, xc, xd⟩ := x
      simp only at c0 c1 c2 c3 d0 d1 d2 d3
      have heq := fun u => line_eq xa xb xc xd u
      go_wp2_with fail
      go_quiet (fail)
      go_wp2_with fail
      go_roundg (L.length - (i + 1))
      case measure => omega
      case rel => exact ⟨i + 1, by simp, by omega, below_drewN HB.out _, by omega⟩
    · obtain rfl : i = L.length := by omega
      clear hkx hlt hi9
      go_wp2_with fail
      go_ret
      exact ⟨rfl, HB.out⟩
theorem sameE_c (d k s : Int) (L : List Ln) (a b : Option Addr) (ca cb : Nat) (w : World) (h : Lns w a L) (h' : Lns w b L) (hl : L.length ≤ 1000000) : Calls Try.prog 21 #[(.agg #[.int .i64 d, .int .u8 k, .int .u64 s, .slice a L.length ca]), (.agg #[.int .i64 d, .int .u8 k, .int .u64 s, .slice b L.length cb])] w fun e w' => e = .returned (.bool true) ∧ Below w.heap.size w w' := by
  have B0 : Hid (Below w.heap.size w ((w.alloc (.cells #[.int .i64 d, .int .u8 k, .int .u64 s, .slice a L.length ca] TEn)).alloc (.cells #[.int .i64 d, .int .u8 k, .int .u64 s, .slice b L.length cb] TEn))) := ((Below.refl _ w).alloc (Nat.le_refl _) _).alloc (by simp) _
  have R0 : Hid (Rw ((w.alloc (.cells #[.int .i64 d, .int .u8 k, .int .u64 s, .slice a L.length ca] TEn)).alloc (.cells #[.int .i64 d, .int .u8 k, .int .u64 s, .slice b L.length cb] TEn)) w.heap.size TEn [.int .i64 d, .int .u8 k, .int .u64 s, .slice a L.length ca]) := (Rw.new w [.int .i64 d, .int .u8 k, .int .u64 s, .slice a L.length ca] TEn).later ((Below.refl _ _).alloc (Nat.le_refl _) _)
  have P0 : Hid (Rw ((w.alloc (.cells #[.int .i64 d, .int .u8 k, .int .u64 s, .slice a L.length ca] TEn)).alloc (.cells #[.int .i64 d, .int .u8 k, .int .u64 s, .slice b L.length cb] TEn)) (w.heap.size + 1) TEn [.int .i64 d, .int .u8 k, .int .u64 s, .slice b L.length cb]) := by
    have := Rw.new (w.alloc (.cells #[.int .i64 d, .int .u8 k, .int .u64 s, .slice a L.length ca] TEn)) [.int .i64 d, .int .u8 k, .int .u64 s, .slice b L.length cb] TEn
    rwa [World.size_alloc] at this
  have KS : Hid (∀ u, Below w.heap.size w u → Calls Try.prog 24 #[.slice a L.length ca, .slice b L.length cb] u fun e w' => e = .returned (.bool true) ∧ Below u.heap.size u w') := fun u hu => sameL_c L a b ca cb u (h.later hu) (h'.later hu) hl
  clear h h' hl
  go_enter Try.func21, Try.ntmps21
  go_upto_region 1 with (fail)
  obtain ⟨b1, hb1⟩ : ∃ b1, b1 = w.heap.size := ⟨_, rfl⟩
  obtain ⟨b2, hb2⟩ : ∃ b2, b2 = w.heap.size + 1 := ⟨_, rfl⟩
  rw [← hb2] at P0 ⊢
  rw [← hb1] at R0
  generalize (w.alloc (.cells #[.int .i64 d, .int .u8 k, .int .u64 s, .slice a L.length ca] TEn)).alloc (.cells #[.int .i64 d, .int .u8 k, .int .u64 s, .slice b L.length cb] TEn) = W0 at B0 R0 P0 ⊢
  rw [← hb1]
  clear hb1 hb2
  have p0 : W0.cell? ⟨b1, 0, none⟩ = some (.int .i64 d) := R0.out.cell 0
  have p1 : W0.cell? ⟨b1, 1, none⟩ = some (.int .u8 k) := R0.out.cell 1
  have p2 : W0.cell? ⟨b1, 2, none⟩ = some (.int .u64 s) := R0.out.cell 2
  have p3 : W0.cell? ⟨b1, 3, none⟩ = some (.slice a L.length ca) := R0.out.cell 3
  have q0 : W0.cell? ⟨b2, 0, none⟩ = some (.int .i64 d) := P0.out.cell 0
  have q1 : W0.cell? ⟨b2, 1, none⟩ = some (.int .u8 k) := P0.out.cell 1
  have q2 : W0.cell? ⟨b2, 2, none⟩ = some (.int .u64 s) := P0.out.cell 2
  have q3 : W0.cell? ⟨b2, 3, none⟩ = some (.slice b L.length cb) := P0.out.cell 3
  go_wp2_with fail
  refine (KS.out W0 B0.out).mono ?_
  rintro _ W1 ⟨rfl, hb1⟩
  have HB1 : Hid (Below w.heap.size w W1) := B0.out.trans (hb1.mono B0.out.size)
  clear p0 p1 p2 p3 q0 q1 q2 q3 hb1
  go_wp2_with fail
  go_ret
  exact ⟨rfl, HB1.out⟩
theorem ret_bool {z r : Bool} (h : r = z) : Ending.returned (.bool z) = Ending.returned (.bool r) := by rw [h]
theorem alike_c (x y : Ln) (w : World) : Calls Try.prog 60 #[x.val, y.val] w fun e w' => e = .returned (.bool (decide (x.key = y.key))) ∧ Below w.heap.size w w' := by
  obtain ⟨xa, xb, xc, xd⟩ := x
  obtain ⟨ya, yb, yc, yd⟩ := y
  unfold Ln.val
  simp only
  have B0 : Hid (Below w.heap.size w ((w.alloc (.cells #[.int .i64 xa, .int .u64 xb, .int .u64 xc, .int .i64 xd] TLine)).alloc (.cells #[.int .i64 ya, .int .u64 yb, .int .u64 yc, .int .i64 yd] TLine))) := ((Below.refl _ w).alloc (Nat.le_refl _) _).alloc (by simp) _
  have R0 : Hid (Rw ((w.alloc (.cells #[.int .i64 xa, .int .u64 xb, .int .u64 xc, .int .i64 xd] TLine)).alloc (.cells #[.int .i64 ya, .int .u64 yb, .int .u64 yc, .int .i64 yd] TLine)) w.heap.size TLine [.int .i64 xa, .int .u64 xb, .int .u64 xc, .int .i64 xd]) := (Rw.new w [.int .i64 xa, .int .u64 xb, .int .u64 xc, .int .i64 xd] TLine).later ((Below.refl _ _).alloc (Nat.le_refl _) _)
  have P0 : Hid (Rw ((w.alloc (.cells #[.int .i64 xa, .int .u64 xb, .int .u64 xc, .int .i64 xd] TLine)).alloc (.cells #[.int .i64 ya, .int .u64 yb, .int .u64 yc, .int .i64 yd] TLine)) (w.heap.size + 1) TLine [.int .i64 ya, .int .u64 yb, .int .u64 yc, .int .i64 yd]) := by
    have := Rw.new (w.alloc (.cells #[.int .i64 xa, .int .u64 xb, .int .u64 xc, .int .i64 xd] TLine)) [.int .i64 ya, .int .u64 yb, .int .u64 yc, .int .i64 yd] TLine
    rwa [World.size_alloc] at this
  obtain ⟨r, hr⟩ : ∃ r, r = decide ((Ln.mk xa xb xc xd).key = (Ln.mk ya yb yc yd).key) := ⟨_, rfl⟩
  rw [← hr]
  have HR := Lib.hid hr
  clear hr
  go_enter Try.func60, Try.ntmps60
  go_upto_region 1 with (fail)
  obtain ⟨b1, hb1⟩ : ∃ b1, b1 = w.heap.size := ⟨_, rfl⟩
  obtain ⟨b2, hb2⟩ : ∃ b2, b2 = w.heap.size + 1 := ⟨_, rfl⟩
  rw [← hb2] at P0 ⊢
  rw [← hb1] at R0
  generalize (w.alloc (.cells #[.int .i64 xa, .int .u64 xb, .int .u64 xc, .int .i64 xd] TLine)).alloc (.cells #[.int .i64 ya, .int .u64 yb, .int .u64 yc, .int .i64 yd] TLine) = W0 at B0 R0 P0 ⊢
  rw [← hb1]
  clear hb1 hb2
  have p0 : W0.cell? ⟨b1, 0, none⟩ = some (.int .i64 xa) := R0.out.cell 0
  have p1 : W0.cell? ⟨b1, 1, none⟩ = some (.int .u64 xb) := R0.out.cell 1
  have p2 : W0.cell? ⟨b1, 2, none⟩ = some (.int .u64 xc) := R0.out.cell 2
  have q0 : W0.cell? ⟨b2, 0, none⟩ = some (.int .i64 ya) := P0.out.cell 0
  have q1 : W0.cell? ⟨b2, 1, none⟩ = some (.int .u64 yb) := P0.out.cell 1
  have q2 : W0.cell? ⟨b2, 2, none⟩ = some (.int .u64 yc) := P0.out.cell 2
  by_cases h1 : xa = ya
  · have n1 : (xa == ya) = true := beq_iff_eq.2 h1
    by_cases h2 : xb = yb
    · have n2 : (xb == yb) = true := beq_iff_eq.2 h2
      by_cases h3 : xc = yc
      · subst h1 h2 h3
        clear n1 n2
        go_wp2_with fail
        go_ret
        exact ⟨ret_bool (by rw [HR.out]; unfold Ln.key; simp), B0.out⟩
      · have n3 : (xc == yc) = false := beq_eq_false_iff_ne.2 h3
        have HN := Lib.hid h3
        subst h1 h2
        clear n1 n2 h3
        go_wp2_with fail
        go_ret
        exact ⟨ret_bool (by rw [HR.out]; unfold Ln.key; simp [HN.out]), B0.out⟩
    · have n2 : (xb == yb) = false := beq_eq_false_iff_ne.2 h2
      have HN := Lib.hid h2
      subst h1
      clear n1 h2
      go_wp2_with fail
      go_ret
      exact ⟨ret_bool (by rw [HR.out]; unfold Ln.key; simp [HN.out]), B0.out⟩
  · have n1 : (xa == ya) = false := beq_eq_false_iff_ne.2 h1
    have HN := Lib.hid h1
    clear h1
    go_wp2_with fail
    go_ret
    exact ⟨ret_bool (by rw [HR.out]; unfold Ln.key; simp [HN.out]), B0.out⟩
theorem lessL_c (x y : Ln) (w : World) : Calls Try.prog 29 #[x.val, y.val] w fun e w' => e = .returned (.bool (decide (klt x.key y.key))) ∧ Below w.heap.size w w' := by
  obtain ⟨xa, xb, xc, xd⟩ := x
  obtain ⟨ya, yb, yc, yd⟩ := y
  unfold Ln.val
  simp only
  have B0 : Hid (Below w.heap.size w ((w.alloc (.cells #[.int .i64 xa, .int .u64 xb, .int .u64 xc, .int .i64 xd] TLine)).alloc (.cells #[.int .i64 ya, .int .u64 yb, .int .u64 yc, .int .i64 yd] TLine))) := ((Below.refl _ w).alloc (Nat.le_refl _) _).alloc (by simp) _
  have R0 : Hid (Rw ((w.alloc (.cells #[.int .i64 xa, .int .u64 xb, .int .u64 xc, .int .i64 xd] TLine)).alloc (.cells #[.int .i64 ya, .int .u64 yb, .int .u64 yc, .int .i64 yd] TLine)) w.heap.size TLine [.int .i64 xa, .int .u64 xb, .int .u64 xc, .int .i64 xd]) := (Rw.new w [.int .i64 xa, .int .u64 xb, .int .u64 xc, .int .i64 xd] TLine).later ((Below.refl _ _).alloc (Nat.le_refl _) _)
  have P0 : Hid (Rw ((w.alloc (.cells #[.int .i64 xa, .int .u64 xb, .int .u64 xc, .int .i64 xd] TLine)).alloc (.cells #[.int .i64 ya, .int .u64 yb, .int .u64 yc, .int .i64 yd] TLine)) (w.heap.size + 1) TLine [.int .i64 ya, .int .u64 yb, .int .u64 yc, .int .i64 yd]) := by
    have := Rw.new (w.alloc (.cells #[.int .i64 xa, .int .u64 xb, .int .u64 xc, .int .i64 xd] TLine)) [.int .i64 ya, .int .u64 yb, .int .u64 yc, .int .i64 yd] TLine
    rwa [World.size_alloc] at this
  obtain ⟨r, hr⟩ : ∃ r, r = decide (klt (Ln.mk xa xb xc xd).key (Ln.mk ya yb yc yd).key) := ⟨_, rfl⟩
  rw [← hr]
  have HR := Lib.hid hr
  clear hr
  go_enter Try.func29, Try.ntmps29
  go_upto_region 1 with (fail)
  obtain ⟨b1, hb1⟩ : ∃ b1, b1 = w.heap.size := ⟨_, rfl⟩
  obtain ⟨b2, hb2⟩ : ∃ b2, b2 = w.heap.size + 1 := ⟨_, rfl⟩
  rw [← hb2] at P0 ⊢
  rw [← hb1] at R0
  generalize (w.alloc (.cells #[.int .i64 xa, .int .u64 xb, .int .u64 xc, .int .i64 xd] TLine)).alloc (.cells #[.int .i64 ya, .int .u64 yb, .int .u64 yc, .int .i64 yd] TLine) = W0 at B0 R0 P0 ⊢
  rw [← hb1]
  clear hb1 hb2
  have p0 : W0.cell? ⟨b1, 0, none⟩ = some (.int .i64 xa) := R0.out.cell 0
  have p1 : W0.cell? ⟨b1, 1, none⟩ = some (.int .u64 xb) := R0.out.cell 1
  have p2 : W0.cell? ⟨b1, 2, none⟩ = some (.int .u64 xc) := R0.out.cell 2
  have q0 : W0.cell? ⟨b2, 0, none⟩ = some (.int .i64 ya) := P0.out.cell 0
  have q1 : W0.cell? ⟨b2, 1, none⟩ = some (.int .u64 yb) := P0.out.cell 1
  have q2 : W0.cell? ⟨b2, 2, none⟩ = some (.int .u64 yc) := P0.out.cell 2
  by_cases h1 : xa = ya
  · subst h1
    by_cases h2 : xb = yb
    · subst h2
      have HC : Hid (r = decide (xc < yc)) := by
        show _ = _
        rw [HR.out]
        unfold Ln.key klt
        simp
      obtain ⟨z, hz⟩ : ∃ z, z = decide (xc < yc) := ⟨_, rfl⟩
      rw [← hz] at HC
      clear HR
      go_wp2_with fail
      go_ret
      exact ⟨ret_bool (by rw [HC.out, hz]), B0.out⟩
    · have n2 : (xb == yb) = false := beq_eq_false_iff_ne.2 h2
      have n3 : (xb != yb) = true := by simpa using h2
      have HC : Hid (r = decide (xb < yb)) := by
        show _ = _
        rw [HR.out]
        unfold Ln.key klt
        simp [h2]
      obtain ⟨z, hz⟩ : ∃ z, z = decide (xb < yb) := ⟨_, rfl⟩
      rw [← hz] at HC
      clear HR h2
      go_wp2_with fail
      go_ret
      exact ⟨ret_bool (by rw [HC.out, hz]), B0.out⟩
  · have n2 : (xa == ya) = false := beq_eq_false_iff_ne.2 h1
    have n3 : (xa != ya) = true := by simpa using h1
    have HC : Hid (r = decide (xa < ya)) := by
      show _ = _
      rw [HR.out]
      unfold Ln.key klt
      simp [h1]
    obtain ⟨z, hz⟩ : ∃ z, z = decide (xa < ya) := ⟨_, rfl⟩
    rw [← hz] at HC
    clear HR h1
    go_wp2_with fail
    go_ret
    exact ⟨ret_bool (by rw [HC.out, hz]), B0.out⟩
end
end Go.Proofs.Ytnblilonjpfdnaa.Jn
