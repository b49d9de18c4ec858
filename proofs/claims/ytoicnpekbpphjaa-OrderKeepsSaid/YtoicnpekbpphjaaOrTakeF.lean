/- Package order: takeField. -/
import Derived.Test.YtoicnpekbpphjaaOrTakeS
import Derived.Test.YtoicnpekbpphjaaOrRBytes
namespace Go.Proofs.Ytoicnpekbpphjaa.Or
open Go.RowKit Cm
def outF : Option (Fd × List UInt8) → Value
  | none => .tuple #[.agg #[.int .u64 0, .int .i64 0, .string ⟨#[]⟩], .string ⟨#[]⟩, .bool false]
  | some (f, r) => .tuple #[.agg #[.int .u64 f.n, .int .i64 f.i, .string f.s], .string ⟨r.toArray⟩, .bool true]
theorem FdAt.setn {w : World} {b : Nat} {f : Fd} (h : FdAt w b f) (z : Int) : FdAt (w.setCell ⟨b, 0, none⟩ (.int .u64 z)) b ⟨z, f.i, f.s⟩ := by
  obtain ⟨h0, h1, h2, h3⟩ := h
  exact ⟨World.cell?_setCell_same w _ _ h0, (World.cell?_setCell_other w _ _ _ (by simp)).trans h1, (World.cell?_setCell_other w _ _ _ (by simp)).trans h2, by simpa [World.setCell] using h3⟩
theorem FdAt.seti {w : World} {b : Nat} {f : Fd} (h : FdAt w b f) (z : Int) : FdAt (w.setCell ⟨b, 1, none⟩ (.int .i64 z)) b ⟨f.n, z, f.s⟩ := by
  obtain ⟨h0, h1, h2, h3⟩ := h
  exact ⟨(World.cell?_setCell_other w _ _ _ (by simp)).trans h0, World.cell?_setCell_same w _ _ h1, (World.cell?_setCell_other w _ _ _ (by simp)).trans h2, by simpa [World.setCell] using h3⟩
theorem FdAt.sets {w : World} {b : Nat} {f : Fd} (h : FdAt w b f) (z : ByteArray) : FdAt (w.setCell ⟨b, 2, none⟩ (.string z)) b ⟨f.n, f.i, z⟩ := by
  obtain ⟨h0, h1, h2, h3⟩ := h
  exact ⟨(World.cell?_setCell_other w _ _ _ (by simp)).trans h0, (World.cell?_setCell_other w _ _ _ (by simp)).trans h1, World.cell?_setCell_same w _ _ h2, by simpa [World.setCell] using h3⟩
def putFd (w : World) (b : Nat) (f : Fd) : World := ((w.setCell ⟨b, 0, none⟩ (.int .u64 f.n)).setCell ⟨b, 1, none⟩ (.int .i64 f.i)).setCell ⟨b, 2, none⟩ (.string f.s)
theorem FdAt.put {w : World} {b : Nat} {g : Fd} (h : FdAt w b g) (f : Fd) : FdAt (putFd w b f) b f := ((h.setn f.n).seti f.i).sets f.s
theorem below_putFd {B : Nat} {w0 w : World} {b : Nat} (h : Below B w0 w) (hb : B ≤ b) (f : Fd) : Below B w0 (putFd w b f) := ((h.setCell (p := ⟨b, 0, none⟩) hb _).setCell (p := ⟨b, 1, none⟩) hb _).setCell (p := ⟨b, 2, none⟩) hb _
theorem fold_putFd (w : World) (b : Nat) (n i : Int) (s : ByteArray) : ((w.setCell ⟨b, 0, none⟩ (.int .u64 n)).setCell ⟨b, 1, none⟩ (.int .i64 i)).setCell ⟨b, 2, none⟩ (.string s) = putFd w b ⟨n, i, s⟩ := rfl
set_option maxRecDepth 100000 in
set_option maxHeartbeats 3200000 in
theorem takeField_c (c : UInt8) (F : ByteArray) (w : World) (hc : Letter c) (hF : 0 < F.size) (hF9 : F.size ≤ 100000) : Calls Try.prog 37 #[.int .u8 (c.toNat : Int), .string F] w fun e w' => e = .returned (outF (takeF c F.data.toList)) ∧ Below w.heap.size w w' := by
  have hF0 := Lib.hid (fd_new w ⟨0, 0, ⟨#[]⟩⟩ 47)
  have hB0 := Lib.hid ((Below.refl w.heap.size w).alloc (Nat.le_refl _) (.cells #[.int .u64 0, .int .i64 0, .string ⟨#[]⟩] 47))
  have hZ0 := Lib.hid (show ∀ j, (w.alloc (.cells #[.int .u64 0, .int .i64 0, .string ⟨#[]⟩] 47)).frozen? ⟨w.heap.size, j, none⟩ = false from fun j => World.frozen?_alloc_at _ _ _ _ rfl)
  rcases hc with hc | hc | hc
  · have d1 : ((c.toNat : Int) == 110) = true := beq_iff_eq.2 (by omega)
    have KN := Lib.hid (fun w => takeNumber_c F 0 false w (by omega) hF hF9)
    have hT : takeF c F.data.toList = (tnum 0 false F.data.toList).map fun x => (⟨x.1, 0, ⟨#[]⟩⟩, x.2) := by unfold takeF; rw [if_pos hc]
    cases ht : tnum 0 false F.data.toList with
    | none =>
      rw [ht] at hT
      have HT := Lib.hid hT
      have K1 := Lib.hid (fun w => ht ▸ KN.out w)
      clear hT ht hc
      go_enter Try.func37, Try.ntmps37
      go_wp2_with fail
      refine (K1.out _).mono ?_
      rintro e w2 ⟨rfl, b2⟩
      have B2 := Lib.hid ((hB0.out.trans (b2.mono hB0.out.size)).setCell (p := ⟨w.heap.size, 0, none⟩) (Nat.le_refl _) (.int .u64 0))
      have X1 := hF0.out.later b2
      have X3 := Lib.hid (X1.setn 0)
      have z2 : ∀ j, w2.frozen? ⟨w.heap.size, j, none⟩ = false := fun j => (b2.frozen (p := ⟨w.heap.size, j, none⟩) hF0.out.2.2.2).trans (hZ0.out j)
      have f0 := z2 0
      have f1 := z2 1
      have f2 := z2 2
      obtain ⟨c0, c1, c2, c3⟩ := X1
      simp only at c0 c1 c2
      clear b2 z2 c3
      unfold outN
      go_wp2_with fail
      generalize w2.setCell ⟨w.heap.size, 0, none⟩ (.int .u64 0) = W3 at X3 B2 ⊢
      rw [fold_putFd]
      obtain ⟨e0, e1, e2, _⟩ := X3.out.put (⟨0, 0, ⟨#[]⟩⟩)
      have B4 := below_putFd B2.out (Nat.le_refl _) (⟨0, 0, ⟨#[]⟩⟩)
      generalize putFd W3 w.heap.size (⟨0, 0, ⟨#[]⟩⟩) = W5 at e0 e1 e2 B4 ⊢
      simp only at e0 e1 e2
      refine bodyPost_ret (v := outF (none)) (by simp [results, Try.results37, go_sem, outF, e0, e1, e2]) rfl ⟨by rw [HT.out]; rfl, B4⟩
    | some x =>
      rw [ht] at hT
      have HT := Lib.hid hT
      have K1 := Lib.hid (fun w => ht ▸ KN.out w)
      clear hT ht hc
      go_enter Try.func37, Try.ntmps37
      go_wp2_with fail
      refine (K1.out _).mono ?_
      rintro e w2 ⟨rfl, b2⟩
      have B2 := Lib.hid ((hB0.out.trans (b2.mono hB0.out.size)).setCell (p := ⟨w.heap.size, 0, none⟩) (Nat.le_refl _) (.int .u64 (x.1 : Int)))
      have X1 := hF0.out.later b2
      have X3 := Lib.hid (X1.setn (x.1 : Int))
      have z2 : ∀ j, w2.frozen? ⟨w.heap.size, j, none⟩ = false := fun j => (b2.frozen (p := ⟨w.heap.size, j, none⟩) hF0.out.2.2.2).trans (hZ0.out j)
      have f0 := z2 0
      have f1 := z2 1
      have f2 := z2 2
      obtain ⟨c0, c1, c2, c3⟩ := X1
      simp only at c0 c1 c2
      clear b2 z2 c3
      unfold outN
      go_wp2_with fail
      generalize w2.setCell ⟨w.heap.size, 0, none⟩ (.int .u64 (x.1 : Int)) = W3 at X3 B2 ⊢
      rw [fold_putFd]
      obtain ⟨e0, e1, e2, _⟩ := X3.out.put (⟨(x.1 : Int), 0, ⟨#[]⟩⟩)
      have B4 := below_putFd B2.out (Nat.le_refl _) (⟨(x.1 : Int), 0, ⟨#[]⟩⟩)
      generalize putFd W3 w.heap.size (⟨(x.1 : Int), 0, ⟨#[]⟩⟩) = W5 at e0 e1 e2 B4 ⊢
      simp only at e0 e1 e2
      refine bodyPost_ret (v := outF (some (⟨(x.1 : Int), 0, ⟨#[]⟩⟩, x.2))) (by simp [results, Try.results37, go_sem, outF, e0, e1, e2]) rfl ⟨by rw [HT.out]; rfl, B4⟩
  · have d1 : ((c.toNat : Int) == 110) = false := beq_eq_false_iff_ne.2 (by omega)
    have d2 : ((c.toNat : Int) == 105) = true := beq_iff_eq.2 (by omega)
    have KN := Lib.hid (fun w => takeInteger_c F w hF hF9)
    have hT : takeF c F.data.toList = (takeI F.data.toList).map fun x => (⟨0, x.1, ⟨#[]⟩⟩, x.2) := by unfold takeF; rw [if_neg (by omega), if_pos hc]
    cases ht : takeI F.data.toList with
    | none =>
      rw [ht] at hT
      have HT := Lib.hid hT
      have K1 := Lib.hid (fun w => ht ▸ KN.out w)
      clear hT ht hc
      go_enter Try.func37, Try.ntmps37
      go_wp2_with fail
      refine (K1.out _).mono ?_
      rintro e w2 ⟨rfl, b2⟩
      have B2 := Lib.hid ((hB0.out.trans (b2.mono hB0.out.size)).setCell (p := ⟨w.heap.size, 1, none⟩) (Nat.le_refl _) (.int .i64 0))
      have X1 := hF0.out.later b2
      have X3 := Lib.hid (X1.seti 0)
      have z2 : ∀ j, w2.frozen? ⟨w.heap.size, j, none⟩ = false := fun j => (b2.frozen (p := ⟨w.heap.size, j, none⟩) hF0.out.2.2.2).trans (hZ0.out j)
      have f0 := z2 0
      have f1 := z2 1
      have f2 := z2 2
      obtain ⟨c0, c1, c2, c3⟩ := X1
      simp only at c0 c1 c2
      clear b2 z2 c3
      unfold outI
      go_wp2_with fail
      generalize w2.setCell ⟨w.heap.size, 1, none⟩ (.int .i64 0) = W3 at X3 B2 ⊢
      rw [fold_putFd]
      obtain ⟨e0, e1, e2, _⟩ := X3.out.put (⟨0, 0, ⟨#[]⟩⟩)
      have B4 := below_putFd B2.out (Nat.le_refl _) (⟨0, 0, ⟨#[]⟩⟩)
      generalize putFd W3 w.heap.size (⟨0, 0, ⟨#[]⟩⟩) = W5 at e0 e1 e2 B4 ⊢
      simp only at e0 e1 e2
      refine bodyPost_ret (v := outF (none)) (by simp [results, Try.results37, go_sem, outF, e0, e1, e2]) rfl ⟨by rw [HT.out]; rfl, B4⟩
    | some x =>
      rw [ht] at hT
      have HT := Lib.hid hT
      have K1 := Lib.hid (fun w => ht ▸ KN.out w)
      clear hT ht hc
      go_enter Try.func37, Try.ntmps37
      go_wp2_with fail
      refine (K1.out _).mono ?_
      rintro e w2 ⟨rfl, b2⟩
      have B2 := Lib.hid ((hB0.out.trans (b2.mono hB0.out.size)).setCell (p := ⟨w.heap.size, 1, none⟩) (Nat.le_refl _) (.int .i64 x.1))
      have X1 := hF0.out.later b2
      have X3 := Lib.hid (X1.seti x.1)
      have z2 : ∀ j, w2.frozen? ⟨w.heap.size, j, none⟩ = false := fun j => (b2.frozen (p := ⟨w.heap.size, j, none⟩) hF0.out.2.2.2).trans (hZ0.out j)
      have f0 := z2 0
      have f1 := z2 1
      have f2 := z2 2
      obtain ⟨c0, c1, c2, c3⟩ := X1
      simp only at c0 c1 c2
      clear b2 z2 c3
      unfold outI
      go_wp2_with fail
      generalize w2.setCell ⟨w.heap.size, 1, none⟩ (.int .i64 x.1) = W3 at X3 B2 ⊢
      rw [fold_putFd]
      obtain ⟨e0, e1, e2, _⟩ := X3.out.put (⟨0, x.1, ⟨#[]⟩⟩)
      have B4 := below_putFd B2.out (Nat.le_refl _) (⟨0, x.1, ⟨#[]⟩⟩)
      generalize putFd W3 w.heap.size (⟨0, x.1, ⟨#[]⟩⟩) = W5 at e0 e1 e2 B4 ⊢
      simp only at e0 e1 e2
      refine bodyPost_ret (v := outF (some (⟨0, x.1, ⟨#[]⟩⟩, x.2))) (by simp [results, Try.results37, go_sem, outF, e0, e1, e2]) rfl ⟨by rw [HT.out]; rfl, B4⟩
  · have d1 : ((c.toNat : Int) == 110) = false := beq_eq_false_iff_ne.2 (by omega)
    have d2 : ((c.toNat : Int) == 105) = false := beq_eq_false_iff_ne.2 (by omega)
    have d3 : ((c.toNat : Int) == 115) = true := beq_iff_eq.2 (by omega)
    have KN := Lib.hid (fun w => takeString_c F w hF9)
    have hT : takeF c F.data.toList = (takeS F.data.toList).map fun x => (⟨0, 0, ⟨x.1.toArray⟩⟩, x.2) := by unfold takeF; rw [if_neg (by omega), if_neg (by omega)]
    cases ht : takeS F.data.toList with
    | none =>
      rw [ht] at hT
      have HT := Lib.hid hT
      have K1 := Lib.hid (fun w => ht ▸ KN.out w)
      clear hT ht hc
      go_enter Try.func37, Try.ntmps37
      go_wp2_with fail
      refine (K1.out _).mono ?_
      rintro e w2 ⟨rfl, b2⟩
      have B2 := Lib.hid ((hB0.out.trans (b2.mono hB0.out.size)).setCell (p := ⟨w.heap.size, 2, none⟩) (Nat.le_refl _) (.string ⟨#[]⟩))
      have X1 := hF0.out.later b2
      have X3 := Lib.hid (X1.sets ⟨#[]⟩)
      have z2 : ∀ j, w2.frozen? ⟨w.heap.size, j, none⟩ = false := fun j => (b2.frozen (p := ⟨w.heap.size, j, none⟩) hF0.out.2.2.2).trans (hZ0.out j)
      have f0 := z2 0
      have f1 := z2 1
      have f2 := z2 2
      obtain ⟨c0, c1, c2, c3⟩ := X1
      simp only at c0 c1 c2
      clear b2 z2 c3
      unfold outS
      go_wp2_with fail
      generalize w2.setCell ⟨w.heap.size, 2, none⟩ (.string ⟨#[]⟩) = W3 at X3 B2 ⊢
      rw [fold_putFd]
      obtain ⟨e0, e1, e2, _⟩ := X3.out.put (⟨0, 0, ⟨#[]⟩⟩)
      have B4 := below_putFd B2.out (Nat.le_refl _) (⟨0, 0, ⟨#[]⟩⟩)
      generalize putFd W3 w.heap.size (⟨0, 0, ⟨#[]⟩⟩) = W5 at e0 e1 e2 B4 ⊢
      simp only at e0 e1 e2
      refine bodyPost_ret (v := outF (none)) (by simp [results, Try.results37, go_sem, outF, e0, e1, e2]) rfl ⟨by rw [HT.out]; rfl, B4⟩
    | some x =>
      rw [ht] at hT
      have HT := Lib.hid hT
      have K1 := Lib.hid (fun w => ht ▸ KN.out w)
      clear hT ht hc
      go_enter Try.func37, Try.ntmps37
      go_wp2_with fail
      refine (K1.out _).mono ?_
      rintro e w2 ⟨rfl, b2⟩
      have B2 := Lib.hid ((hB0.out.trans (b2.mono hB0.out.size)).setCell (p := ⟨w.heap.size, 2, none⟩) (Nat.le_refl _) (.string ⟨x.1.toArray⟩))
      have X1 := hF0.out.later b2
      have X3 := Lib.hid (X1.sets ⟨x.1.toArray⟩)
      have z2 : ∀ j, w2.frozen? ⟨w.heap.size, j, none⟩ = false := fun j => (b2.frozen (p := ⟨w.heap.size, j, none⟩) hF0.out.2.2.2).trans (hZ0.out j)
      have f0 := z2 0
      have f1 := z2 1
      have f2 := z2 2
      obtain ⟨c0, c1, c2, c3⟩ := X1
      simp only at c0 c1 c2
      clear b2 z2 c3
      unfold outS
      go_wp2_with fail
      generalize w2.setCell ⟨w.heap.size, 2, none⟩ (.string ⟨x.1.toArray⟩) = W3 at X3 B2 ⊢
      rw [fold_putFd]
      obtain ⟨e0, e1, e2, _⟩ := X3.out.put (⟨0, 0, ⟨x.1.toArray⟩⟩)
      have B4 := below_putFd B2.out (Nat.le_refl _) (⟨0, 0, ⟨x.1.toArray⟩⟩)
      generalize putFd W3 w.heap.size (⟨0, 0, ⟨x.1.toArray⟩⟩) = W5 at e0 e1 e2 B4 ⊢
      simp only at e0 e1 e2
      refine bodyPost_ret (v := outF (some (⟨0, 0, ⟨x.1.toArray⟩⟩, x.2))) (by simp [results, Try.results37, go_sem, outF, e0, e1, e2]) rfl ⟨by rw [HT.out]; rfl, B4⟩
end Go.Proofs.Ytoicnpekbpphjaa.Or
