/- Package drive: Copy. -/
import Derived.Test.YtjlncjabiofklaaDoorDwNew
namespace Go.Proofs.YtjlncjabiofklaaDoor.Dv
open Go Go.RowKit Rf
def ZWr : Array Value := (wc (0, List.replicate 64 0)).toArray
theorem infoW3 : (Tryd.prog.info? TW).map (fun i => (i.zero, i.size, i.bytes)) = some (some (.agg ZWr), 65, 72) := infoW
def mkz (m : Nat) : List Value := (madeCells ZWr (m * 65)).toList
theorem mkz_len (m : Nat) : (mkz m).length = m * 65 := by unfold mkz; rw [Array.length_toList, size_madeCells]
theorem mkW (m : Nat) (hm : m ≤ 100000) (u : World) : (Instr.makeSlice 48 (.int .i64 (m : Int)) (.int .i64 (m : Int))).run Tryd.prog u = .ok (.slice (some ⟨u.heap.size, 0, none⟩) m m) (u.alloc (.cells (mkz m).toArray TW)) := by
  obtain ⟨i0, hi, hz0, hz1, hz2⟩ := info_parts infoW3
  have h := run_make (P := Tryd.prog) u 48 TW i0 (.agg ZWr) Tryd.underlying48 hi hz0 .i64 .i64 (m : Int) (m : Int) (by omega) (Int.le_refl _) (by rw [hz2]; omega) (by omega)
  rw [hz1] at h
  rw [h]
  unfold mkz
  simp [Value.cells]
/-- 'copy' of nothing. -/
theorem run_copy_0 {P : Program} (w : World) (dT sT ty elem : TypeId) (size : Nat) (b o dLen dCap : Nat) (sp : Option Addr) (sCap : Nat) (hu : P.underlying dT = some (.slice elem)) (hsz : (P.info? elem).map (·.size) = some size) :
    (Builtin.copy_ #[dT, sT] ty #[.slice (some ⟨b, o, none⟩) dLen dCap, .slice sp 0 sCap]).run P w = .ok (goInt 0) w := by
  have hz : (Go.sizeOf elem).run P w = .ok size w := by
    cases hq : P.info? elem with
    | none => simp [hq] at hsz
    | some i =>
      have : i.size = size := by simpa [hq] using hsz
      simp [sizeOf, typeInfo, hq, this]
  cases sp <;> simp [Builtin.copy_, run_underlying hu, Builtin.lenOf, Builtin.firstCells, hz, loadCells, loadCellsFrom, storeCells]
/-- What is made, in whatever order. -/
structure Mk3 (W : World) (N m : Nat) (Z Z3 : List Value) (f5 f11 f17 f18 f19 f20 : Bool) (x5 x11 x17 x18 x19 x20 : Value) (u : World) : Prop where
  b : Below W.heap.size W u
  r5 : f5 = true → ∃ b, x5 = .slice (some ⟨b, 0, none⟩) N N ∧ Rw u b TS Z ∧ W.heap.size ≤ b
  r11 : f11 = true → ∃ b, x11 = .slice (some ⟨b, 0, none⟩) N N ∧ Rw u b TS Z ∧ W.heap.size ≤ b
  r17 : f17 = true → ∃ b, x17 = .slice (some ⟨b, 0, none⟩) m m ∧ Rw u b TW Z3 ∧ W.heap.size ≤ b
  ne : f5 = true → f11 = true → x5 ≠ x11
  r18 : f18 = true → f5 = true ∧ f11 = true ∧ f17 = true ∧ x18 = .agg #[x5, x11, x17, .pointer none]
  r19 : f19 = true → f18 = true ∧ ∃ g, x19 = .pointer (some ⟨g, 0, none⟩) ∧ Rw u g TD [x5, x11, x17, .pointer none] ∧ W.heap.size ≤ g
  r20 : f20 = true → f19 = true ∧ x20 = x19
section
variable {W u : World} {N m : Nat} {Z Z3 : List Value} {f5 f11 f17 f18 f19 f20 : Bool} {x5 x11 x17 x18 x19 x20 : Value}
theorem Rws.later {k : Nat} {t : TypeId} {x : Value} {Z : List Value} {f : Bool} {v : World} (h : f = true → ∃ b, x = .slice (some ⟨b, 0, none⟩) k k ∧ Rw u b t Z ∧ W.heap.size ≤ b) (hb : Below u.heap.size u v) : f = true → ∃ b, x = .slice (some ⟨b, 0, none⟩) k k ∧ Rw v b t Z ∧ W.heap.size ≤ b := fun hf => by
  obtain ⟨b, h1, h2, h3⟩ := h hf
  exact ⟨b, h1, h2.later hb, h3⟩
theorem Mk3.s5 (h : Mk3 W N m Z Z3 f5 f11 f17 f18 f19 f20 x5 x11 x17 x18 x19 x20 u) (h0 : f5 = false) : Mk3 W N m Z Z3 true f11 f17 f18 f19 f20 (.slice (some ⟨u.heap.size, 0, none⟩) N N) x11 x17 x18 x19 x20 (u.alloc (.cells Z.toArray TS)) := by
  have hb : Below u.heap.size u (u.alloc (.cells Z.toArray TS)) := (Below.refl _ u).alloc (Nat.le_refl _) _
  have h4 : f18 = true → False := fun k => by have := (h.r18 k).1; rw [h0] at this; cases this
  have h5 : f19 = true → False := fun k => h4 (h.r19 k).1
  exact ⟨h.b.trans (hb.mono h.b.size), fun _ => ⟨_, rfl, Rw.new u Z TS, h.b.size⟩, Rws.later h.r11 hb, Rws.later h.r17 hb, fun _ k e => (by obtain ⟨b3, r1, r2, r3⟩ := h.r11 k; rw [r1] at e; exact ne_new r2 e), fun k => (h4 k).elim, fun k => (h5 k).elim, fun k => (h5 (h.r20 k).1).elim⟩
theorem Mk3.s11 (h : Mk3 W N m Z Z3 f5 f11 f17 f18 f19 f20 x5 x11 x17 x18 x19 x20 u) (h0 : f11 = false) : Mk3 W N m Z Z3 f5 true f17 f18 f19 f20 x5 (.slice (some ⟨u.heap.size, 0, none⟩) N N) x17 x18 x19 x20 (u.alloc (.cells Z.toArray TS)) := by
  have hb : Below u.heap.size u (u.alloc (.cells Z.toArray TS)) := (Below.refl _ u).alloc (Nat.le_refl _) _
  have h4 : f18 = true → False := fun k => by have := (h.r18 k).2.1; rw [h0] at this; cases this
  have h5 : f19 = true → False := fun k => h4 (h.r19 k).1
  exact ⟨h.b.trans (hb.mono h.b.size), Rws.later h.r5 hb, fun _ => ⟨_, rfl, Rw.new u Z TS, h.b.size⟩, Rws.later h.r17 hb, fun k _ e => (by obtain ⟨b3, r1, r2, r3⟩ := h.r5 k; rw [r1] at e; exact ne_new r2 e.symm), fun k => (h4 k).elim, fun k => (h5 k).elim, fun k => (h5 (h.r20 k).1).elim⟩
theorem Mk3.s17 (h : Mk3 W N m Z Z3 f5 f11 f17 f18 f19 f20 x5 x11 x17 x18 x19 x20 u) (h0 : f17 = false) : Mk3 W N m Z Z3 f5 f11 true f18 f19 f20 x5 x11 (.slice (some ⟨u.heap.size, 0, none⟩) m m) x18 x19 x20 (u.alloc (.cells Z3.toArray TW)) := by
  have hb : Below u.heap.size u (u.alloc (.cells Z3.toArray TW)) := (Below.refl _ u).alloc (Nat.le_refl _) _
  have h4 : f18 = true → False := fun k => by have := (h.r18 k).2.2.1; rw [h0] at this; cases this
  have h5 : f19 = true → False := fun k => h4 (h.r19 k).1
  exact ⟨h.b.trans (hb.mono h.b.size), Rws.later h.r5 hb, Rws.later h.r11 hb, fun _ => ⟨_, rfl, Rw.new u Z3 TW, h.b.size⟩, h.ne, fun k => (h4 k).elim, fun k => (h5 k).elim, fun k => (h5 (h.r20 k).1).elim⟩
theorem Mk3.s19 (h : Mk3 W N m Z Z3 f5 f11 f17 f18 f19 f20 x5 x11 x17 x18 x19 x20 u) (h0 : f19 = false) (h8 : f18 = true) : Mk3 W N m Z Z3 f5 f11 f17 f18 true f20 x5 x11 x17 x18 (.pointer (some ⟨u.heap.size, 0, none⟩)) x20 (u.alloc (.cells [x5, x11, x17, .pointer none].toArray TD)) := by
  have hb : Below u.heap.size u (u.alloc (.cells [x5, x11, x17, .pointer none].toArray TD)) := (Below.refl _ u).alloc (Nat.le_refl _) _
  have h5 : f20 = true → False := fun k => by have := (h.r20 k).1; rw [h0] at this; cases this
  exact ⟨h.b.trans (hb.mono h.b.size), Rws.later h.r5 hb, Rws.later h.r11 hb, Rws.later h.r17 hb, h.ne, h.r18, fun _ => ⟨h8, _, rfl, Rw.new u _ TD, h.b.size⟩, fun k => (h5 k).elim⟩
end
def CopyRes (x : Dr) (w : World) (e : Ending) (w' : World) : Prop := ∃ g bv bd pv fv, e = .returned (.pointer (some ⟨g, 0, none⟩)) ∧ At w' g bv bd pv fv x ∧ Below w.heap.size w w' ∧ ∀ j, Bs g bv bd pv fv j → w.heap.size ≤ j
set_option maxRecDepth 100000 in
set_option maxHeartbeats 8000000 in
theorem copy_c (g bv bd : Nat) (pv fv : Value) (x : Dr) (w : World) (hA : At w g bv bd pv fv x) (hx : x.Ok) (hP : x.P.length ≤ 100000) : Calls Tryd.prog 14 #[.pointer (some ⟨g, 0, Option.none⟩)] w (CopyRes x w) := by
  have K := Lib.hid (is_c g bv bd pv fv x w hA hx)
  have HX := Lib.hid hx
  have HA := Lib.hid hA
  obtain ⟨ap, cap, rfl⟩ := own_val hA.p
  obtain ⟨n, hn⟩ : ∃ n, x.n = n := ⟨_, rfl⟩
  obtain ⟨m, hm⟩ : ∃ m, x.P.length = m := ⟨_, rfl⟩
  have HN := Lib.hid hn
  have HM := Lib.hid hm
  have hn4 : n ≤ 4096 := by rw [← hn]; exact hx.n2
  have hm4 : m ≤ 100000 := by rw [← hm]; exact hP
  have HMS := Lib.hid (mkS n (by omega))
  have HMW := Lib.hid (mkW m hm4)
  have HBL := Lib.hid (show Rw w g TD [.slice (some ⟨bv, 0, none⟩) n n, .slice (some ⟨bd, 0, none⟩) n n, .slice ap m cap, fv] by rw [← hn, ← hm]; exact hA.blk)
  clear hA hx hP hn
  rw [hm] at HA
  clear hm
  go_enter Tryd.func14, Tryd.ntmps14
  go_wp2_with fail
  refine K.out.mono ?_
  rintro e w' ⟨rfl, rfl⟩
  go_wp2_with fail
  clear K
  refine wp_region_inv (I := (fun A0 L a u => ∃ (x0 x1 x2 x3 x4 x5 x6 x7 x8 x9 x10 x11 x12 x13 x14 x15 x16 x17 x18 x19 x20 : Value), a = putAll A0 [(7, x0), (8, x1), (9, x2), (10, x3), (11, x4), (12, x5), (13, x6), (14, x7), (15, x8), (16, x9), (17, x10), (18, x11), (19, x12), (20, x13), (21, x14), (22, x15), (23, x16), (24, x17), (25, x18), (26, x19), (3, x20)] ∧ (L 0 = true → x0 = (.pointer (some ⟨g, 0, Option.none⟩))) ∧ (L 1 = true → x1 = (.pointer (some ⟨g, 0, Option.none⟩))) ∧ (L 2 = true → x2 = (.pointer (some ⟨g, 0, Option.none⟩))) ∧ (L 3 = true → x3 = (.slice (some ⟨bv, 0, none⟩) n n)) ∧ (L 4 = true → x4 = (.int .i64 (n : Int))) ∧ (L 6 = true → x6 = (.pointer (some ⟨g, 0, Option.none⟩))) ∧ (L 7 = true → x7 = (.pointer (some ⟨g, 0, Option.none⟩))) ∧ (L 8 = true → x8 = (.pointer (some ⟨g, 1, Option.none⟩))) ∧ (L 9 = true → x9 = (.slice (some ⟨bd, 0, none⟩) n n)) ∧ (L 10 = true → x10 = (.int .i64 (n : Int))) ∧ (L 12 = true → x12 = (.pointer (some ⟨g, 0, Option.none⟩))) ∧ (L 13 = true → x13 = (.pointer (some ⟨g, 0, Option.none⟩))) ∧ (L 14 = true → x14 = (.pointer (some ⟨g, 2, Option.none⟩))) ∧ (L 15 = true → x15 = (.slice ap m cap)) ∧ (L 16 = true → x16 = (.int .i64 (m : Int))) ∧ Mk3 w n m (flat (List.replicate n zs)) (mkz m) (L 5) (L 11) (L 17) (L 18) (L 19) (L 20) x5 x11 x17 x18 x19 x20 u)) (by kernel_rfl) (by kernel_rfl) ?_ ?_ ?_
  · intro L hL
    exact ⟨_, _, _, _, _, _, _, _, _, _, _, _, _, _, _, _, _, _, _, _, _, by (simp only [putAll, Act.put, List.setIfInBounds_toArray, List.set_cons_zero, List.set_cons_succ]; rfl), (fun h => absurd h (by rw [hL 0 (by decide)]; decide)), (fun h => absurd h (by rw [hL 1 (by decide)]; decide)), (fun h => absurd h (by rw [hL 2 (by decide)]; decide)), (fun h => absurd h (by rw [hL 3 (by decide)]; decide)), (fun h => absurd h (by rw [hL 4 (by decide)]; decide)), (fun h => absurd h (by rw [hL 6 (by decide)]; decide)), (fun h => absurd h (by rw [hL 7 (by decide)]; decide)), (fun h => absurd h (by rw [hL 8 (by decide)]; decide)), (fun h => absurd h (by rw [hL 9 (by decide)]; decide)), (fun h => absurd h (by rw [hL 10 (by decide)]; decide)), (fun h => absurd h (by rw [hL 12 (by decide)]; decide)), (fun h => absurd h (by rw [hL 13 (by decide)]; decide)), (fun h => absurd h (by rw [hL 14 (by decide)]; decide)), (fun h => absurd h (by rw [hL 15 (by decide)]; decide)), (fun h => absurd h (by rw [hL 16 (by decide)]; decide)), ⟨(Below.refl _ w).drew, (fun h => absurd h (by rw [hL 5 (by decide)]; decide)), (fun h => absurd h (by rw [hL 11 (by decide)]; decide)), (fun h => absurd h (by rw [hL 17 (by decide)]; decide)), (fun h => absurd h (by rw [hL 5 (by decide)]; decide)), (fun h => absurd h (by rw [hL 18 (by decide)]; decide)), (fun h => absurd h (by rw [hL 19 (by decide)]; decide)), (fun h => absurd h (by rw [hL 20 (by decide)]; decide))⟩⟩
  refine Steps.cons (i := 0) rfl ?_ ?_
  · rintro L a u ⟨x0, x1, x2, x3, x4, x5, x6, x7, x8, x9, x10, x11, x12, x13, x14, x15, x16, x17, x18, x19, x20, rfl, h0, h1, h2, h3, h4, h6, h7, h8, h9, h10, h12, h13, h14, h15, h16, hm⟩ hi hd K hK
    simp only [putAll, Act.put, List.setIfInBounds_toArray, List.set_cons_zero, List.set_cons_succ]
    (try simp [Region.binds] at hd)
    replace h0 := Lib.hid h0
    replace h1 := Lib.hid h1
    replace h2 := Lib.hid h2
    replace h3 := Lib.hid h3
    replace h4 := Lib.hid h4
    replace h6 := Lib.hid h6
    replace h7 := Lib.hid h7
    replace h8 := Lib.hid h8
    replace h9 := Lib.hid h9
    replace h10 := Lib.hid h10
    replace h12 := Lib.hid h12
    replace h13 := Lib.hid h13
    replace h14 := Lib.hid h14
    replace h15 := Lib.hid h15
    replace h16 := Lib.hid h16
    go_simp
    exact hK.out _ _ ⟨_, _, _, _, _, _, _, _, _, _, _, _, _, _, _, _, _, _, _, _, _, by ((simp only [putAll, Act.put, List.setIfInBounds_toArray, List.set_cons_zero, List.set_cons_succ]) <;> rfl), (fun _ => rfl), h1.out, h2.out, h3.out, h4.out, h6.out, h7.out, h8.out, h9.out, h10.out, h12.out, h13.out, h14.out, h15.out, h16.out, hm⟩
  refine Steps.cons (i := 1) rfl ?_ ?_
  · rintro L a u ⟨x0, x1, x2, x3, x4, x5, x6, x7, x8, x9, x10, x11, x12, x13, x14, x15, x16, x17, x18, x19, x20, rfl, h0, h1, h2, h3, h4, h6, h7, h8, h9, h10, h12, h13, h14, h15, h16, hm⟩ hi hd K hK
    simp only [putAll, Act.put, List.setIfInBounds_toArray, List.set_cons_zero, List.set_cons_succ]
    (try simp [Region.binds] at hd)
    replace h0 := Lib.hid h0
    replace h1 := Lib.hid h1
    replace h2 := Lib.hid h2
    replace h3 := Lib.hid h3
    replace h4 := Lib.hid h4
    replace h6 := Lib.hid h6
    replace h7 := Lib.hid h7
    replace h8 := Lib.hid h8
    replace h9 := Lib.hid h9
    replace h10 := Lib.hid h10
    replace h12 := Lib.hid h12
    replace h13 := Lib.hid h13
    replace h14 := Lib.hid h14
    replace h15 := Lib.hid h15
    replace h16 := Lib.hid h16
    obtain rfl := (h0.out (by simp [hd])).symm
    go_simp
    exact hK.out _ _ ⟨_, _, _, _, _, _, _, _, _, _, _, _, _, _, _, _, _, _, _, _, _, by ((simp only [putAll, Act.put, List.setIfInBounds_toArray, List.set_cons_zero, List.set_cons_succ]) <;> rfl), h0.out, (fun _ => rfl), h2.out, h3.out, h4.out, h6.out, h7.out, h8.out, h9.out, h10.out, h12.out, h13.out, h14.out, h15.out, h16.out, hm⟩
  refine Steps.cons (i := 2) rfl ?_ ?_
  · rintro L a u ⟨x0, x1, x2, x3, x4, x5, x6, x7, x8, x9, x10, x11, x12, x13, x14, x15, x16, x17, x18, x19, x20, rfl, h0, h1, h2, h3, h4, h6, h7, h8, h9, h10, h12, h13, h14, h15, h16, hm⟩ hi hd K hK
    simp only [putAll, Act.put, List.setIfInBounds_toArray, List.set_cons_zero, List.set_cons_succ]
    (try simp [Region.binds] at hd)
    replace h0 := Lib.hid h0
    replace h1 := Lib.hid h1
    replace h2 := Lib.hid h2
    replace h3 := Lib.hid h3
    replace h4 := Lib.hid h4
    replace h6 := Lib.hid h6
    replace h7 := Lib.hid h7
    replace h8 := Lib.hid h8
    replace h9 := Lib.hid h9
    replace h10 := Lib.hid h10
    replace h12 := Lib.hid h12
    replace h13 := Lib.hid h13
    replace h14 := Lib.hid h14
    replace h15 := Lib.hid h15
    replace h16 := Lib.hid h16
    obtain rfl := (h1.out (by simp [hd])).symm
    go_simp
    exact hK.out _ _ ⟨_, _, _, _, _, _, _, _, _, _, _, _, _, _, _, _, _, _, _, _, _, by ((simp only [putAll, Act.put, List.setIfInBounds_toArray, List.set_cons_zero, List.set_cons_succ]) <;> rfl), h0.out, h1.out, (fun _ => rfl), h3.out, h4.out, h6.out, h7.out, h8.out, h9.out, h10.out, h12.out, h13.out, h14.out, h15.out, h16.out, hm⟩
  refine Steps.cons (i := 3) rfl ?_ ?_
  · rintro L a u ⟨x0, x1, x2, x3, x4, x5, x6, x7, x8, x9, x10, x11, x12, x13, x14, x15, x16, x17, x18, x19, x20, rfl, h0, h1, h2, h3, h4, h6, h7, h8, h9, h10, h12, h13, h14, h15, h16, hm⟩ hi hd K hK
    simp only [putAll, Act.put, List.setIfInBounds_toArray, List.set_cons_zero, List.set_cons_succ]
    (try simp [Region.binds] at hd)
    replace h0 := Lib.hid h0
    replace h1 := Lib.hid h1
    replace h2 := Lib.hid h2
    replace h3 := Lib.hid h3
    replace h4 := Lib.hid h4
    replace h6 := Lib.hid h6
    replace h7 := Lib.hid h7
    replace h8 := Lib.hid h8
    replace h9 := Lib.hid h9
    replace h10 := Lib.hid h10
    replace h12 := Lib.hid h12
    replace h13 := Lib.hid h13
    replace h14 := Lib.hid h14
    replace h15 := Lib.hid h15
    replace h16 := Lib.hid h16
    obtain rfl := (h2.out (by simp [hd])).symm
    have c0 : u.cell? ⟨g, 0, none⟩ = some (.slice (some ⟨bv, 0, none⟩) n n) := (HBL.out.later hm.b).cell 0
    go_simp
    exact hK.out _ _ ⟨_, _, _, _, _, _, _, _, _, _, _, _, _, _, _, _, _, _, _, _, _, by ((simp only [putAll, Act.put, List.setIfInBounds_toArray, List.set_cons_zero, List.set_cons_succ]) <;> rfl), h0.out, h1.out, h2.out, (fun _ => rfl), h4.out, h6.out, h7.out, h8.out, h9.out, h10.out, h12.out, h13.out, h14.out, h15.out, h16.out, hm⟩
  refine Steps.cons (i := 4) rfl ?_ ?_
  · rintro L a u ⟨x0, x1, x2, x3, x4, x5, x6, x7, x8, x9, x10, x11, x12, x13, x14, x15, x16, x17, x18, x19, x20, rfl, h0, h1, h2, h3, h4, h6, h7, h8, h9, h10, h12, h13, h14, h15, h16, hm⟩ hi hd K hK
    simp only [putAll, Act.put, List.setIfInBounds_toArray, List.set_cons_zero, List.set_cons_succ]
    (try simp [Region.binds] at hd)
    replace h0 := Lib.hid h0
    replace h1 := Lib.hid h1
    replace h2 := Lib.hid h2
    replace h3 := Lib.hid h3
    replace h4 := Lib.hid h4
    replace h6 := Lib.hid h6
    replace h7 := Lib.hid h7
    replace h8 := Lib.hid h8
    replace h9 := Lib.hid h9
    replace h10 := Lib.hid h10
    replace h12 := Lib.hid h12
    replace h13 := Lib.hid h13
    replace h14 := Lib.hid h14
    replace h15 := Lib.hid h15
    replace h16 := Lib.hid h16
    obtain rfl := (h3.out (by simp [hd])).symm
    go_simp
    exact hK.out _ _ ⟨_, _, _, _, _, _, _, _, _, _, _, _, _, _, _, _, _, _, _, _, _, by ((simp only [putAll, Act.put, List.setIfInBounds_toArray, List.set_cons_zero, List.set_cons_succ]) <;> rfl), h0.out, h1.out, h2.out, h3.out, (fun _ => rfl), h6.out, h7.out, h8.out, h9.out, h10.out, h12.out, h13.out, h14.out, h15.out, h16.out, hm⟩
  refine Steps.cons (i := 5) rfl ?_ ?_
  · rintro L a u ⟨x0, x1, x2, x3, x4, x5, x6, x7, x8, x9, x10, x11, x12, x13, x14, x15, x16, x17, x18, x19, x20, rfl, h0, h1, h2, h3, h4, h6, h7, h8, h9, h10, h12, h13, h14, h15, h16, hm⟩ hi hd K hK
    simp only [putAll, Act.put, List.setIfInBounds_toArray, List.set_cons_zero, List.set_cons_succ]
    (try simp [Region.binds] at hd)
    replace h0 := Lib.hid h0
    replace h1 := Lib.hid h1
    replace h2 := Lib.hid h2
    replace h3 := Lib.hid h3
    replace h4 := Lib.hid h4
    replace h6 := Lib.hid h6
    replace h7 := Lib.hid h7
    replace h8 := Lib.hid h8
    replace h9 := Lib.hid h9
    replace h10 := Lib.hid h10
    replace h12 := Lib.hid h12
    replace h13 := Lib.hid h13
    replace h14 := Lib.hid h14
    replace h15 := Lib.hid h15
    replace h16 := Lib.hid h16
    obtain rfl := (h4.out (by simp [hd])).symm
    have hmk := HMS.out u
    go_simp
    exact hK.out _ _ ⟨_, _, _, _, _, _, _, _, _, _, _, _, _, _, _, _, _, _, _, _, _, by ((simp only [putAll, Act.put, List.setIfInBounds_toArray, List.set_cons_zero, List.set_cons_succ]) <;> rfl), h0.out, h1.out, h2.out, h3.out, h4.out, h6.out, h7.out, h8.out, h9.out, h10.out, h12.out, h13.out, h14.out, h15.out, h16.out, hm.s5 hi⟩
  refine Steps.cons (i := 6) rfl ?_ ?_
  · rintro L a u ⟨x0, x1, x2, x3, x4, x5, x6, x7, x8, x9, x10, x11, x12, x13, x14, x15, x16, x17, x18, x19, x20, rfl, h0, h1, h2, h3, h4, h6, h7, h8, h9, h10, h12, h13, h14, h15, h16, hm⟩ hi hd K hK
    simp only [putAll, Act.put, List.setIfInBounds_toArray, List.set_cons_zero, List.set_cons_succ]
    (try simp [Region.binds] at hd)
    replace h0 := Lib.hid h0
    replace h1 := Lib.hid h1
    replace h2 := Lib.hid h2
    replace h3 := Lib.hid h3
    replace h4 := Lib.hid h4
    replace h6 := Lib.hid h6
    replace h7 := Lib.hid h7
    replace h8 := Lib.hid h8
    replace h9 := Lib.hid h9
    replace h10 := Lib.hid h10
    replace h12 := Lib.hid h12
    replace h13 := Lib.hid h13
    replace h14 := Lib.hid h14
    replace h15 := Lib.hid h15
    replace h16 := Lib.hid h16
    go_simp
    exact hK.out _ _ ⟨_, _, _, _, _, _, _, _, _, _, _, _, _, _, _, _, _, _, _, _, _, by ((simp only [putAll, Act.put, List.setIfInBounds_toArray, List.set_cons_zero, List.set_cons_succ]) <;> rfl), h0.out, h1.out, h2.out, h3.out, h4.out, (fun _ => rfl), h7.out, h8.out, h9.out, h10.out, h12.out, h13.out, h14.out, h15.out, h16.out, hm⟩
  refine Steps.cons (i := 7) rfl ?_ ?_
  · rintro L a u ⟨x0, x1, x2, x3, x4, x5, x6, x7, x8, x9, x10, x11, x12, x13, x14, x15, x16, x17, x18, x19, x20, rfl, h0, h1, h2, h3, h4, h6, h7, h8, h9, h10, h12, h13, h14, h15, h16, hm⟩ hi hd K hK
    simp only [putAll, Act.put, List.setIfInBounds_toArray, List.set_cons_zero, List.set_cons_succ]
    (try simp [Region.binds] at hd)
    replace h0 := Lib.hid h0
    replace h1 := Lib.hid h1
    replace h2 := Lib.hid h2
    replace h3 := Lib.hid h3
    replace h4 := Lib.hid h4
    replace h6 := Lib.hid h6
    replace h7 := Lib.hid h7
    replace h8 := Lib.hid h8
    replace h9 := Lib.hid h9
    replace h10 := Lib.hid h10
    replace h12 := Lib.hid h12
    replace h13 := Lib.hid h13
    replace h14 := Lib.hid h14
    replace h15 := Lib.hid h15
    replace h16 := Lib.hid h16
    obtain rfl := (h6.out (by simp [hd])).symm
    go_simp
    exact hK.out _ _ ⟨_, _, _, _, _, _, _, _, _, _, _, _, _, _, _, _, _, _, _, _, _, by ((simp only [putAll, Act.put, List.setIfInBounds_toArray, List.set_cons_zero, List.set_cons_succ]) <;> rfl), h0.out, h1.out, h2.out, h3.out, h4.out, h6.out, (fun _ => rfl), h8.out, h9.out, h10.out, h12.out, h13.out, h14.out, h15.out, h16.out, hm⟩
  refine Steps.cons (i := 8) rfl ?_ ?_
  · rintro L a u ⟨x0, x1, x2, x3, x4, x5, x6, x7, x8, x9, x10, x11, x12, x13, x14, x15, x16, x17, x18, x19, x20, rfl, h0, h1, h2, h3, h4, h6, h7, h8, h9, h10, h12, h13, h14, h15, h16, hm⟩ hi hd K hK
    simp only [putAll, Act.put, List.setIfInBounds_toArray, List.set_cons_zero, List.set_cons_succ]
    (try simp [Region.binds] at hd)
    replace h0 := Lib.hid h0
    replace h1 := Lib.hid h1
    replace h2 := Lib.hid h2
    replace h3 := Lib.hid h3
    replace h4 := Lib.hid h4
    replace h6 := Lib.hid h6
    replace h7 := Lib.hid h7
    replace h8 := Lib.hid h8
    replace h9 := Lib.hid h9
    replace h10 := Lib.hid h10
    replace h12 := Lib.hid h12
    replace h13 := Lib.hid h13
    replace h14 := Lib.hid h14
    replace h15 := Lib.hid h15
    replace h16 := Lib.hid h16
    obtain rfl := (h7.out (by simp [hd])).symm
    go_simp
    exact hK.out _ _ ⟨_, _, _, _, _, _, _, _, _, _, _, _, _, _, _, _, _, _, _, _, _, by ((simp only [putAll, Act.put, List.setIfInBounds_toArray, List.set_cons_zero, List.set_cons_succ]) <;> rfl), h0.out, h1.out, h2.out, h3.out, h4.out, h6.out, h7.out, (fun _ => rfl), h9.out, h10.out, h12.out, h13.out, h14.out, h15.out, h16.out, hm⟩
  refine Steps.cons (i := 9) rfl ?_ ?_
  · rintro L a u ⟨x0, x1, x2, x3, x4, x5, x6, x7, x8, x9, x10, x11, x12, x13, x14, x15, x16, x17, x18, x19, x20, rfl, h0, h1, h2, h3, h4, h6, h7, h8, h9, h10, h12, h13, h14, h15, h16, hm⟩ hi hd K hK
    simp only [putAll, Act.put, List.setIfInBounds_toArray, List.set_cons_zero, List.set_cons_succ]
    (try simp [Region.binds] at hd)
    replace h0 := Lib.hid h0
    replace h1 := Lib.hid h1
    replace h2 := Lib.hid h2
    replace h3 := Lib.hid h3
    replace h4 := Lib.hid h4
    replace h6 := Lib.hid h6
    replace h7 := Lib.hid h7
    replace h8 := Lib.hid h8
    replace h9 := Lib.hid h9
    replace h10 := Lib.hid h10
    replace h12 := Lib.hid h12
    replace h13 := Lib.hid h13
    replace h14 := Lib.hid h14
    replace h15 := Lib.hid h15
    replace h16 := Lib.hid h16
    obtain rfl := (h8.out (by simp [hd])).symm
    have c0 : u.cell? ⟨g, 1, none⟩ = some (.slice (some ⟨bd, 0, none⟩) n n) := (HBL.out.later hm.b).cell 1
    go_simp
    exact hK.out _ _ ⟨_, _, _, _, _, _, _, _, _, _, _, _, _, _, _, _, _, _, _, _, _, by ((simp only [putAll, Act.put, List.setIfInBounds_toArray, List.set_cons_zero, List.set_cons_succ]) <;> rfl), h0.out, h1.out, h2.out, h3.out, h4.out, h6.out, h7.out, h8.out, (fun _ => rfl), h10.out, h12.out, h13.out, h14.out, h15.out, h16.out, hm⟩
  refine Steps.cons (i := 10) rfl ?_ ?_
  · rintro L a u ⟨x0, x1, x2, x3, x4, x5, x6, x7, x8, x9, x10, x11, x12, x13, x14, x15, x16, x17, x18, x19, x20, rfl, h0, h1, h2, h3, h4, h6, h7, h8, h9, h10, h12, h13, h14, h15, h16, hm⟩ hi hd K hK
    simp only [putAll, Act.put, List.setIfInBounds_toArray, List.set_cons_zero, List.set_cons_succ]
    (try simp [Region.binds] at hd)
    replace h0 := Lib.hid h0
    replace h1 := Lib.hid h1
    replace h2 := Lib.hid h2
    replace h3 := Lib.hid h3
    replace h4 := Lib.hid h4
    replace h6 := Lib.hid h6
    replace h7 := Lib.hid h7
    replace h8 := Lib.hid h8
    replace h9 := Lib.hid h9
    replace h10 := Lib.hid h10
    replace h12 := Lib.hid h12
    replace h13 := Lib.hid h13
    replace h14 := Lib.hid h14
    replace h15 := Lib.hid h15
    replace h16 := Lib.hid h16
    obtain rfl := (h9.out (by simp [hd])).symm
    go_simp
    exact hK.out _ _ ⟨_, _, _, _, _, _, _, _, _, _, _, _, _, _, _, _, _, _, _, _, _, by ((simp only [putAll, Act.put, List.setIfInBounds_toArray, List.set_cons_zero, List.set_cons_succ]) <;> rfl), h0.out, h1.out, h2.out, h3.out, h4.out, h6.out, h7.out, h8.out, h9.out, (fun _ => rfl), h12.out, h13.out, h14.out, h15.out, h16.out, hm⟩
  refine Steps.cons (i := 11) rfl ?_ ?_
  · rintro L a u ⟨x0, x1, x2, x3, x4, x5, x6, x7, x8, x9, x10, x11, x12, x13, x14, x15, x16, x17, x18, x19, x20, rfl, h0, h1, h2, h3, h4, h6, h7, h8, h9, h10, h12, h13, h14, h15, h16, hm⟩ hi hd K hK
    simp only [putAll, Act.put, List.setIfInBounds_toArray, List.set_cons_zero, List.set_cons_succ]
    (try simp [Region.binds] at hd)
    replace h0 := Lib.hid h0
    replace h1 := Lib.hid h1
    replace h2 := Lib.hid h2
    replace h3 := Lib.hid h3
    replace h4 := Lib.hid h4
    replace h6 := Lib.hid h6
    replace h7 := Lib.hid h7
    replace h8 := Lib.hid h8
    replace h9 := Lib.hid h9
    replace h10 := Lib.hid h10
    replace h12 := Lib.hid h12
    replace h13 := Lib.hid h13
    replace h14 := Lib.hid h14
    replace h15 := Lib.hid h15
    replace h16 := Lib.hid h16
    obtain rfl := (h10.out (by simp [hd])).symm
    have hmk := HMS.out u
    go_simp
    exact hK.out _ _ ⟨_, _, _, _, _, _, _, _, _, _, _, _, _, _, _, _, _, _, _, _, _, by ((simp only [putAll, Act.put, List.setIfInBounds_toArray, List.set_cons_zero, List.set_cons_succ]) <;> rfl), h0.out, h1.out, h2.out, h3.out, h4.out, h6.out, h7.out, h8.out, h9.out, h10.out, h12.out, h13.out, h14.out, h15.out, h16.out, hm.s11 hi⟩
  refine Steps.cons (i := 12) rfl ?_ ?_
  · rintro L a u ⟨x0, x1, x2, x3, x4, x5, x6, x7, x8, x9, x10, x11, x12, x13, x14, x15, x16, x17, x18, x19, x20, rfl, h0, h1, h2, h3, h4, h6, h7, h8, h9, h10, h12, h13, h14, h15, h16, hm⟩ hi hd K hK
    simp only [putAll, Act.put, List.setIfInBounds_toArray, List.set_cons_zero, List.set_cons_succ]
    (try simp [Region.binds] at hd)
    replace h0 := Lib.hid h0
    replace h1 := Lib.hid h1
    replace h2 := Lib.hid h2
    replace h3 := Lib.hid h3
    replace h4 := Lib.hid h4
    replace h6 := Lib.hid h6
    replace h7 := Lib.hid h7
    replace h8 := Lib.hid h8
    replace h9 := Lib.hid h9
    replace h10 := Lib.hid h10
    replace h12 := Lib.hid h12
    replace h13 := Lib.hid h13
    replace h14 := Lib.hid h14
    replace h15 := Lib.hid h15
    replace h16 := Lib.hid h16
    go_simp
    exact hK.out _ _ ⟨_, _, _, _, _, _, _, _, _, _, _, _, _, _, _, _, _, _, _, _, _, by ((simp only [putAll, Act.put, List.setIfInBounds_toArray, List.set_cons_zero, List.set_cons_succ]) <;> rfl), h0.out, h1.out, h2.out, h3.out, h4.out, h6.out, h7.out, h8.out, h9.out, h10.out, (fun _ => rfl), h13.out, h14.out, h15.out, h16.out, hm⟩
  refine Steps.cons (i := 13) rfl ?_ ?_
  · rintro L a u ⟨x0, x1, x2, x3, x4, x5, x6, x7, x8, x9, x10, x11, x12, x13, x14, x15, x16, x17, x18, x19, x20, rfl, h0, h1, h2, h3, h4, h6, h7, h8, h9, h10, h12, h13, h14, h15, h16, hm⟩ hi hd K hK
    simp only [putAll, Act.put, List.setIfInBounds_toArray, List.set_cons_zero, List.set_cons_succ]
    (try simp [Region.binds] at hd)
    replace h0 := Lib.hid h0
    replace h1 := Lib.hid h1
    replace h2 := Lib.hid h2
    replace h3 := Lib.hid h3
    replace h4 := Lib.hid h4
    replace h6 := Lib.hid h6
    replace h7 := Lib.hid h7
    replace h8 := Lib.hid h8
    replace h9 := Lib.hid h9
    replace h10 := Lib.hid h10
    replace h12 := Lib.hid h12
    replace h13 := Lib.hid h13
    replace h14 := Lib.hid h14
    replace h15 := Lib.hid h15
    replace h16 := Lib.hid h16
    obtain rfl := (h12.out (by simp [hd])).symm
    go_simp
    exact hK.out _ _ ⟨_, _, _, _, _, _, _, _, _, _, _, _, _, _, _, _, _, _, _, _, _, by ((simp only [putAll, Act.put, List.setIfInBounds_toArray, List.set_cons_zero, List.set_cons_succ]) <;> rfl), h0.out, h1.out, h2.out, h3.out, h4.out, h6.out, h7.out, h8.out, h9.out, h10.out, h12.out, (fun _ => rfl), h14.out, h15.out, h16.out, hm⟩
  refine Steps.cons (i := 14) rfl ?_ ?_
  · rintro L a u ⟨x0, x1, x2, x3, x4, x5, x6, x7, x8, x9, x10, x11, x12, x13, x14, x15, x16, x17, x18, x19, x20, rfl, h0, h1, h2, h3, h4, h6, h7, h8, h9, h10, h12, h13, h14, h15, h16, hm⟩ hi hd K hK
    simp only [putAll, Act.put, List.setIfInBounds_toArray, List.set_cons_zero, List.set_cons_succ]
    (try simp [Region.binds] at hd)
    replace h0 := Lib.hid h0
    replace h1 := Lib.hid h1
    replace h2 := Lib.hid h2
    replace h3 := Lib.hid h3
    replace h4 := Lib.hid h4
    replace h6 := Lib.hid h6
    replace h7 := Lib.hid h7
    replace h8 := Lib.hid h8
    replace h9 := Lib.hid h9
    replace h10 := Lib.hid h10
    replace h12 := Lib.hid h12
    replace h13 := Lib.hid h13
    replace h14 := Lib.hid h14
    replace h15 := Lib.hid h15
    replace h16 := Lib.hid h16
    obtain rfl := (h13.out (by simp [hd])).symm
    go_simp
    exact hK.out _ _ ⟨_, _, _, _, _, _, _, _, _, _, _, _, _, _, _, _, _, _, _, _, _, by ((simp only [putAll, Act.put, List.setIfInBounds_toArray, List.set_cons_zero, List.set_cons_succ]) <;> rfl), h0.out, h1.out, h2.out, h3.out, h4.out, h6.out, h7.out, h8.out, h9.out, h10.out, h12.out, h13.out, (fun _ => rfl), h15.out, h16.out, hm⟩
  refine Steps.cons (i := 15) rfl ?_ ?_
  · rintro L a u ⟨x0, x1, x2, x3, x4, x5, x6, x7, x8, x9, x10, x11, x12, x13, x14, x15, x16, x17, x18, x19, x20, rfl, h0, h1, h2, h3, h4, h6, h7, h8, h9, h10, h12, h13, h14, h15, h16, hm⟩ hi hd K hK
    simp only [putAll, Act.put, List.setIfInBounds_toArray, List.set_cons_zero, List.set_cons_succ]
    (try simp [Region.binds] at hd)
    replace h0 := Lib.hid h0
    replace h1 := Lib.hid h1
    replace h2 := Lib.hid h2
    replace h3 := Lib.hid h3
    replace h4 := Lib.hid h4
    replace h6 := Lib.hid h6
    replace h7 := Lib.hid h7
    replace h8 := Lib.hid h8
    replace h9 := Lib.hid h9
    replace h10 := Lib.hid h10
    replace h12 := Lib.hid h12
    replace h13 := Lib.hid h13
    replace h14 := Lib.hid h14
    replace h15 := Lib.hid h15
    replace h16 := Lib.hid h16
    obtain rfl := (h14.out (by simp [hd])).symm
    have c0 : u.cell? ⟨g, 2, none⟩ = some (.slice ap m cap) := (HBL.out.later hm.b).cell 2
    go_simp
    exact hK.out _ _ ⟨_, _, _, _, _, _, _, _, _, _, _, _, _, _, _, _, _, _, _, _, _, by ((simp only [putAll, Act.put, List.setIfInBounds_toArray, List.set_cons_zero, List.set_cons_succ]) <;> rfl), h0.out, h1.out, h2.out, h3.out, h4.out, h6.out, h7.out, h8.out, h9.out, h10.out, h12.out, h13.out, h14.out, (fun _ => rfl), h16.out, hm⟩
  refine Steps.cons (i := 16) rfl ?_ ?_
  · rintro L a u ⟨x0, x1, x2, x3, x4, x5, x6, x7, x8, x9, x10, x11, x12, x13, x14, x15, x16, x17, x18, x19, x20, rfl, h0, h1, h2, h3, h4, h6, h7, h8, h9, h10, h12, h13, h14, h15, h16, hm⟩ hi hd K hK
    simp only [putAll, Act.put, List.setIfInBounds_toArray, List.set_cons_zero, List.set_cons_succ]
    (try simp [Region.binds] at hd)
    replace h0 := Lib.hid h0
    replace h1 := Lib.hid h1
    replace h2 := Lib.hid h2
    replace h3 := Lib.hid h3
    replace h4 := Lib.hid h4
    replace h6 := Lib.hid h6
    replace h7 := Lib.hid h7
    replace h8 := Lib.hid h8
    replace h9 := Lib.hid h9
    replace h10 := Lib.hid h10
    replace h12 := Lib.hid h12
    replace h13 := Lib.hid h13
    replace h14 := Lib.hid h14
    replace h15 := Lib.hid h15
    replace h16 := Lib.hid h16
    obtain rfl := (h15.out (by simp [hd])).symm
    go_simp
    exact hK.out _ _ ⟨_, _, _, _, _, _, _, _, _, _, _, _, _, _, _, _, _, _, _, _, _, by ((simp only [putAll, Act.put, List.setIfInBounds_toArray, List.set_cons_zero, List.set_cons_succ]) <;> rfl), h0.out, h1.out, h2.out, h3.out, h4.out, h6.out, h7.out, h8.out, h9.out, h10.out, h12.out, h13.out, h14.out, h15.out, (fun _ => rfl), hm⟩
  refine Steps.cons (i := 17) rfl ?_ ?_
  · rintro L a u ⟨x0, x1, x2, x3, x4, x5, x6, x7, x8, x9, x10, x11, x12, x13, x14, x15, x16, x17, x18, x19, x20, rfl, h0, h1, h2, h3, h4, h6, h7, h8, h9, h10, h12, h13, h14, h15, h16, hm⟩ hi hd K hK
    simp only [putAll, Act.put, List.setIfInBounds_toArray, List.set_cons_zero, List.set_cons_succ]
    (try simp [Region.binds] at hd)
    replace h0 := Lib.hid h0
    replace h1 := Lib.hid h1
    replace h2 := Lib.hid h2
    replace h3 := Lib.hid h3
    replace h4 := Lib.hid h4
    replace h6 := Lib.hid h6
    replace h7 := Lib.hid h7
    replace h8 := Lib.hid h8
    replace h9 := Lib.hid h9
    replace h10 := Lib.hid h10
    replace h12 := Lib.hid h12
    replace h13 := Lib.hid h13
    replace h14 := Lib.hid h14
    replace h15 := Lib.hid h15
    replace h16 := Lib.hid h16
    obtain rfl := (h16.out (by simp [hd])).symm
    have hmk := HMW.out u
    go_simp
    exact hK.out _ _ ⟨_, _, _, _, _, _, _, _, _, _, _, _, _, _, _, _, _, _, _, _, _, by ((simp only [putAll, Act.put, List.setIfInBounds_toArray, List.set_cons_zero, List.set_cons_succ]) <;> rfl), h0.out, h1.out, h2.out, h3.out, h4.out, h6.out, h7.out, h8.out, h9.out, h10.out, h12.out, h13.out, h14.out, h15.out, h16.out, hm.s17 hi⟩
  refine Steps.cons (i := 18) rfl ?_ ?_
  · rintro L a u ⟨x0, x1, x2, x3, x4, x5, x6, x7, x8, x9, x10, x11, x12, x13, x14, x15, x16, x17, x18, x19, x20, rfl, h0, h1, h2, h3, h4, h6, h7, h8, h9, h10, h12, h13, h14, h15, h16, hm⟩ hi hd K hK
    simp only [putAll, Act.put, List.setIfInBounds_toArray, List.set_cons_zero, List.set_cons_succ]
    (try simp [Region.binds] at hd)
    replace h0 := Lib.hid h0
    replace h1 := Lib.hid h1
    replace h2 := Lib.hid h2
    replace h3 := Lib.hid h3
    replace h4 := Lib.hid h4
    replace h6 := Lib.hid h6
    replace h7 := Lib.hid h7
    replace h8 := Lib.hid h8
    replace h9 := Lib.hid h9
    replace h10 := Lib.hid h10
    replace h12 := Lib.hid h12
    replace h13 := Lib.hid h13
    replace h14 := Lib.hid h14
    replace h15 := Lib.hid h15
    replace h16 := Lib.hid h16
    have d5 : L 5 = true := by simp [hd]
    have d11 : L 11 = true := by simp [hd]
    have d17 : L 17 = true := by simp [hd]
    obtain ⟨hb, hr5, hr11, hr17, hne, hr18, hr19, hr20⟩ := hm
    obtain ⟨p5, rfl, r5⟩ := hr5 d5
    obtain ⟨p11, rfl, r11⟩ := hr11 d11
    obtain ⟨p17, rfl, r17⟩ := hr17 d17
    go_simp
    exact hK.out _ _ ⟨_, _, _, _, _, _, _, _, _, _, _, _, _, _, _, _, _, _, _, _, _, by ((simp only [putAll, Act.put, List.setIfInBounds_toArray, List.set_cons_zero, List.set_cons_succ]) <;> rfl), h0.out, h1.out, h2.out, h3.out, h4.out, h6.out, h7.out, h8.out, h9.out, h10.out, h12.out, h13.out, h14.out, h15.out, h16.out, ⟨hb, (fun _ => ⟨p5, rfl, r5⟩), (fun _ => ⟨p11, rfl, r11⟩), (fun _ => ⟨p17, rfl, r17⟩), hne, (fun _ => ⟨d5, d11, d17, rfl⟩), (fun h => absurd (hr19 h).1 (by rw [hi]; decide)), (fun h => absurd (hr19 (hr20 h).1).1 (by rw [hi]; decide))⟩⟩
  refine Steps.cons (i := 19) rfl ?_ ?_
  · rintro L a u ⟨x0, x1, x2, x3, x4, x5, x6, x7, x8, x9, x10, x11, x12, x13, x14, x15, x16, x17, x18, x19, x20, rfl, h0, h1, h2, h3, h4, h6, h7, h8, h9, h10, h12, h13, h14, h15, h16, hm⟩ hi hd K hK
    simp only [putAll, Act.put, List.setIfInBounds_toArray, List.set_cons_zero, List.set_cons_succ]
    (try simp [Region.binds] at hd)
    replace h0 := Lib.hid h0
    replace h1 := Lib.hid h1
    replace h2 := Lib.hid h2
    replace h3 := Lib.hid h3
    replace h4 := Lib.hid h4
    replace h6 := Lib.hid h6
    replace h7 := Lib.hid h7
    replace h8 := Lib.hid h8
    replace h9 := Lib.hid h9
    replace h10 := Lib.hid h10
    replace h12 := Lib.hid h12
    replace h13 := Lib.hid h13
    replace h14 := Lib.hid h14
    replace h15 := Lib.hid h15
    replace h16 := Lib.hid h16
    have d18 : L 18 = true := by simp [hd]
    obtain ⟨d5, d11, d17, rfl⟩ := hm.r18 d18
    obtain ⟨p5, rfl, r5⟩ := hm.r5 d5
    obtain ⟨p11, rfl, r11⟩ := hm.r11 d11
    obtain ⟨p17, rfl, r17⟩ := hm.r17 d17
    go_simp
    exact hK.out _ _ ⟨_, _, _, _, _, _, _, _, _, _, _, _, _, _, _, _, _, _, _, _, _, by ((simp only [putAll, Act.put, List.setIfInBounds_toArray, List.set_cons_zero, List.set_cons_succ]) <;> rfl), h0.out, h1.out, h2.out, h3.out, h4.out, h6.out, h7.out, h8.out, h9.out, h10.out, h12.out, h13.out, h14.out, h15.out, h16.out, hm.s19 hi d18⟩
  refine Steps.cons (i := 20) rfl ?_ ?_
  · rintro L a u ⟨x0, x1, x2, x3, x4, x5, x6, x7, x8, x9, x10, x11, x12, x13, x14, x15, x16, x17, x18, x19, x20, rfl, h0, h1, h2, h3, h4, h6, h7, h8, h9, h10, h12, h13, h14, h15, h16, hm⟩ hi hd K hK
    simp only [putAll, Act.put, List.setIfInBounds_toArray, List.set_cons_zero, List.set_cons_succ]
    (try simp [Region.binds] at hd)
    replace h0 := Lib.hid h0
    replace h1 := Lib.hid h1
    replace h2 := Lib.hid h2
    replace h3 := Lib.hid h3
    replace h4 := Lib.hid h4
    replace h6 := Lib.hid h6
    replace h7 := Lib.hid h7
    replace h8 := Lib.hid h8
    replace h9 := Lib.hid h9
    replace h10 := Lib.hid h10
    replace h12 := Lib.hid h12
    replace h13 := Lib.hid h13
    replace h14 := Lib.hid h14
    replace h15 := Lib.hid h15
    replace h16 := Lib.hid h16
    have d19 : L 19 = true := by simp [hd]
    go_simp
    exact hK.out _ _ ⟨_, _, _, _, _, _, _, _, _, _, _, _, _, _, _, _, _, _, _, _, _, by ((simp only [putAll, Act.put, List.setIfInBounds_toArray, List.set_cons_zero, List.set_cons_succ]) <;> rfl), h0.out, h1.out, h2.out, h3.out, h4.out, h6.out, h7.out, h8.out, h9.out, h10.out, h12.out, h13.out, h14.out, h15.out, h16.out, ⟨hm.b, hm.r5, hm.r11, hm.r17, hm.ne, hm.r18, hm.r19, fun _ => ⟨d19, rfl⟩⟩⟩
  · exact Steps.nil
  · rintro L a W1 ⟨x0, x1, x2, x3, x4, x5, x6, x7, x8, x9, x10, x11, x12, x13, x14, x15, x16, x17, x18, x19, x20, rfl, h0, h1, h2, h3, h4, h6, h7, h8, h9, h10, h12, h13, h14, h15, h16, hm⟩ hall
    obtain ⟨hb, hr5, hr11, hr17, hne, -, hr19, hr20⟩ := hm
    have hne := hne (hall 5 (by decide)) (hall 11 (by decide))
    obtain ⟨p1, rfl, r1, s1⟩ := hr5 (hall 5 (by decide))
    obtain ⟨p2, rfl, r2, s2⟩ := hr11 (hall 11 (by decide))
    obtain ⟨p3, rfl, r3, s3⟩ := hr17 (hall 17 (by decide))
    obtain ⟨-, q, hq1, hq2, hq3⟩ := hr19 (hall 19 (by decide))
    obtain ⟨-, hx20⟩ := hr20 (hall 20 (by decide))
    subst hq1
    subst hx20
    clear hr5 hr11 hr17 hr19 hr20 hall h0 h1 h2 h3 h4 h6 h7 h8 h9 h10 h12 h13 h14 h15 h16
    simp only [putAll, Act.put, List.setIfInBounds_toArray, List.set_cons_zero, List.set_cons_succ]
    have HNE := Lib.hid (show p1 ≠ p2 from fun e => hne (by rw [e]))
    have HS := Lib.hid (show w.heap.size ≤ q ∧ w.heap.size ≤ p1 ∧ w.heap.size ≤ p2 ∧ w.heap.size ≤ p3 from ⟨hq3, s1, s2, s3⟩)
    have B1 := Lib.hid hb
    have Q1 := Lib.hid hq2
    have R1 := Lib.hid r1
    have R2 := Lib.hid r2
    have R3 := Lib.hid r3
    have A1 := Lib.hid (HA.out.keeps (Keeps.of (fun _ => False) hb) fun _ _ h => h)
    have G1 := Lib.hid (HBL.out.later hb)
    clear hb hq2 r1 r2 r3 hne hq3 s1 s2 s3
    have nq1 : q ≠ p1 := Q1.out.type R1.out (by decide)
    have ng1 : g ≠ p1 := G1.out.type R1.out (by decide)
    have HZL := Lib.hid (show (flat (List.replicate n zs)).length = n * 64 by rw [flat_len (fun s hs => by rw [(List.mem_replicate.1 hs).2]; decide), List.length_replicate])
    have HVL := Lib.hid (show (flat x.V).length = n * 64 by rw [flat_len HX.out.v, Dr.vlen, ← HN.out]; rfl)
    have HDL := Lib.hid (show (flat x.D).length = n * 64 by rw [flat_len HX.out.d, ← HN.out]; rfl)
    have HPL := Lib.hid (show (flatP x.P).length = m * 65 by rw [flatP_len (fun q hq => (HX.out.p q hq).2), HM.out])
    have HRUN := Lib.hid (run_copy_cells (P := Tryd.prog) W1.drew 47 47 3 TS 64 p1 0 n n bv 0 n n n (flat x.V) Tryd.underlying47 infoS (Nat.min_self _) HVL.out (A1.out.v.drew.range 0 _ (by rw [List.drop_zero, List.take_length])) (R1.out.drew.there 0 _ (by rw [HVL.out, HZL.out]; omega)) flat_one)
    go_wp2_with fail
    refine wp_region_inv (I := (fun A0 L a u => ∃ (x0 x1 x2 x3 x4 x5 x6 x7 x8 : Value), a = putAll A0 [(27, x0), (28, x1), (29, x2), (30, x3), (31, x4), (32, x5), (33, x6), (34, x7), (35, x8)] ∧ (L 0 = true → x0 = (.pointer (some ⟨q, 0, Option.none⟩))) ∧ (L 1 = true → x1 = (.pointer (some ⟨q, 0, Option.none⟩))) ∧ (L 2 = true → x2 = (.pointer (some ⟨q, 0, Option.none⟩))) ∧ (L 3 = true → x3 = (.slice (some ⟨p1, 0, none⟩) n n)) ∧ (L 4 = true → x4 = (.pointer (some ⟨g, 0, Option.none⟩))) ∧ (L 5 = true → x5 = (.pointer (some ⟨g, 0, Option.none⟩))) ∧ (L 6 = true → x6 = (.pointer (some ⟨g, 0, Option.none⟩))) ∧ (L 7 = true → x7 = (.slice (some ⟨bv, 0, none⟩) n n)) ∧ St2 W1.drew p1 0 (flat x.V) (L 8) u)) (by kernel_rfl) (by kernel_rfl) ?_ ?_ ?_
    · intro L hL
      exact ⟨_, _, _, _, _, _, _, _, _, by (simp only [putAll, Act.put, List.setIfInBounds_toArray, List.set_cons_zero, List.set_cons_succ]; rfl), (fun h => absurd h (by rw [hL 0 (by decide)]; decide)), (fun h => absurd h (by rw [hL 1 (by decide)]; decide)), (fun h => absurd h (by rw [hL 2 (by decide)]; decide)), (fun h => absurd h (by rw [hL 3 (by decide)]; decide)), (fun h => absurd h (by rw [hL 4 (by decide)]; decide)), (fun h => absurd h (by rw [hL 5 (by decide)]; decide)), (fun h => absurd h (by rw [hL 6 (by decide)]; decide)), (fun h => absurd h (by rw [hL 7 (by decide)]; decide)), .inl ⟨hL 8 (by decide), rfl⟩⟩
    refine Steps.cons (i := 0) rfl ?_ ?_
    · rintro L a u ⟨x0, x1, x2, x3, x4, x5, x6, x7, x8, rfl, h0, h1, h2, h3, h4, h5, h6, h7, hm⟩ hi hd K hK
      simp only [putAll, Act.put, List.setIfInBounds_toArray, List.set_cons_zero, List.set_cons_succ]
      (try simp [Region.binds] at hd)
      replace h0 := Lib.hid h0
      replace h1 := Lib.hid h1
      replace h2 := Lib.hid h2
      replace h3 := Lib.hid h3
      replace h4 := Lib.hid h4
      replace h5 := Lib.hid h5
      replace h6 := Lib.hid h6
      replace h7 := Lib.hid h7
      go_simp
      exact hK.out _ _ ⟨_, _, _, _, _, _, _, _, _, by ((simp only [putAll, Act.put, List.setIfInBounds_toArray, List.set_cons_zero, List.set_cons_succ]) <;> rfl), (fun _ => rfl), h1.out, h2.out, h3.out, h4.out, h5.out, h6.out, h7.out, hm⟩
    refine Steps.cons (i := 1) rfl ?_ ?_
    · rintro L a u ⟨x0, x1, x2, x3, x4, x5, x6, x7, x8, rfl, h0, h1, h2, h3, h4, h5, h6, h7, hm⟩ hi hd K hK
      simp only [putAll, Act.put, List.setIfInBounds_toArray, List.set_cons_zero, List.set_cons_succ]
      (try simp [Region.binds] at hd)
      replace h0 := Lib.hid h0
      replace h1 := Lib.hid h1
      replace h2 := Lib.hid h2
      replace h3 := Lib.hid h3
      replace h4 := Lib.hid h4
      replace h5 := Lib.hid h5
      replace h6 := Lib.hid h6
      replace h7 := Lib.hid h7
      obtain rfl := (h0.out (by simp [hd])).symm
      go_simp
      exact hK.out _ _ ⟨_, _, _, _, _, _, _, _, _, by ((simp only [putAll, Act.put, List.setIfInBounds_toArray, List.set_cons_zero, List.set_cons_succ]) <;> rfl), h0.out, (fun _ => rfl), h2.out, h3.out, h4.out, h5.out, h6.out, h7.out, hm⟩
    refine Steps.cons (i := 2) rfl ?_ ?_
    · rintro L a u ⟨x0, x1, x2, x3, x4, x5, x6, x7, x8, rfl, h0, h1, h2, h3, h4, h5, h6, h7, hm⟩ hi hd K hK
      simp only [putAll, Act.put, List.setIfInBounds_toArray, List.set_cons_zero, List.set_cons_succ]
      (try simp [Region.binds] at hd)
      replace h0 := Lib.hid h0
      replace h1 := Lib.hid h1
      replace h2 := Lib.hid h2
      replace h3 := Lib.hid h3
      replace h4 := Lib.hid h4
      replace h5 := Lib.hid h5
      replace h6 := Lib.hid h6
      replace h7 := Lib.hid h7
      obtain rfl := (h1.out (by simp [hd])).symm
      go_simp
      exact hK.out _ _ ⟨_, _, _, _, _, _, _, _, _, by ((simp only [putAll, Act.put, List.setIfInBounds_toArray, List.set_cons_zero, List.set_cons_succ]) <;> rfl), h0.out, h1.out, (fun _ => rfl), h3.out, h4.out, h5.out, h6.out, h7.out, hm⟩
    refine Steps.cons (i := 3) rfl ?_ ?_
    · rintro L a u ⟨x0, x1, x2, x3, x4, x5, x6, x7, x8, rfl, h0, h1, h2, h3, h4, h5, h6, h7, hm⟩ hi hd K hK
      simp only [putAll, Act.put, List.setIfInBounds_toArray, List.set_cons_zero, List.set_cons_succ]
      (try simp [Region.binds] at hd)
      replace h0 := Lib.hid h0
      replace h1 := Lib.hid h1
      replace h2 := Lib.hid h2
      replace h3 := Lib.hid h3
      replace h4 := Lib.hid h4
      replace h5 := Lib.hid h5
      replace h6 := Lib.hid h6
      replace h7 := Lib.hid h7
      obtain rfl := (h2.out (by simp [hd])).symm
      have c0 : u.cell? ⟨q, 0, none⟩ = some (.slice (some ⟨p1, 0, none⟩) n n) := (Q1.out.drew.st2 hm nq1).cell 0
      go_simp
      exact hK.out _ _ ⟨_, _, _, _, _, _, _, _, _, by ((simp only [putAll, Act.put, List.setIfInBounds_toArray, List.set_cons_zero, List.set_cons_succ]) <;> rfl), h0.out, h1.out, h2.out, (fun _ => rfl), h4.out, h5.out, h6.out, h7.out, hm⟩
    refine Steps.cons (i := 4) rfl ?_ ?_
    · rintro L a u ⟨x0, x1, x2, x3, x4, x5, x6, x7, x8, rfl, h0, h1, h2, h3, h4, h5, h6, h7, hm⟩ hi hd K hK
      simp only [putAll, Act.put, List.setIfInBounds_toArray, List.set_cons_zero, List.set_cons_succ]
      (try simp [Region.binds] at hd)
      replace h0 := Lib.hid h0
      replace h1 := Lib.hid h1
      replace h2 := Lib.hid h2
      replace h3 := Lib.hid h3
      replace h4 := Lib.hid h4
      replace h5 := Lib.hid h5
      replace h6 := Lib.hid h6
      replace h7 := Lib.hid h7
      go_simp
      exact hK.out _ _ ⟨_, _, _, _, _, _, _, _, _, by ((simp only [putAll, Act.put, List.setIfInBounds_toArray, List.set_cons_zero, List.set_cons_succ]) <;> rfl), h0.out, h1.out, h2.out, h3.out, (fun _ => rfl), h5.out, h6.out, h7.out, hm⟩
    refine Steps.cons (i := 5) rfl ?_ ?_
    · rintro L a u ⟨x0, x1, x2, x3, x4, x5, x6, x7, x8, rfl, h0, h1, h2, h3, h4, h5, h6, h7, hm⟩ hi hd K hK
      simp only [putAll, Act.put, List.setIfInBounds_toArray, List.set_cons_zero, List.set_cons_succ]
      (try simp [Region.binds] at hd)
      replace h0 := Lib.hid h0
      replace h1 := Lib.hid h1
      replace h2 := Lib.hid h2
      replace h3 := Lib.hid h3
      replace h4 := Lib.hid h4
      replace h5 := Lib.hid h5
      replace h6 := Lib.hid h6
      replace h7 := Lib.hid h7
      obtain rfl := (h4.out (by simp [hd])).symm
      go_simp
      exact hK.out _ _ ⟨_, _, _, _, _, _, _, _, _, by ((simp only [putAll, Act.put, List.setIfInBounds_toArray, List.set_cons_zero, List.set_cons_succ]) <;> rfl), h0.out, h1.out, h2.out, h3.out, h4.out, (fun _ => rfl), h6.out, h7.out, hm⟩
    refine Steps.cons (i := 6) rfl ?_ ?_
    · rintro L a u ⟨x0, x1, x2, x3, x4, x5, x6, x7, x8, rfl, h0, h1, h2, h3, h4, h5, h6, h7, hm⟩ hi hd K hK
      simp only [putAll, Act.put, List.setIfInBounds_toArray, List.set_cons_zero, List.set_cons_succ]
      (try simp [Region.binds] at hd)
      replace h0 := Lib.hid h0
      replace h1 := Lib.hid h1
      replace h2 := Lib.hid h2
      replace h3 := Lib.hid h3
      replace h4 := Lib.hid h4
      replace h5 := Lib.hid h5
      replace h6 := Lib.hid h6
      replace h7 := Lib.hid h7
      obtain rfl := (h5.out (by simp [hd])).symm
      go_simp
      exact hK.out _ _ ⟨_, _, _, _, _, _, _, _, _, by ((simp only [putAll, Act.put, List.setIfInBounds_toArray, List.set_cons_zero, List.set_cons_succ]) <;> rfl), h0.out, h1.out, h2.out, h3.out, h4.out, h5.out, (fun _ => rfl), h7.out, hm⟩
    refine Steps.cons (i := 7) rfl ?_ ?_
    · rintro L a u ⟨x0, x1, x2, x3, x4, x5, x6, x7, x8, rfl, h0, h1, h2, h3, h4, h5, h6, h7, hm⟩ hi hd K hK
      simp only [putAll, Act.put, List.setIfInBounds_toArray, List.set_cons_zero, List.set_cons_succ]
      (try simp [Region.binds] at hd)
      replace h0 := Lib.hid h0
      replace h1 := Lib.hid h1
      replace h2 := Lib.hid h2
      replace h3 := Lib.hid h3
      replace h4 := Lib.hid h4
      replace h5 := Lib.hid h5
      replace h6 := Lib.hid h6
      replace h7 := Lib.hid h7
      obtain rfl := (h6.out (by simp [hd])).symm
      have c1 : u.cell? ⟨g, 0, none⟩ = some (.slice (some ⟨bv, 0, none⟩) n n) := (G1.out.drew.st2 hm ng1).cell 0
      go_simp
      exact hK.out _ _ ⟨_, _, _, _, _, _, _, _, _, by ((simp only [putAll, Act.put, List.setIfInBounds_toArray, List.set_cons_zero, List.set_cons_succ]) <;> rfl), h0.out, h1.out, h2.out, h3.out, h4.out, h5.out, h6.out, (fun _ => rfl), hm⟩
    refine Steps.cons (i := 8) rfl ?_ ?_
    · rintro L a u ⟨x0, x1, x2, x3, x4, x5, x6, x7, x8, rfl, h0, h1, h2, h3, h4, h5, h6, h7, hm⟩ hi hd K hK
      simp only [putAll, Act.put, List.setIfInBounds_toArray, List.set_cons_zero, List.set_cons_succ]
      (try simp [Region.binds] at hd)
      replace h0 := Lib.hid h0
      replace h1 := Lib.hid h1
      replace h2 := Lib.hid h2
      replace h3 := Lib.hid h3
      replace h4 := Lib.hid h4
      replace h5 := Lib.hid h5
      replace h6 := Lib.hid h6
      replace h7 := Lib.hid h7
      obtain rfl := (h3.out (by simp [hd])).symm
      obtain rfl := (h7.out (by simp [hd])).symm
      have hu : u = W1.drew := by rcases hm with ⟨_, h⟩ | ⟨h, _⟩ <;> first | exact h | (rw [hi] at h; cases h)
      subst hu
      have hrun := HRUN.out
      go_simp
      exact hK.out _ _ ⟨_, _, _, _, _, _, _, _, _, by ((simp only [putAll, Act.put, List.setIfInBounds_toArray, List.set_cons_zero, List.set_cons_succ]) <;> rfl), h0.out, h1.out, h2.out, h3.out, h4.out, h5.out, h6.out, h7.out, .inr ⟨rfl, rfl⟩⟩
    · exact Steps.nil
    · rintro L a u ⟨x0, x1, x2, x3, x4, x5, x6, x7, x8, rfl, h0, h1, h2, h3, h4, h5, h6, h7, hm⟩ hall
      rcases hm with ⟨h, _⟩ | ⟨_, rfl⟩
      · rw [hall 8 (by decide)] at h; cases h
      clear h0 h1 h2 h3 h4 h5 h6 h7 hall
      simp only [putAll, Act.put, List.setIfInBounds_toArray, List.set_cons_zero, List.set_cons_succ]
      have hk : Keeps (fun j => j = p1) W1 (W1.drew.setCells p1 0 (flat x.V)) := ((Keeps.refl _ W1).drew).setCells p1 0 _ (.inl rfl)
      have hr1 := R1.out.drew.setCells (flat x.V) 0 (by rw [HVL.out, HZL.out]; omega)
      rw [splice_all _ _ (by rw [HVL.out, HZL.out])] at hr1
      have B2 := Lib.hid (B1.out.trans ((hk.mono (S := fun j => w.heap.size ≤ j) (fun j hj => .inl (by subst hj; exact HS.out.2.1))).below (fun _ h => h) B1.out.size))
      have Q2 := Lib.hid (Q1.out.keeps hk nq1)
      have R12 := Lib.hid hr1
      have R22 := Lib.hid (R2.out.keeps hk (fun e => HNE.out e.symm))
      have R32 := Lib.hid (R3.out.keeps hk (R3.out.type R1.out (by decide)))
      have hbs : ∀ j, Bs g bv bd (.slice ap m cap) fv j → ¬ j = p1 := fun j hj e => by have := HA.out.lt j hj; have := HS.out.2.1; omega
      have A2 := Lib.hid (A1.out.keeps hk hbs)
      have G2 := Lib.hid (G1.out.keeps hk ng1)
      generalize W1.drew.setCells p1 0 (flat x.V) = W2 at *
      clear hk hr1 hbs B1 Q1 R1 R2 R3 A1 G1 HRUN nq1 ng1
      have nq2 : q ≠ p2 := Q2.out.type R22.out (by decide)
      have ng2 : g ≠ p2 := G2.out.type R22.out (by decide)
      have HRUN := Lib.hid (run_copy_cells (P := Tryd.prog) W2.drew 47 47 3 TS 64 p2 0 n n bd 0 n n n (flat x.D) Tryd.underlying47 infoS (Nat.min_self _) HDL.out (A2.out.d.drew.range 0 _ (by rw [List.drop_zero, List.take_length])) (R22.out.drew.there 0 _ (by rw [HDL.out, HZL.out]; omega)) flat_one)
      go_wp2_with fail
      refine wp_region_inv (I := (fun A0 L a u => ∃ (x0 x1 x2 x3 x4 x5 x6 x7 x8 : Value), a = putAll A0 [(36, x0), (37, x1), (38, x2), (39, x3), (40, x4), (41, x5), (42, x6), (43, x7), (44, x8)] ∧ (L 0 = true → x0 = (.pointer (some ⟨q, 0, Option.none⟩))) ∧ (L 1 = true → x1 = (.pointer (some ⟨q, 0, Option.none⟩))) ∧ (L 2 = true → x2 = (.pointer (some ⟨q, 1, Option.none⟩))) ∧ (L 3 = true → x3 = (.slice (some ⟨p2, 0, none⟩) n n)) ∧ (L 4 = true → x4 = (.pointer (some ⟨g, 0, Option.none⟩))) ∧ (L 5 = true → x5 = (.pointer (some ⟨g, 0, Option.none⟩))) ∧ (L 6 = true → x6 = (.pointer (some ⟨g, 1, Option.none⟩))) ∧ (L 7 = true → x7 = (.slice (some ⟨bd, 0, none⟩) n n)) ∧ St2 W2.drew p2 0 (flat x.D) (L 8) u)) (by kernel_rfl) (by kernel_rfl) ?_ ?_ ?_
      · intro L hL
        exact ⟨_, _, _, _, _, _, _, _, _, by (simp only [putAll, Act.put, List.setIfInBounds_toArray, List.set_cons_zero, List.set_cons_succ]; rfl), (fun h => absurd h (by rw [hL 0 (by decide)]; decide)), (fun h => absurd h (by rw [hL 1 (by decide)]; decide)), (fun h => absurd h (by rw [hL 2 (by decide)]; decide)), (fun h => absurd h (by rw [hL 3 (by decide)]; decide)), (fun h => absurd h (by rw [hL 4 (by decide)]; decide)), (fun h => absurd h (by rw [hL 5 (by decide)]; decide)), (fun h => absurd h (by rw [hL 6 (by decide)]; decide)), (fun h => absurd h (by rw [hL 7 (by decide)]; decide)), .inl ⟨hL 8 (by decide), rfl⟩⟩
      refine Steps.cons (i := 0) rfl ?_ ?_
      · rintro L a u ⟨x0, x1, x2, x3, x4, x5, x6, x7, x8, rfl, h0, h1, h2, h3, h4, h5, h6, h7, hm⟩ hi hd K hK
        simp only [putAll, Act.put, List.setIfInBounds_toArray, List.set_cons_zero, List.set_cons_succ]
        (try simp [Region.binds] at hd)
        replace h0 := Lib.hid h0
        replace h1 := Lib.hid h1
        replace h2 := Lib.hid h2
        replace h3 := Lib.hid h3
        replace h4 := Lib.hid h4
        replace h5 := Lib.hid h5
        replace h6 := Lib.hid h6
        replace h7 := Lib.hid h7
        go_simp
        exact hK.out _ _ ⟨_, _, _, _, _, _, _, _, _, by ((simp only [putAll, Act.put, List.setIfInBounds_toArray, List.set_cons_zero, List.set_cons_succ]) <;> rfl), (fun _ => rfl), h1.out, h2.out, h3.out, h4.out, h5.out, h6.out, h7.out, hm⟩
      refine Steps.cons (i := 1) rfl ?_ ?_
      · rintro L a u ⟨x0, x1, x2, x3, x4, x5, x6, x7, x8, rfl, h0, h1, h2, h3, h4, h5, h6, h7, hm⟩ hi hd K hK
        simp only [putAll, Act.put, List.setIfInBounds_toArray, List.set_cons_zero, List.set_cons_succ]
        (try simp [Region.binds] at hd)
        replace h0 := Lib.hid h0
        replace h1 := Lib.hid h1
        replace h2 := Lib.hid h2
        replace h3 := Lib.hid h3
        replace h4 := Lib.hid h4
        replace h5 := Lib.hid h5
        replace h6 := Lib.hid h6
        replace h7 := Lib.hid h7
        obtain rfl := (h0.out (by simp [hd])).symm
        go_simp
        exact hK.out _ _ ⟨_, _, _, _, _, _, _, _, _, by ((simp only [putAll, Act.put, List.setIfInBounds_toArray, List.set_cons_zero, List.set_cons_succ]) <;> rfl), h0.out, (fun _ => rfl), h2.out, h3.out, h4.out, h5.out, h6.out, h7.out, hm⟩
      refine Steps.cons (i := 2) rfl ?_ ?_
      · rintro L a u ⟨x0, x1, x2, x3, x4, x5, x6, x7, x8, rfl, h0, h1, h2, h3, h4, h5, h6, h7, hm⟩ hi hd K hK
        simp only [putAll, Act.put, List.setIfInBounds_toArray, List.set_cons_zero, List.set_cons_succ]
        (try simp [Region.binds] at hd)
        replace h0 := Lib.hid h0
        replace h1 := Lib.hid h1
        replace h2 := Lib.hid h2
        replace h3 := Lib.hid h3
        replace h4 := Lib.hid h4
        replace h5 := Lib.hid h5
        replace h6 := Lib.hid h6
        replace h7 := Lib.hid h7
        obtain rfl := (h1.out (by simp [hd])).symm
        go_simp
        exact hK.out _ _ ⟨_, _, _, _, _, _, _, _, _, by ((simp only [putAll, Act.put, List.setIfInBounds_toArray, List.set_cons_zero, List.set_cons_succ]) <;> rfl), h0.out, h1.out, (fun _ => rfl), h3.out, h4.out, h5.out, h6.out, h7.out, hm⟩
      refine Steps.cons (i := 3) rfl ?_ ?_
      · rintro L a u ⟨x0, x1, x2, x3, x4, x5, x6, x7, x8, rfl, h0, h1, h2, h3, h4, h5, h6, h7, hm⟩ hi hd K hK
        simp only [putAll, Act.put, List.setIfInBounds_toArray, List.set_cons_zero, List.set_cons_succ]
        (try simp [Region.binds] at hd)
        replace h0 := Lib.hid h0
        replace h1 := Lib.hid h1
        replace h2 := Lib.hid h2
        replace h3 := Lib.hid h3
        replace h4 := Lib.hid h4
        replace h5 := Lib.hid h5
        replace h6 := Lib.hid h6
        replace h7 := Lib.hid h7
        obtain rfl := (h2.out (by simp [hd])).symm
        have c0 : u.cell? ⟨q, 1, none⟩ = some (.slice (some ⟨p2, 0, none⟩) n n) := (Q2.out.drew.st2 hm nq2).cell 1
        go_simp
        exact hK.out _ _ ⟨_, _, _, _, _, _, _, _, _, by ((simp only [putAll, Act.put, List.setIfInBounds_toArray, List.set_cons_zero, List.set_cons_succ]) <;> rfl), h0.out, h1.out, h2.out, (fun _ => rfl), h4.out, h5.out, h6.out, h7.out, hm⟩
      refine Steps.cons (i := 4) rfl ?_ ?_
      · rintro L a u ⟨x0, x1, x2, x3, x4, x5, x6, x7, x8, rfl, h0, h1, h2, h3, h4, h5, h6, h7, hm⟩ hi hd K hK
        simp only [putAll, Act.put, List.setIfInBounds_toArray, List.set_cons_zero, List.set_cons_succ]
        (try simp [Region.binds] at hd)
        replace h0 := Lib.hid h0
        replace h1 := Lib.hid h1
        replace h2 := Lib.hid h2
        replace h3 := Lib.hid h3
        replace h4 := Lib.hid h4
        replace h5 := Lib.hid h5
        replace h6 := Lib.hid h6
        replace h7 := Lib.hid h7
        go_simp
        exact hK.out _ _ ⟨_, _, _, _, _, _, _, _, _, by ((simp only [putAll, Act.put, List.setIfInBounds_toArray, List.set_cons_zero, List.set_cons_succ]) <;> rfl), h0.out, h1.out, h2.out, h3.out, (fun _ => rfl), h5.out, h6.out, h7.out, hm⟩
      refine Steps.cons (i := 5) rfl ?_ ?_
      · rintro L a u ⟨x0, x1, x2, x3, x4, x5, x6, x7, x8, rfl, h0, h1, h2, h3, h4, h5, h6, h7, hm⟩ hi hd K hK
        simp only [putAll, Act.put, List.setIfInBounds_toArray, List.set_cons_zero, List.set_cons_succ]
        (try simp [Region.binds] at hd)
        replace h0 := Lib.hid h0
        replace h1 := Lib.hid h1
        replace h2 := Lib.hid h2
        replace h3 := Lib.hid h3
        replace h4 := Lib.hid h4
        replace h5 := Lib.hid h5
        replace h6 := Lib.hid h6
        replace h7 := Lib.hid h7
        obtain rfl := (h4.out (by simp [hd])).symm
        go_simp
        exact hK.out _ _ ⟨_, _, _, _, _, _, _, _, _, by ((simp only [putAll, Act.put, List.setIfInBounds_toArray, List.set_cons_zero, List.set_cons_succ]) <;> rfl), h0.out, h1.out, h2.out, h3.out, h4.out, (fun _ => rfl), h6.out, h7.out, hm⟩
      refine Steps.cons (i := 6) rfl ?_ ?_
      · rintro L a u ⟨x0, x1, x2, x3, x4, x5, x6, x7, x8, rfl, h0, h1, h2, h3, h4, h5, h6, h7, hm⟩ hi hd K hK
        simp only [putAll, Act.put, List.setIfInBounds_toArray, List.set_cons_zero, List.set_cons_succ]
        (try simp [Region.binds] at hd)
        replace h0 := Lib.hid h0
        replace h1 := Lib.hid h1
        replace h2 := Lib.hid h2
        replace h3 := Lib.hid h3
        replace h4 := Lib.hid h4
        replace h5 := Lib.hid h5
        replace h6 := Lib.hid h6
        replace h7 := Lib.hid h7
        obtain rfl := (h5.out (by simp [hd])).symm
        go_simp
        exact hK.out _ _ ⟨_, _, _, _, _, _, _, _, _, by ((simp only [putAll, Act.put, List.setIfInBounds_toArray, List.set_cons_zero, List.set_cons_succ]) <;> rfl), h0.out, h1.out, h2.out, h3.out, h4.out, h5.out, (fun _ => rfl), h7.out, hm⟩
      refine Steps.cons (i := 7) rfl ?_ ?_
      · rintro L a u ⟨x0, x1, x2, x3, x4, x5, x6, x7, x8, rfl, h0, h1, h2, h3, h4, h5, h6, h7, hm⟩ hi hd K hK
        simp only [putAll, Act.put, List.setIfInBounds_toArray, List.set_cons_zero, List.set_cons_succ]
        (try simp [Region.binds] at hd)
        replace h0 := Lib.hid h0
        replace h1 := Lib.hid h1
        replace h2 := Lib.hid h2
        replace h3 := Lib.hid h3
        replace h4 := Lib.hid h4
        replace h5 := Lib.hid h5
        replace h6 := Lib.hid h6
        replace h7 := Lib.hid h7
        obtain rfl := (h6.out (by simp [hd])).symm
        have c1 : u.cell? ⟨g, 1, none⟩ = some (.slice (some ⟨bd, 0, none⟩) n n) := (G2.out.drew.st2 hm ng2).cell 1
        go_simp
        exact hK.out _ _ ⟨_, _, _, _, _, _, _, _, _, by ((simp only [putAll, Act.put, List.setIfInBounds_toArray, List.set_cons_zero, List.set_cons_succ]) <;> rfl), h0.out, h1.out, h2.out, h3.out, h4.out, h5.out, h6.out, (fun _ => rfl), hm⟩
      refine Steps.cons (i := 8) rfl ?_ ?_
      · rintro L a u ⟨x0, x1, x2, x3, x4, x5, x6, x7, x8, rfl, h0, h1, h2, h3, h4, h5, h6, h7, hm⟩ hi hd K hK
        simp only [putAll, Act.put, List.setIfInBounds_toArray, List.set_cons_zero, List.set_cons_succ]
        (try simp [Region.binds] at hd)
        replace h0 := Lib.hid h0
        replace h1 := Lib.hid h1
        replace h2 := Lib.hid h2
        replace h3 := Lib.hid h3
        replace h4 := Lib.hid h4
        replace h5 := Lib.hid h5
        replace h6 := Lib.hid h6
        replace h7 := Lib.hid h7
        obtain rfl := (h3.out (by simp [hd])).symm
        obtain rfl := (h7.out (by simp [hd])).symm
        have hu : u = W2.drew := by rcases hm with ⟨_, h⟩ | ⟨h, _⟩ <;> first | exact h | (rw [hi] at h; cases h)
        subst hu
        have hrun := HRUN.out
        go_simp
        exact hK.out _ _ ⟨_, _, _, _, _, _, _, _, _, by ((simp only [putAll, Act.put, List.setIfInBounds_toArray, List.set_cons_zero, List.set_cons_succ]) <;> rfl), h0.out, h1.out, h2.out, h3.out, h4.out, h5.out, h6.out, h7.out, .inr ⟨rfl, rfl⟩⟩
      · exact Steps.nil
      · rintro L a u ⟨x0, x1, x2, x3, x4, x5, x6, x7, x8, rfl, h0, h1, h2, h3, h4, h5, h6, h7, hm⟩ hall
        rcases hm with ⟨h, _⟩ | ⟨_, rfl⟩
        · rw [hall 8 (by decide)] at h; cases h
        clear h0 h1 h2 h3 h4 h5 h6 h7 hall
        simp only [putAll, Act.put, List.setIfInBounds_toArray, List.set_cons_zero, List.set_cons_succ]
        have hk : Keeps (fun j => j = p2) W2 (W2.drew.setCells p2 0 (flat x.D)) := ((Keeps.refl _ W2).drew).setCells p2 0 _ (.inl rfl)
        have hr1 := R22.out.drew.setCells (flat x.D) 0 (by rw [HDL.out, HZL.out]; omega)
        rw [splice_all _ _ (by rw [HDL.out, HZL.out])] at hr1
        have B3 := Lib.hid ((B2.out).trans ((hk.mono (S := fun j => w.heap.size ≤ j) (fun j hj => .inl (by subst hj; exact HS.out.2.2.1))).below (fun _ h => h) B2.out.size))
        have Q3 := Lib.hid (Q2.out.keeps hk nq2)
        have R13 := Lib.hid (R12.out.keeps hk HNE.out)
        have R23 := Lib.hid hr1
        have R33 := Lib.hid (R32.out.keeps hk (R32.out.type R22.out (by decide)))
        have hbs : ∀ j, Bs g bv bd (.slice ap m cap) fv j → ¬ j = p2 := fun j hj e => by have := HA.out.lt j hj; have := HS.out.2.2.1; omega
        have A3 := Lib.hid (A2.out.keeps hk hbs)
        have G3 := Lib.hid (G2.out.keeps hk ng2)
        generalize W2.drew.setCells p2 0 (flat x.D) = W3 at *
        clear hk hr1 hbs B2 Q2 R12 R22 R32 A2 G2 HRUN nq2 ng2
        have nq3 : q ≠ p3 := Q3.out.type R33.out (by decide)
        have ng3 : g ≠ p3 := G3.out.type R33.out (by decide)
        have HRUN := Lib.hid (show (Builtin.copy_ #[48, 48] 3 #[.slice (some ⟨p3, 0, none⟩) m m, .slice ap m cap]).run Tryd.prog W3.drew = .ok (goInt m) (W3.drew.setCells p3 0 (flatP x.P)) by
          by_cases h0 : m = 0
          · subst h0
            have hp0 : x.P = [] := List.length_eq_zero_iff.1 HM.out
            rw [hp0, run_copy_0 (P := Tryd.prog) W3.drew 48 48 3 TW 65 p3 0 0 0 ap cap Tryd.underlying48 infoW']
            rfl
          · obtain ⟨gp, cap', e, _⟩ := A3.out.p.form (by rw [HM.out]; omega)
            injection e with e
            subst e
            exact run_copy_cells (P := Tryd.prog) W3.drew 48 48 3 TW 65 p3 0 m m gp 0 m cap m (flatP x.P) Tryd.underlying48 infoW' (Nat.min_self _) HPL.out (fun j v hv => by
              have := A3.out.p.cells (g := gp) rfl j v hv
              rw [Addr.add_mid] at this
              exact this) (R33.out.drew.there 0 _ (by rw [HPL.out, mkz_len]; omega)) flatP_one)
        go_wp2_with fail
        refine wp_region_inv (I := (fun A0 L a u => ∃ (x0 x1 x2 x3 x4 x5 x6 x7 x8 : Value), a = putAll A0 [(45, x0), (46, x1), (47, x2), (48, x3), (49, x4), (50, x5), (51, x6), (52, x7), (53, x8)] ∧ (L 0 = true → x0 = (.pointer (some ⟨q, 0, Option.none⟩))) ∧ (L 1 = true → x1 = (.pointer (some ⟨q, 0, Option.none⟩))) ∧ (L 2 = true → x2 = (.pointer (some ⟨q, 2, Option.none⟩))) ∧ (L 3 = true → x3 = (.slice (some ⟨p3, 0, none⟩) m m)) ∧ (L 4 = true → x4 = (.pointer (some ⟨g, 0, Option.none⟩))) ∧ (L 5 = true → x5 = (.pointer (some ⟨g, 0, Option.none⟩))) ∧ (L 6 = true → x6 = (.pointer (some ⟨g, 2, Option.none⟩))) ∧ (L 7 = true → x7 = (.slice ap m cap)) ∧ St2 W3.drew p3 0 (flatP x.P) (L 8) u)) (by kernel_rfl) (by kernel_rfl) ?_ ?_ ?_
        · intro L hL
          exact ⟨_, _, _, _, _, _, _, _, _, by (simp only [putAll, Act.put, List.setIfInBounds_toArray, List.set_cons_zero, List.set_cons_succ]; rfl), (fun h => absurd h (by rw [hL 0 (by decide)]; decide)), (fun h => absurd h (by rw [hL 1 (by decide)]; decide)), (fun h => absurd h (by rw [hL 2 (by decide)]; decide)), (fun h => absurd h (by rw [hL 3 (by decide)]; decide)), (fun h => absurd h (by rw [hL 4 (by decide)]; decide)), (fun h => absurd h (by rw [hL 5 (by decide)]; decide)), (fun h => absurd h (by rw [hL 6 (by decide)]; decide)), (fun h => absurd h (by rw [hL 7 (by decide)]; decide)), .inl ⟨hL 8 (by decide), rfl⟩⟩
        refine Steps.cons (i := 0) rfl ?_ ?_
        · rintro L a u ⟨x0, x1, x2, x3, x4, x5, x6, x7, x8, rfl, h0, h1, h2, h3, h4, h5, h6, h7, hm⟩ hi hd K hK
          simp only [putAll, Act.put, List.setIfInBounds_toArray, List.set_cons_zero, List.set_cons_succ]
          (try simp [Region.binds] at hd)
          replace h0 := Lib.hid h0
          replace h1 := Lib.hid h1
          replace h2 := Lib.hid h2
          replace h3 := Lib.hid h3
          replace h4 := Lib.hid h4
          replace h5 := Lib.hid h5
          replace h6 := Lib.hid h6
          replace h7 := Lib.hid h7
          go_simp
          exact hK.out _ _ ⟨_, _, _, _, _, _, _, _, _, by ((simp only [putAll, Act.put, List.setIfInBounds_toArray, List.set_cons_zero, List.set_cons_succ]) <;> rfl), (fun _ => rfl), h1.out, h2.out, h3.out, h4.out, h5.out, h6.out, h7.out, hm⟩
        refine Steps.cons (i := 1) rfl ?_ ?_
        · rintro L a u ⟨x0, x1, x2, x3, x4, x5, x6, x7, x8, rfl, h0, h1, h2, h3, h4, h5, h6, h7, hm⟩ hi hd K hK
          simp only [putAll, Act.put, List.setIfInBounds_toArray, List.set_cons_zero, List.set_cons_succ]
          (try simp [Region.binds] at hd)
          replace h0 := Lib.hid h0
          replace h1 := Lib.hid h1
          replace h2 := Lib.hid h2
          replace h3 := Lib.hid h3
          replace h4 := Lib.hid h4
          replace h5 := Lib.hid h5
          replace h6 := Lib.hid h6
          replace h7 := Lib.hid h7
          obtain rfl := (h0.out (by simp [hd])).symm
          go_simp
          exact hK.out _ _ ⟨_, _, _, _, _, _, _, _, _, by ((simp only [putAll, Act.put, List.setIfInBounds_toArray, List.set_cons_zero, List.set_cons_succ]) <;> rfl), h0.out, (fun _ => rfl), h2.out, h3.out, h4.out, h5.out, h6.out, h7.out, hm⟩
        refine Steps.cons (i := 2) rfl ?_ ?_
        · rintro L a u ⟨x0, x1, x2, x3, x4, x5, x6, x7, x8, rfl, h0, h1, h2, h3, h4, h5, h6, h7, hm⟩ hi hd K hK
          simp only [putAll, Act.put, List.setIfInBounds_toArray, List.set_cons_zero, List.set_cons_succ]
          (try simp [Region.binds] at hd)
          replace h0 := Lib.hid h0
          replace h1 := Lib.hid h1
          replace h2 := Lib.hid h2
          replace h3 := Lib.hid h3
          replace h4 := Lib.hid h4
          replace h5 := Lib.hid h5
          replace h6 := Lib.hid h6
          replace h7 := Lib.hid h7
          obtain rfl := (h1.out (by simp [hd])).symm
          go_simp
          exact hK.out _ _ ⟨_, _, _, _, _, _, _, _, _, by ((simp only [putAll, Act.put, List.setIfInBounds_toArray, List.set_cons_zero, List.set_cons_succ]) <;> rfl), h0.out, h1.out, (fun _ => rfl), h3.out, h4.out, h5.out, h6.out, h7.out, hm⟩
        refine Steps.cons (i := 3) rfl ?_ ?_
        · rintro L a u ⟨x0, x1, x2, x3, x4, x5, x6, x7, x8, rfl, h0, h1, h2, h3, h4, h5, h6, h7, hm⟩ hi hd K hK
          simp only [putAll, Act.put, List.setIfInBounds_toArray, List.set_cons_zero, List.set_cons_succ]
          (try simp [Region.binds] at hd)
          replace h0 := Lib.hid h0
          replace h1 := Lib.hid h1
          replace h2 := Lib.hid h2
          replace h3 := Lib.hid h3
          replace h4 := Lib.hid h4
          replace h5 := Lib.hid h5
          replace h6 := Lib.hid h6
          replace h7 := Lib.hid h7
          obtain rfl := (h2.out (by simp [hd])).symm
          have c0 : u.cell? ⟨q, 2, none⟩ = some (.slice (some ⟨p3, 0, none⟩) m m) := (Q3.out.drew.st2 hm nq3).cell 2
          go_simp
          exact hK.out _ _ ⟨_, _, _, _, _, _, _, _, _, by ((simp only [putAll, Act.put, List.setIfInBounds_toArray, List.set_cons_zero, List.set_cons_succ]) <;> rfl), h0.out, h1.out, h2.out, (fun _ => rfl), h4.out, h5.out, h6.out, h7.out, hm⟩
        refine Steps.cons (i := 4) rfl ?_ ?_
        · rintro L a u ⟨x0, x1, x2, x3, x4, x5, x6, x7, x8, rfl, h0, h1, h2, h3, h4, h5, h6, h7, hm⟩ hi hd K hK
          simp only [putAll, Act.put, List.setIfInBounds_toArray, List.set_cons_zero, List.set_cons_succ]
          (try simp [Region.binds] at hd)
          replace h0 := Lib.hid h0
          replace h1 := Lib.hid h1
          replace h2 := Lib.hid h2
          replace h3 := Lib.hid h3
          replace h4 := Lib.hid h4
          replace h5 := Lib.hid h5
          replace h6 := Lib.hid h6
          replace h7 := Lib.hid h7
          go_simp
          exact hK.out _ _ ⟨_, _, _, _, _, _, _, _, _, by ((simp only [putAll, Act.put, List.setIfInBounds_toArray, List.set_cons_zero, List.set_cons_succ]) <;> rfl), h0.out, h1.out, h2.out, h3.out, (fun _ => rfl), h5.out, h6.out, h7.out, hm⟩
        refine Steps.cons (i := 5) rfl ?_ ?_
        · rintro L a u ⟨x0, x1, x2, x3, x4, x5, x6, x7, x8, rfl, h0, h1, h2, h3, h4, h5, h6, h7, hm⟩ hi hd K hK
          simp only [putAll, Act.put, List.setIfInBounds_toArray, List.set_cons_zero, List.set_cons_succ]
          (try simp [Region.binds] at hd)
          replace h0 := Lib.hid h0
          replace h1 := Lib.hid h1
          replace h2 := Lib.hid h2
          replace h3 := Lib.hid h3
          replace h4 := Lib.hid h4
          replace h5 := Lib.hid h5
          replace h6 := Lib.hid h6
          replace h7 := Lib.hid h7
          obtain rfl := (h4.out (by simp [hd])).symm
          go_simp
          exact hK.out _ _ ⟨_, _, _, _, _, _, _, _, _, by ((simp only [putAll, Act.put, List.setIfInBounds_toArray, List.set_cons_zero, List.set_cons_succ]) <;> rfl), h0.out, h1.out, h2.out, h3.out, h4.out, (fun _ => rfl), h6.out, h7.out, hm⟩
        refine Steps.cons (i := 6) rfl ?_ ?_
        · rintro L a u ⟨x0, x1, x2, x3, x4, x5, x6, x7, x8, rfl, h0, h1, h2, h3, h4, h5, h6, h7, hm⟩ hi hd K hK
          simp only [putAll, Act.put, List.setIfInBounds_toArray, List.set_cons_zero, List.set_cons_succ]
          (try simp [Region.binds] at hd)
          replace h0 := Lib.hid h0
          replace h1 := Lib.hid h1
          replace h2 := Lib.hid h2
          replace h3 := Lib.hid h3
          replace h4 := Lib.hid h4
          replace h5 := Lib.hid h5
          replace h6 := Lib.hid h6
          replace h7 := Lib.hid h7
          obtain rfl := (h5.out (by simp [hd])).symm
          go_simp
          exact hK.out _ _ ⟨_, _, _, _, _, _, _, _, _, by ((simp only [putAll, Act.put, List.setIfInBounds_toArray, List.set_cons_zero, List.set_cons_succ]) <;> rfl), h0.out, h1.out, h2.out, h3.out, h4.out, h5.out, (fun _ => rfl), h7.out, hm⟩
        refine Steps.cons (i := 7) rfl ?_ ?_
        · rintro L a u ⟨x0, x1, x2, x3, x4, x5, x6, x7, x8, rfl, h0, h1, h2, h3, h4, h5, h6, h7, hm⟩ hi hd K hK
          simp only [putAll, Act.put, List.setIfInBounds_toArray, List.set_cons_zero, List.set_cons_succ]
          (try simp [Region.binds] at hd)
          replace h0 := Lib.hid h0
          replace h1 := Lib.hid h1
          replace h2 := Lib.hid h2
          replace h3 := Lib.hid h3
          replace h4 := Lib.hid h4
          replace h5 := Lib.hid h5
          replace h6 := Lib.hid h6
          replace h7 := Lib.hid h7
          obtain rfl := (h6.out (by simp [hd])).symm
          have c1 : u.cell? ⟨g, 2, none⟩ = some (.slice ap m cap) := (G3.out.drew.st2 hm ng3).cell 2
          go_simp
          exact hK.out _ _ ⟨_, _, _, _, _, _, _, _, _, by ((simp only [putAll, Act.put, List.setIfInBounds_toArray, List.set_cons_zero, List.set_cons_succ]) <;> rfl), h0.out, h1.out, h2.out, h3.out, h4.out, h5.out, h6.out, (fun _ => rfl), hm⟩
        refine Steps.cons (i := 8) rfl ?_ ?_
        · rintro L a u ⟨x0, x1, x2, x3, x4, x5, x6, x7, x8, rfl, h0, h1, h2, h3, h4, h5, h6, h7, hm⟩ hi hd K hK
          simp only [putAll, Act.put, List.setIfInBounds_toArray, List.set_cons_zero, List.set_cons_succ]
          (try simp [Region.binds] at hd)
          replace h0 := Lib.hid h0
          replace h1 := Lib.hid h1
          replace h2 := Lib.hid h2
          replace h3 := Lib.hid h3
          replace h4 := Lib.hid h4
          replace h5 := Lib.hid h5
          replace h6 := Lib.hid h6
          replace h7 := Lib.hid h7
          obtain rfl := (h3.out (by simp [hd])).symm
          obtain rfl := (h7.out (by simp [hd])).symm
          have hu : u = W3.drew := by rcases hm with ⟨_, h⟩ | ⟨h, _⟩ <;> first | exact h | (rw [hi] at h; cases h)
          subst hu
          have hrun := HRUN.out
          go_simp
          exact hK.out _ _ ⟨_, _, _, _, _, _, _, _, _, by ((simp only [putAll, Act.put, List.setIfInBounds_toArray, List.set_cons_zero, List.set_cons_succ]) <;> rfl), h0.out, h1.out, h2.out, h3.out, h4.out, h5.out, h6.out, h7.out, .inr ⟨rfl, rfl⟩⟩
        · exact Steps.nil
        · rintro L a u ⟨x0, x1, x2, x3, x4, x5, x6, x7, x8, rfl, h0, h1, h2, h3, h4, h5, h6, h7, hm⟩ hall
          rcases hm with ⟨h, _⟩ | ⟨_, rfl⟩
          · rw [hall 8 (by decide)] at h; cases h
          clear h0 h1 h2 h3 h4 h5 h6 h7 hall
          simp only [putAll, Act.put, List.setIfInBounds_toArray, List.set_cons_zero, List.set_cons_succ]
          have hk : Keeps (fun j => j = p3) W3 (W3.drew.setCells p3 0 (flatP x.P)) := ((Keeps.refl _ W3).drew).setCells p3 0 _ (.inl rfl)
          have hr1 := R33.out.drew.setCells (flatP x.P) 0 (by rw [HPL.out, mkz_len]; omega)
          rw [splice_all _ _ (by rw [HPL.out, mkz_len])] at hr1
          have B4 := Lib.hid ((B3.out).trans ((hk.mono (S := fun j => w.heap.size ≤ j) (fun j hj => .inl (by subst hj; exact HS.out.2.2.2))).below (fun _ h => h) B3.out.size))
          have Q4 := Lib.hid (Q3.out.keeps hk nq3)
          have R14 := Lib.hid (R13.out.keeps hk (R13.out.type R33.out (by decide)))
          have R24 := Lib.hid (R23.out.keeps hk (R23.out.type R33.out (by decide)))
          have R34 := Lib.hid hr1
          have hbs : ∀ j, Bs g bv bd (.slice ap m cap) fv j → ¬ j = p3 := fun j hj e => by have := HA.out.lt j hj; have := HS.out.2.2.2; omega
          have A4 := Lib.hid (A3.out.keeps hk hbs)
          have hm63 : m ≤ maxLen := by unfold maxLen; omega
          generalize W3.drew.setCells p3 0 (flatP x.P) = W4 at *
          clear hk hr1 hbs B3 Q3 R13 R23 R33 A3 G3 HRUN nq3 ng3
          have C4 := Lib.hid (show AtV W4 q p1 p2 (.slice (some ⟨p3, 0, none⟩) m m) (.pointer none) x.V ⟨x.D, x.P, none⟩ from ⟨by show Rw W4 q TD [.slice _ x.n x.n, .slice _ x.n x.n, _, _]; rw [HN.out]; exact Q4.out, R14.out, R24.out, by show W4.ownsRow 0 TW 65 _ x.P.length (flatP x.P); rw [HM.out]; exact ⟨HPL.out, .inr ⟨p3, m, (flatP x.P).toArray, rfl, Nat.zero_le _, R34.out, Nat.le_refl _, hm63, by rw [List.size_toArray, HPL.out], by rw [List.take_of_length_le (by simp [HPL.out])]⟩⟩, .inl ⟨rfl, rfl⟩, HNE.out⟩)
          have c3 : W4.cell? ⟨g, 3, none⟩ = some fv := A4.out.c3
          have hbq : ∀ (fv' : Value), (∀ j, ptrB fv' = some j → w.heap.size ≤ j) → ∀ j, Bs q p1 p2 (.slice (some ⟨p3, 0, none⟩) m m) fv' j → w.heap.size ≤ j := by
            intro fv' hf j hj
            rcases hj with rfl | rfl | rfl | hj | hj
            · exact HS.out.1
            · exact HS.out.2.1
            · exact HS.out.2.2.1
            · cases hj; exact HS.out.2.2.2
            · exact hf j hj
          have HBQ := Lib.hid hbq
          clear hbq Q4 R14 R24 R34
          rcases A4.out.f with ⟨h1, rfl⟩ | ⟨b, k, h1, rfl, h3⟩
          · go_wp2_with fail
            go_ret
            have h5 := C4.out
            rw [← h1] at h5
            exact ⟨q, p1, p2, _, _, rfl, h5, B4.out, HBQ.out _ (fun j hj => by cases hj)⟩
          · have c5 : W4.cell? ⟨b, 0, none⟩ = some (.int .i64 (k : Int)) := h3.cell 0
            have h1' := Lib.hid h1
            have HXF := Lib.hid (show (Dr.mk x.D x.P none).Ok from ⟨HX.out.n1, HX.out.n2, HX.out.d, HX.out.p, fun k hk => by cases hk⟩)
            clear h1 h3
            go_wp2_with fail
            refine (fuse_c q p1 p2 _ _ ⟨x.D, x.P, none⟩ (k : Int) W4 C4.out HXF.out).mono ?_
            rintro e W5 ⟨rfl, pv', fv', hA5, hK5, hB5⟩
            go_wp2_with fail
            go_ret
            have hfu : (Dr.mk x.D x.P none).fuse (k : Int) = x := by
              unfold Dr.fuse
              rw [if_neg (by omega), Int.toNat_natCast, ← h1'.out]
            rw [hfu] at hA5
            have hlo := HBQ.out (.pointer none) (fun j hj => by cases hj)
            exact ⟨q, p1, p2, pv', fv', rfl, hA5, B4.out.trans (hK5.below hlo B4.out.size), fun j hj => (hB5 j hj).elim (hlo j) fun h => Nat.le_trans B4.out.size h⟩

end Go.Proofs.YtjlncjabiofklaaDoor.Dv
