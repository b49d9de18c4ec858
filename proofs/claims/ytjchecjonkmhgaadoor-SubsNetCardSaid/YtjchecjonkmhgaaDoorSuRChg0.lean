/- The document's Change. -/
import Derived.Test.YtjchecjonkmhgaaDoorSuChg0
import Derived.Deep.RegionHeld3
import Derived.Maps.RangeWalk
namespace Go.Proofs.YtjchecjonkmhgaaDoor.Su
open Go.RowKit Pr Cw An Rf
def lastB (s : Sb) (m day : Int) : Bool := decide (bnd s.c m (s.b.toNat - 1) ≤ day) && (decide (day < en s.e (bnd s.c m s.b.toNat)) && decide (s.s ≤ day))
set_option maxHeartbeats 1600000 in
theorem last_none (s : Sb) (day : Int) (w : World) (h : s.b = 0) : Calls Tryd.prog 37 #[s.val, .int .i64 day] w fun e w' => e = .returned (.tuple #[.int .i64 0, .bool false]) ∧ Below w.heap.size w w' := by
  have D0 := Lib.hid ((Below.refl _ w).alloc (Nat.le_refl _) (.cells s.cells 26))
  have q : (s.b == 0) = true := by simpa using h
  have HH := Lib.hid h
  clear h
  go_enter Tryd.func37, Tryd.ntmps37
  unfold Sb.val Sb.cells
  go_wp2_with fail
  all_goals first | (exfalso; have := HH.out; omega) | (go_ret2; exact ⟨rfl, by first | exact D0.out | exact (Below.refl _ _).alloc (Nat.le_refl _) _⟩)
/-- What the walk of last keeps. -/
def Lz (w : World) (s : Sb) (u : World) : Prop := Blk u w.heap.size s.cells 26 ∧ Below w.heap.size w u
theorem Lz.later {w : World} {s : Sb} {u v : World} (h : Lz w s u) (k : Below u.heap.size u v) : Lz w s v := ⟨h.1.later k, h.2.trans (k.mono h.2.size)⟩
theorem Lz.pack {w : World} {s : Sb} {u : World} (h : Lz w s u) : u.cell? ⟨w.heap.size, 0, Option.none⟩ = some (.int .u64 s.id) ∧ u.cell? ⟨w.heap.size, 1, Option.none⟩ = some (.int .u64 s.cu) ∧ u.cell? ⟨w.heap.size, 2, Option.none⟩ = some (.int .u64 s.pl) ∧ u.cell? ⟨w.heap.size, 3, Option.none⟩ = some (.int .i64 s.c.s) ∧ u.cell? ⟨w.heap.size, 4, Option.none⟩ = some (.int .i64 s.c.a) ∧ u.cell? ⟨w.heap.size, 5, Option.none⟩ = some (.int .i64 s.c.e) ∧ u.cell? ⟨w.heap.size, 6, Option.none⟩ = some (.int .i64 s.p) ∧ u.cell? ⟨w.heap.size, 7, Option.none⟩ = some (.int .i64 s.b) ∧ u.cell? ⟨w.heap.size, 8, Option.none⟩ = some (.int .i64 s.s) ∧ u.cell? ⟨w.heap.size, 9, Option.none⟩ = some (.int .i64 s.e) ∧ Lz w s u := ⟨h.1.cell 0, h.1.cell 1, h.1.cell 2, h.1.cell 3, h.1.cell 4, h.1.cell 5, h.1.cell 6, h.1.cell 7, h.1.cell 8, h.1.cell 9, h⟩
set_option maxRecDepth 100000 in
set_option maxHeartbeats 3200000 in
theorem last_some (s : Sb) (m day : Int) (w : World) (h : s.Ok m) (hin : In m s.c.s) (hb : 1 ≤ s.b) : Calls Tryd.prog 37 #[s.val, .int .i64 day] w fun e w' => e = .returned (.tuple #[.int .i64 (bnd s.c m s.b.toNat), .bool (lastB s m day)]) ∧ Below w.heap.size w w' := by
  have hbb := h.num.b1
  have K1 := Lib.hid (fun u => rbnd_yes s.c m (s.b - 1) (s.b.toNat - 1) (by omega) u h.c hin (Has.le h.c (by omega) h.has))
  have K2 := Lib.hid (fun u => rbnd_yes s.c m s.b s.b.toNat (by omega) u h.c hin h.has)
  obtain ⟨f, hf⟩ : ∃ f, bnd s.c m (s.b.toNat - 1) = f := ⟨_, rfl⟩
  obtain ⟨n, hn⟩ : ∃ n, bnd s.c m s.b.toNat = n := ⟨_, rfl⟩
  have HL := Lib.hid (show lastB s m day = (decide (f ≤ day) && (decide (day < en s.e n) && decide (s.s ≤ day))) by unfold lastB; rw [hf, hn])
  rw [hf] at K1
  rw [hn] at K2 ⊢
  have KE := Lib.hid (fun u => rend_c s n u)
  obtain ⟨ev, hev⟩ : ∃ ev, en s.e n = ev := ⟨_, rfl⟩
  rw [hev] at KE HL
  have q : (s.b == 0) = false := by simp; omega
  have D0 := Lib.hid (show Lz w s (w.alloc (.cells s.cells 26)) from ⟨Blk.new w _ _, (Below.refl _ w).alloc (Nat.le_refl _) _⟩)
  clear hf hn hev h hin
  go_enter Tryd.func37, Tryd.ntmps37
  unfold Sb.val Sb.cells
  go_wp2_with fail
  refine (K1.out _).mono ?_
  rintro e w1 ⟨rfl, b1⟩
  have D1 := Lib.hid (D0.out.later b1)
  clear b1
  obtain ⟨x0, x1, x2, x3, x4, x5, x6, x7, x8, x9, -⟩ := D1.out.pack
  go_wp2_with fail
  refine (K2.out _).mono ?_
  rintro e w2 ⟨rfl, b2⟩
  have D2 := Lib.hid (D1.out.later b2)
  clear b2 x0 x1 x2 x3 x4 x5 x6 x7 x8 x9
  have J := D2.out.later ((Below.refl _ w2).drew)
  rcases (show ¬ f ≤ day ∨ (f ≤ day ∧ ¬ day < ev) ∨ (f ≤ day ∧ day < ev ∧ ¬ s.s ≤ day) ∨ (f ≤ day ∧ day < ev ∧ s.s ≤ day) by omega) with h1 | ⟨h1, h2⟩ | ⟨h1, h2, h3⟩ | ⟨h1, h2, h3⟩
  · have q1 : decide (f ≤ day) = false := by simpa using h1
    go_wp2_with fail
    refine wp_region_held_drew (S := fun u => u.cell? ⟨w.heap.size, 0, Option.none⟩ = some (.int .u64 s.id) ∧ u.cell? ⟨w.heap.size, 1, Option.none⟩ = some (.int .u64 s.cu) ∧ u.cell? ⟨w.heap.size, 2, Option.none⟩ = some (.int .u64 s.pl) ∧ u.cell? ⟨w.heap.size, 3, Option.none⟩ = some (.int .i64 s.c.s) ∧ u.cell? ⟨w.heap.size, 4, Option.none⟩ = some (.int .i64 s.c.a) ∧ u.cell? ⟨w.heap.size, 5, Option.none⟩ = some (.int .i64 s.c.e) ∧ u.cell? ⟨w.heap.size, 6, Option.none⟩ = some (.int .i64 s.p) ∧ u.cell? ⟨w.heap.size, 7, Option.none⟩ = some (.int .i64 s.b) ∧ u.cell? ⟨w.heap.size, 8, Option.none⟩ = some (.int .i64 s.s) ∧ u.cell? ⟨w.heap.size, 9, Option.none⟩ = some (.int .i64 s.e) ∧ Lz w s u) (by kernel_rfl) (Lz.pack J) (fun hHeld => ?_)
    refine wpAnyH_take (i := 0) (v := ?_) rfl (by kernel_rfl) (by kernel_rfl) (by kernel_rfl) (fun _ _ _ h => h) (Or.inl ⟨by rfl, ?_⟩) (by assumption) ?_
    rotate_left
    · intro wS hSw
      (try dsimp only at hSw)
      go_simp
      try with_reducible rfl
    try go_frame
    refine wpAnyH_take (i := 1) (v := ?_) rfl (by kernel_rfl) (by kernel_rfl) (by kernel_rfl) (fun _ _ _ h => h) (Or.inl ⟨by rfl, ?_⟩) (by assumption) ?_
    rotate_left
    · intro wS hSw
      (try dsimp only at hSw)
      go_simp
      try with_reducible rfl
    try go_frame
    refine wpAnyH_take (i := 2) (v := ?_) rfl (by kernel_rfl) (by kernel_rfl) (by kernel_rfl) (fun _ _ _ h => h) (Or.inl ⟨by rfl, ?_⟩) (by assumption) ?_
    rotate_left
    · intro wS hSw
      (try dsimp only at hSw)
      go_simp
      try with_reducible rfl
    try go_frame
    refine wpAnyH_take (i := 3) (v := ?_) rfl (by kernel_rfl) (by kernel_rfl) (by kernel_rfl) (fun _ _ _ h => h) (Or.inl ⟨by rfl, ?_⟩) (by assumption) ?_
    rotate_left
    · intro wS hSw
      (try dsimp only at hSw)
      go_simp
      try with_reducible rfl
    try go_frame
    refine wpAnyH_take (i := 4) (v := ?_) rfl (by kernel_rfl) (by kernel_rfl) (by kernel_rfl) (fun _ _ _ h => h) (Or.inl ⟨by rfl, ?_⟩) (by assumption) ?_
    rotate_left
    · intro wS hSw
      (try dsimp only at hSw)
      go_simp
      try with_reducible rfl
    try go_frame
    refine wpAnyH_take (i := 5) (v := undef) rfl (by kernel_rfl) (by kernel_rfl) (by kernel_rfl) (fun _ _ _ h => h) (Or.inr ⟨by rfl, rfl⟩) (by assumption) ?_
    try go_frame
    refine wpAnyH_take (i := 6) (v := undef) rfl (by kernel_rfl) (by kernel_rfl) (by kernel_rfl) (fun _ _ _ h => h) (Or.inr ⟨by rfl, rfl⟩) (by assumption) ?_
    try go_frame
    refine wpAnyH_take (i := 7) (v := undef) rfl (by kernel_rfl) (by kernel_rfl) (by kernel_rfl) (fun _ _ _ h => h) (Or.inr ⟨by rfl, rfl⟩) (by assumption) ?_
    try go_frame
    refine wpAnyH_ready (rs := [8]) (by kernel_rfl) (by simp) ?_
    refine AllReadyH.cons rfl (fun K hK => ?_) AllReadyH.nil
    go_simp
    refine hK.out _ _ ?_ (fun hHeld => ?_)
    · exact Lz.pack J
    clear hK K
    try go_frame
    refine wpAnyH_take (i := 9) (oi := { dst := some 39, op := .binOp .lss 3 (.tmp 35) (.tmp 38) 3, type := 4, pos := "ref.go:101", after := _, guard := some (4, true) }) (v := undef) rfl (by kernel_rfl) (by kernel_rfl) (by kernel_rfl) (fun _ _ _ h => h) (Or.inr ⟨by rfl, rfl⟩) (by assumption) ?_
    try go_frame
    refine wpAnyH_take (i := 10) (oi := { dst := some 40, op := .pick (.tmp 34) (.tmp 39) (.const (.bool false)), type := 4, pos := "ref.go:101", after := _, guard := Option.none }) (v := ?_) rfl (by kernel_rfl) (by kernel_rfl) (by kernel_rfl) (fun _ _ _ h => h) (Or.inl ⟨by rfl, ?_⟩) (by assumption) ?_
    rotate_left
    · intro wS hSw
      (try dsimp only at hSw)
      go_simp
      try with_reducible rfl
    try go_frame
    refine wpAnyH_take (i := 11) (oi := { dst := some 41, op := .move (.tmp 40), type := 4, pos := "ref.go:101", after := _, guard := Option.none }) (v := ?_) rfl (by kernel_rfl) (by kernel_rfl) (by kernel_rfl) (fun _ _ _ h => h) (Or.inl ⟨by rfl, ?_⟩) (by assumption) ?_
    rotate_left
    · intro wS hSw
      (try dsimp only at hSw)
      go_simp
      try with_reducible rfl
    try go_frame
    refine wpAnyH_take (i := 12) (oi := { dst := some 42, op := .move (.tmp 1), type := 3, pos := "ref.go:101", after := _, guard := some (11, true) }) (v := undef) rfl (by kernel_rfl) (by kernel_rfl) (by kernel_rfl) (fun _ _ _ h => h) (Or.inr ⟨by rfl, rfl⟩) (by assumption) ?_
    try go_frame
    refine wpAnyH_take (i := 13) (oi := { dst := some 43, op := .fieldAddr 26 (.tmp 2) 6, type := 0, pos := "ref.go:101", after := _, guard := some (11, true) }) (v := undef) rfl (by kernel_rfl) (by kernel_rfl) (by kernel_rfl) (fun _ _ _ h => h) (Or.inr ⟨by rfl, rfl⟩) (by assumption) ?_
    try go_frame
    refine wpAnyH_take (i := 14) (oi := { dst := some 44, op := .load 3 (.tmp 43), type := 3, pos := "ref.go:101", after := _, guard := some (11, true) }) (v := undef) rfl (by kernel_rfl) (by kernel_rfl) (by kernel_rfl) (fun _ _ _ h => h) (Or.inr ⟨by rfl, rfl⟩) (by assumption) ?_
    try go_frame
    refine wpAnyH_take (i := 15) (oi := { dst := some 45, op := .binOp .geq 3 (.tmp 42) (.tmp 44) 3, type := 4, pos := "ref.go:101", after := _, guard := some (11, true) }) (v := undef) rfl (by kernel_rfl) (by kernel_rfl) (by kernel_rfl) (fun _ _ _ h => h) (Or.inr ⟨by rfl, rfl⟩) (by assumption) ?_
    try go_frame
    refine wpAnyH_take (i := 16) (oi := { dst := some 46, op := .pick (.tmp 41) (.tmp 45) (.const (.bool false)), type := 4, pos := "ref.go:101", after := _, guard := Option.none }) (v := ?_) rfl (by kernel_rfl) (by kernel_rfl) (by kernel_rfl) (fun _ _ _ h => h) (Or.inl ⟨by rfl, ?_⟩) (by assumption) ?_
    rotate_left
    · intro wS hSw
      (try dsimp only at hSw)
      go_simp
      try with_reducible rfl
    try go_frame
    refine wpAnyH_take (i := 17) (oi := { dst := some 4, op := .assign (.tmp 30), type := 3, pos := "ref.go:101", after := _, guard := Option.none }) (v := ?_) rfl (by kernel_rfl) (by kernel_rfl) (by kernel_rfl) (fun _ _ _ h => h) (Or.inl ⟨by rfl, ?_⟩) (by assumption) ?_
    rotate_left
    · intro wS hSw
      (try dsimp only at hSw)
      go_simp
      try with_reducible rfl
    try go_frame
    refine wpAnyH_take (i := 18) (oi := { dst := some 5, op := .assign (.tmp 46), type := 4, pos := "ref.go:101", after := _, guard := Option.none }) (v := ?_) rfl (by kernel_rfl) (by kernel_rfl) (by kernel_rfl) (fun _ _ _ h => h) (Or.inl ⟨by rfl, ?_⟩) (by assumption) ?_
    rotate_left
    · intro wS hSw
      (try dsimp only at hSw)
      go_simp
      try with_reducible rfl
    try go_frame
    refine wpAnyH_done (by kernel_rfl) ?_ _
    go_wp2_with fail
    go_ret2
    exact ⟨by rw [HL.out, q1]; rfl, J.2⟩
  · have q1 : decide (f ≤ day) = true := by simpa using h1
    have q2 : decide (day < ev) = false := by simpa using h2
    go_wp2_with fail
    refine wp_region_held_drew (S := fun u => u.cell? ⟨w.heap.size, 0, Option.none⟩ = some (.int .u64 s.id) ∧ u.cell? ⟨w.heap.size, 1, Option.none⟩ = some (.int .u64 s.cu) ∧ u.cell? ⟨w.heap.size, 2, Option.none⟩ = some (.int .u64 s.pl) ∧ u.cell? ⟨w.heap.size, 3, Option.none⟩ = some (.int .i64 s.c.s) ∧ u.cell? ⟨w.heap.size, 4, Option.none⟩ = some (.int .i64 s.c.a) ∧ u.cell? ⟨w.heap.size, 5, Option.none⟩ = some (.int .i64 s.c.e) ∧ u.cell? ⟨w.heap.size, 6, Option.none⟩ = some (.int .i64 s.p) ∧ u.cell? ⟨w.heap.size, 7, Option.none⟩ = some (.int .i64 s.b) ∧ u.cell? ⟨w.heap.size, 8, Option.none⟩ = some (.int .i64 s.s) ∧ u.cell? ⟨w.heap.size, 9, Option.none⟩ = some (.int .i64 s.e) ∧ Lz w s u) (by kernel_rfl) (Lz.pack J) (fun hHeld => ?_)
    refine wpAnyH_take (i := 0) (v := ?_) rfl (by kernel_rfl) (by kernel_rfl) (by kernel_rfl) (fun _ _ _ h => h) (Or.inl ⟨by rfl, ?_⟩) (by assumption) ?_
    rotate_left
    · intro wS hSw
      (try dsimp only at hSw)
      go_simp
      try with_reducible rfl
    try go_frame
    refine wpAnyH_take (i := 1) (v := ?_) rfl (by kernel_rfl) (by kernel_rfl) (by kernel_rfl) (fun _ _ _ h => h) (Or.inl ⟨by rfl, ?_⟩) (by assumption) ?_
    rotate_left
    · intro wS hSw
      (try dsimp only at hSw)
      go_simp
      try with_reducible rfl
    try go_frame
    refine wpAnyH_take (i := 2) (v := ?_) rfl (by kernel_rfl) (by kernel_rfl) (by kernel_rfl) (fun _ _ _ h => h) (Or.inl ⟨by rfl, ?_⟩) (by assumption) ?_
    rotate_left
    · intro wS hSw
      (try dsimp only at hSw)
      go_simp
      try with_reducible rfl
    try go_frame
    refine wpAnyH_take (i := 3) (v := ?_) rfl (by kernel_rfl) (by kernel_rfl) (by kernel_rfl) (fun _ _ _ h => h) (Or.inl ⟨by rfl, ?_⟩) (by assumption) ?_
    rotate_left
    · intro wS hSw
      (try dsimp only at hSw)
      go_simp
      try with_reducible rfl
    try go_frame
    refine wpAnyH_take (i := 4) (v := ?_) rfl (by kernel_rfl) (by kernel_rfl) (by kernel_rfl) (fun _ _ _ h => h) (Or.inl ⟨by rfl, ?_⟩) (by assumption) ?_
    rotate_left
    · intro wS hSw
      (try dsimp only at hSw)
      go_simp
      try with_reducible rfl
    try go_frame
    refine wpAnyH_take (i := 5) (v := ?_) rfl (by kernel_rfl) (by kernel_rfl) (by kernel_rfl) (fun _ _ _ h => h) (Or.inl ⟨by rfl, ?_⟩) (by assumption) ?_
    rotate_left
    · intro wS hSw
      (try dsimp only at hSw)
      go_simp
      try with_reducible rfl
    try go_frame
    refine wpAnyH_take (i := 6) (v := ?_) rfl (by kernel_rfl) (by kernel_rfl) (by kernel_rfl) (fun _ _ _ h => h) (Or.inl ⟨by rfl, ?_⟩) (by assumption) ?_
    rotate_left
    · intro wS hSw
      (try dsimp only at hSw)
      go_simp
      try with_reducible rfl
    try go_frame
    refine wpAnyH_take (i := 7) (v := ?_) rfl (by kernel_rfl) (by kernel_rfl) (by kernel_rfl) (fun _ _ _ h => h) (Or.inl ⟨by rfl, ?_⟩) (by assumption) ?_
    rotate_left
    · intro wS hSw
      (try dsimp only at hSw)
      go_simp
      try with_reducible rfl
    try go_frame
    refine wpAnyH_ready (rs := [8]) (by kernel_rfl) (by simp) ?_
    refine AllReadyH.cons rfl (fun K hK => ?_) AllReadyH.nil
    go_simp
    refine (KE.out _).mono ?_
    rintro e u1 ⟨rfl, hb1⟩
    have J := Lz.later J hb1
    clear hb1
    go_wp2_with fail
    refine hK.out _ _ ?_ (fun hHeld => ?_)
    · exact Lz.pack J
    clear hK K
    try go_frame
    refine wpAnyH_take (i := 9) (oi := { dst := some 39, op := .binOp .lss 3 (.tmp 35) (.tmp 38) 3, type := 4, pos := "ref.go:101", after := _, guard := some (4, true) }) (v := ?_) rfl (by kernel_rfl) (by kernel_rfl) (by kernel_rfl) (fun _ _ _ h => h) (Or.inl ⟨by rfl, ?_⟩) (by assumption) ?_
    rotate_left
    · intro wS hSw
      (try dsimp only at hSw)
      go_simp
      try with_reducible rfl
    try go_frame
    refine wpAnyH_take (i := 10) (oi := { dst := some 40, op := .pick (.tmp 34) (.tmp 39) (.const (.bool false)), type := 4, pos := "ref.go:101", after := _, guard := Option.none }) (v := ?_) rfl (by kernel_rfl) (by kernel_rfl) (by kernel_rfl) (fun _ _ _ h => h) (Or.inl ⟨by rfl, ?_⟩) (by assumption) ?_
    rotate_left
    · intro wS hSw
      (try dsimp only at hSw)
      go_simp
      try with_reducible rfl
    try go_frame
    refine wpAnyH_take (i := 11) (oi := { dst := some 41, op := .move (.tmp 40), type := 4, pos := "ref.go:101", after := _, guard := Option.none }) (v := ?_) rfl (by kernel_rfl) (by kernel_rfl) (by kernel_rfl) (fun _ _ _ h => h) (Or.inl ⟨by rfl, ?_⟩) (by assumption) ?_
    rotate_left
    · intro wS hSw
      (try dsimp only at hSw)
      go_simp
      try with_reducible rfl
    try go_frame
    refine wpAnyH_take (i := 12) (oi := { dst := some 42, op := .move (.tmp 1), type := 3, pos := "ref.go:101", after := _, guard := some (11, true) }) (v := undef) rfl (by kernel_rfl) (by kernel_rfl) (by kernel_rfl) (fun _ _ _ h => h) (Or.inr ⟨by rfl, rfl⟩) (by assumption) ?_
    try go_frame
    refine wpAnyH_take (i := 13) (oi := { dst := some 43, op := .fieldAddr 26 (.tmp 2) 6, type := 0, pos := "ref.go:101", after := _, guard := some (11, true) }) (v := undef) rfl (by kernel_rfl) (by kernel_rfl) (by kernel_rfl) (fun _ _ _ h => h) (Or.inr ⟨by rfl, rfl⟩) (by assumption) ?_
    try go_frame
    refine wpAnyH_take (i := 14) (oi := { dst := some 44, op := .load 3 (.tmp 43), type := 3, pos := "ref.go:101", after := _, guard := some (11, true) }) (v := undef) rfl (by kernel_rfl) (by kernel_rfl) (by kernel_rfl) (fun _ _ _ h => h) (Or.inr ⟨by rfl, rfl⟩) (by assumption) ?_
    try go_frame
    refine wpAnyH_take (i := 15) (oi := { dst := some 45, op := .binOp .geq 3 (.tmp 42) (.tmp 44) 3, type := 4, pos := "ref.go:101", after := _, guard := some (11, true) }) (v := undef) rfl (by kernel_rfl) (by kernel_rfl) (by kernel_rfl) (fun _ _ _ h => h) (Or.inr ⟨by rfl, rfl⟩) (by assumption) ?_
    try go_frame
    refine wpAnyH_take (i := 16) (oi := { dst := some 46, op := .pick (.tmp 41) (.tmp 45) (.const (.bool false)), type := 4, pos := "ref.go:101", after := _, guard := Option.none }) (v := ?_) rfl (by kernel_rfl) (by kernel_rfl) (by kernel_rfl) (fun _ _ _ h => h) (Or.inl ⟨by rfl, ?_⟩) (by assumption) ?_
    rotate_left
    · intro wS hSw
      (try dsimp only at hSw)
      go_simp
      try with_reducible rfl
    try go_frame
    refine wpAnyH_take (i := 17) (oi := { dst := some 4, op := .assign (.tmp 30), type := 3, pos := "ref.go:101", after := _, guard := Option.none }) (v := ?_) rfl (by kernel_rfl) (by kernel_rfl) (by kernel_rfl) (fun _ _ _ h => h) (Or.inl ⟨by rfl, ?_⟩) (by assumption) ?_
    rotate_left
    · intro wS hSw
      (try dsimp only at hSw)
      go_simp
      try with_reducible rfl
    try go_frame
    refine wpAnyH_take (i := 18) (oi := { dst := some 5, op := .assign (.tmp 46), type := 4, pos := "ref.go:101", after := _, guard := Option.none }) (v := ?_) rfl (by kernel_rfl) (by kernel_rfl) (by kernel_rfl) (fun _ _ _ h => h) (Or.inl ⟨by rfl, ?_⟩) (by assumption) ?_
    rotate_left
    · intro wS hSw
      (try dsimp only at hSw)
      go_simp
      try with_reducible rfl
    try go_frame
    refine wpAnyH_done (by kernel_rfl) ?_ _
    go_wp2_with fail
    go_ret2
    exact ⟨by rw [HL.out, q1, q2]; rfl, J.2⟩
  all_goals
    have q1 : decide (f ≤ day) = true := by simpa using h1
    have q2 : decide (day < ev) = true := by simpa using h2
    try (have q3 : decide (s.s ≤ day) = true := by simpa using h3)
    try (have q3 : decide (s.s ≤ day) = false := by simpa using h3)
    go_wp2_with fail
    go_region_held3 (fun u => u.cell? ⟨w.heap.size, 0, Option.none⟩ = some (.int .u64 s.id) ∧ u.cell? ⟨w.heap.size, 1, Option.none⟩ = some (.int .u64 s.cu) ∧ u.cell? ⟨w.heap.size, 2, Option.none⟩ = some (.int .u64 s.pl) ∧ u.cell? ⟨w.heap.size, 3, Option.none⟩ = some (.int .i64 s.c.s) ∧ u.cell? ⟨w.heap.size, 4, Option.none⟩ = some (.int .i64 s.c.a) ∧ u.cell? ⟨w.heap.size, 5, Option.none⟩ = some (.int .i64 s.c.e) ∧ u.cell? ⟨w.heap.size, 6, Option.none⟩ = some (.int .i64 s.p) ∧ u.cell? ⟨w.heap.size, 7, Option.none⟩ = some (.int .i64 s.b) ∧ u.cell? ⟨w.heap.size, 8, Option.none⟩ = some (.int .i64 s.s) ∧ u.cell? ⟨w.heap.size, 9, Option.none⟩ = some (.int .i64 s.e) ∧ Lz w s u) (exact Lz.pack (by assumption)) (first | (go_at_call 30; (try go_split_ands); refine (KE.out _).mono ?_; rintro e u1 ⟨rfl, hb1⟩; have J := Lz.later (by assumption) hb1; clear hb1))
    go_split_ands
    go_wp2_with fail
    go_ret2
    exact ⟨by rw [HL.out, q1, q2, q3]; rfl, J.2⟩
end Go.Proofs.YtjchecjonkmhgaaDoor.Su
