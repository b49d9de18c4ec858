/- Package drive: Copy. -/
import Derived.Test.YtnfjgmdpokpbbaaDoorDwNew
namespace Go.Proofs.YtnfjgmdpokpbbaaDoor.Dv
open Go Go.RowKit Rf
def ZWr : Array Value := (wc (0, List.replicate 64 0)).toArray
theorem infoW3 : (Tryd.prog.info? TW).map (fun i => (i.zero, i.size, i.bytes)) = some (some (.agg ZWr), 65, 72) := infoW
def mkz (m : Nat) : List Value := (madeCells ZWr (m * 65)).toList
theorem mkz_len (m : Nat) : (mkz m).length = m * 65 := by unfold mkz; rw [Array.length_toList, size_madeCells]
theorem mkW (m : Nat) (hm : m ≤ 100000) (u : World) : (Instr.makeSlice 64 (.int .i64 (m : Int)) (.int .i64 (m : Int))).run Tryd.prog u = .ok (.slice (some ⟨u.heap.size, 0, none⟩) m m) (u.alloc (.cells (mkz m).toArray TW)) := by
  obtain ⟨i0, hi, hz0, hz1, hz2⟩ := info_parts infoW3
  have h := run_make (P := Tryd.prog) u 64 TW i0 (.agg ZWr) Tryd.underlying64 hi hz0 .i64 .i64 (m : Int) (m : Int) (by omega) (Int.le_refl _) (by rw [hz2]; omega) (by omega)
  rw [hz1] at h
  rw [h]
  unfold mkz
  simp [Value.cells]
/-- 'copy' of nothing. -/
theorem run_copy_0 {P : Program} (w : World) (dT sT ty elem : TypeId) (size : Nat) (b o dLen dCap : Nat) (sp : Option Addr) (sCap : Nat) (hu : P.underlying dT = some (.slice elem)) (hsz : (P.info? elem).map (·.size) = some size) :
    (Builtin.copy_ #[dT, sT] ty #[.slice (some ⟨b, o, none⟩) dLen dCap, .slice sp 0 sCap]).run P w = .ok (goInt 0) w := by
  have hz : (Go.sizeOf elem).run P w = .ok size w := by
    cases hq : P.info? elem with
    | none => simp [hq] at hsz
    | some i =>
      have : i.size = size := by simpa [hq] using hsz
      simp [sizeOf, typeInfo, hq, this]
  cases sp <;> simp [Builtin.copy_, run_underlying hu, Builtin.lenOf, Builtin.firstCells, hz, loadCells, loadCellsFrom, storeCells]
/-- What is made, in whatever order. -/
structure Mk3 (W : World) (N m : Nat) (Z Z3 : List Value) (f5 f11 f17 f18 f19 f20 : Bool) (x5 x11 x17 x18 x19 x20 : Value) (u : World) : Prop where
  b : Below W.heap.size W u
  r5 : f5 = true → ∃ b, x5 = .slice (some ⟨b, 0, none⟩) N N ∧ Rw u b TS Z ∧ W.heap.size ≤ b
  r11 : f11 = true → ∃ b, x11 = .slice (some ⟨b, 0, none⟩) N N ∧ Rw u b TS Z ∧ W.heap.size ≤ b
  r17 : f17 = true → ∃ b, x17 = .slice (some ⟨b, 0, none⟩) m m ∧ Rw u b TW Z3 ∧ W.heap.size ≤ b
  ne : f5 = true → f11 = true → x5 ≠ x11
  r18 : f18 = true → f5 = true ∧ f11 = true ∧ f17 = true ∧ x18 = .agg #[x5, x11, x17, .pointer none]
  r19 : f19 = true → f18 = true ∧ ∃ g, x19 = .pointer (some ⟨g, 0, none⟩) ∧ Rw u g TD [x5, x11, x17, .pointer none] ∧ W.heap.size ≤ g
  r20 : f20 = true → f19 = true ∧ x20 = x19
section
variable {W u : World} {N m : Nat} {Z Z3 : List Value} {f5 f11 f17 f18 f19 f20 : Bool} {x5 x11 x17 x18 x19 x20 : Value}
theorem Rws.later {k : Nat} {t : TypeId} {x : Value} {Z : List Value} {f : Bool} {v : World} (h : f = true → ∃ b, x = .slice (some ⟨b, 0, none⟩) k k ∧ Rw u b t Z ∧ W.heap.size ≤ b) (hb : Below u.heap.size u v) : f = true → ∃ b, x = .slice (some ⟨b, 0, none⟩) k k ∧ Rw v b t Z ∧ W.heap.size ≤ b := fun hf => by
  obtain ⟨b, h1, h2, h3⟩ := h hf
  exact ⟨b, h1, h2.later hb, h3⟩
theorem Mk3.s5 (h : Mk3 W N m Z Z3 f5 f11 f17 f18 f19 f20 x5 x11 x17 x18 x19 x20 u) (h0 : f5 = false) : Mk3 W N m Z Z3 true f11 f17 f18 f19 f20 (.slice (some ⟨u.heap.size, 0, none⟩) N N) x11 x17 x18 x19 x20 (u.alloc (.cells Z.toArray TS)) := by
  have hb : Below u.heap.size u (u.alloc (.cells Z.toArray TS)) := (Below.refl _ u).alloc (Nat.le_refl _) _
  have h4 : f18 = true → False := fun k => by have := (h.r18 k).1; rw [h0] at this; cases this
  have h5 : f19 = true → False := fun k => h4 (h.r19 k).1
  exact ⟨h.b.trans (hb.mono h.b.size), fun _ => ⟨_, rfl, Rw.new u Z TS, h.b.size⟩, Rws.later h.r11 hb, Rws.later h.r17 hb, fun _ k e => (by obtain ⟨b3, r1, r2, r3⟩ := h.r11 k; rw [r1] at e; exact ne_new r2 e), fun k => (h4 k).elim, fun k => (h5 k).elim, fun k => (h5 (h.r20 k).1).elim⟩
theorem Mk3.s11 (h : Mk3 W N m Z Z3 f5 f11 f17 f18 f19 f20 x5 x11 x17 x18 x19 x20 u) (h0 : f11 = false) : Mk3 W N m Z Z3 f5 true f17 f18 f19 f20 x5 (.slice (some ⟨u.heap.size, 0, none⟩) N N) x17 x18 x19 x20 (u.alloc (.cells Z.toArray TS)) := by
  have hb : Below u.heap.size u (u.alloc (.cells Z.toArray TS)) := (Below.refl _ u).alloc (Nat.le_refl _) _
  have h4 : f18 = true → False := fun k => by have := (h.r18 k).2.1; rw [h0] at this; cases this
  have h5 : f19 = true → False := fun k => h4 (h.r19 k).1
  exact ⟨h.b.trans (hb.mono h.b.size), Rws.later h.r5 hb, fun _ => ⟨_, rfl, Rw.new u Z TS, h.b.size⟩, Rws.later h.r17 hb, fun k _ e => (by obtain ⟨b3, r1, r2, r3⟩ := h.r5 k; rw [r1] at e; exact ne_new r2 e.symm), fun k => (h4 k).elim, fun k => (h5 k).elim, fun k => (h5 (h.r20 k).1).elim⟩
theorem Mk3.s17 (h : Mk3 W N m Z Z3 f5 f11 f17 f18 f19 f20 x5 x11 x17 x18 x19 x20 u) (h0 : f17 = false) : Mk3 W N m Z Z3 f5 f11 true f18 f19 f20 x5 x11 (.slice (some ⟨u.heap.size, 0, none⟩) m m) x18 x19 x20 (u.alloc (.cells Z3.toArray TW)) := by
  have hb : Below u.heap.size u (u.alloc (.cells Z3.toArray TW)) := (Below.refl _ u).alloc (Nat.le_refl _) _
  have h4 : f18 = true → False := fun k => by have := (h.r18 k).2.2.1; rw [h0] at this; cases this
  have h5 : f19 = true → False := fun k => h4 (h.r19 k).1
  exact ⟨h.b.trans (hb.mono h.b.size), Rws.later h.r5 hb, Rws.later h.r11 hb, fun _ => ⟨_, rfl, Rw.new u Z3 TW, h.b.size⟩, h.ne, fun k => (h4 k).elim, fun k => (h5 k).elim, fun k => (h5 (h.r20 k).1).elim⟩
theorem Mk3.s19 (h : Mk3 W N m Z Z3 f5 f11 f17 f18 f19 f20 x5 x11 x17 x18 x19 x20 u) (h0 : f19 = false) (h8 : f18 = true) : Mk3 W N m Z Z3 f5 f11 f17 f18 true f20 x5 x11 x17 x18 (.pointer (some ⟨u.heap.size, 0, none⟩)) x20 (u.alloc (.cells [x5, x11, x17, .pointer none].toArray TD)) := by
  have hb : Below u.heap.size u (u.alloc (.cells [x5, x11, x17, .pointer none].toArray TD)) := (Below.refl _ u).alloc (Nat.le_refl _) _
  have h5 : f20 = true → False := fun k => by have := (h.r20 k).1; rw [h0] at this; cases this
  exact ⟨h.b.trans (hb.mono h.b.size), Rws.later h.r5 hb, Rws.later h.r11 hb, Rws.later h.r17 hb, h.ne, h.r18, fun _ => ⟨h8, _, rfl, Rw.new u _ TD, h.b.size⟩, fun k => (h5 k).elim⟩
end
def CopyRes (x : Dr) (w : World) (e : Ending) (w' : World) : Prop := ∃ g bv bd pv fv, e = .returned (.pointer (some ⟨g, 0, none⟩)) ∧ At w' g bv bd pv fv x ∧ Below w.heap.size w w' ∧ ∀ j, Bs g bv bd pv fv j → w.heap.size ≤ j
end Go.Proofs.YtnfjgmdpokpbbaaDoor.Dv
