/- Package subs: a subscription, its box, the small contracts. -/
import Derived.Test.YtjchecjonkmhgaaDoorAoRBound
namespace Go.Proofs.YtjchecjonkmhgaaDoor.Su
open Go.RowKit Pr Cw An
/-- A subscription. -/
structure Sb where
  id : Int
  cu : Int
  pl : Int
  c : Cy
  p : Int
  b : Int
  s : Int
  e : Int
abbrev U64 (x : Int) : Prop := 0 ≤ x ∧ x ≤ 18446744073709551615
abbrev I64 (x : Int) : Prop := -9223372036854775808 ≤ x ∧ x ≤ 9223372036854775807
structure Sb.Fits (s : Sb) : Prop where
  id : U64 s.id
  cu : U64 s.cu
  pl : U64 s.pl
  c : s.c.Fits
  p : I64 s.p
  b : I64 s.b
  e : I64 s.e
  s : I64 s.s
abbrev Sb.cells (s : Sb) : Array Value := #[.int .u64 s.id, .int .u64 s.cu, .int .u64 s.pl, .int .i64 s.c.s, .int .i64 s.c.a, .int .i64 s.c.e, .int .i64 s.p, .int .i64 s.b, .int .i64 s.s, .int .i64 s.e]
abbrev Sb.val (s : Sb) : Value := .agg s.cells
/-- A box of one. -/
structure Sx (g : Nat) (s : Sb) (w : World) : Prop where
  c0 : w.cell? ⟨g, 0, none⟩ = some (.int .u64 s.id)
  c1 : w.cell? ⟨g, 1, none⟩ = some (.int .u64 s.cu)
  c2 : w.cell? ⟨g, 2, none⟩ = some (.int .u64 s.pl)
  c3 : w.cell? ⟨g, 3, none⟩ = some (.int .i64 s.c.s)
  c4 : w.cell? ⟨g, 4, none⟩ = some (.int .i64 s.c.a)
  c5 : w.cell? ⟨g, 5, none⟩ = some (.int .i64 s.c.e)
  c6 : w.cell? ⟨g, 6, none⟩ = some (.int .i64 s.p)
  c7 : w.cell? ⟨g, 7, none⟩ = some (.int .i64 s.b)
  c8 : w.cell? ⟨g, 8, none⟩ = some (.int .i64 s.s)
  c9 : w.cell? ⟨g, 9, none⟩ = some (.int .i64 s.e)
  lt : g < w.heap.size
theorem Sx.later {g : Nat} {s : Sb} {w w' : World} (h : Sx g s w) (hb : Below w.heap.size w w') : Sx g s w' := by
  have k : ∀ o, w'.cell? ⟨g, o, none⟩ = w.cell? ⟨g, o, none⟩ := fun o => hb.cell (by simpa using h.lt)
  exact ⟨by rw [k]; exact h.c0, by rw [k]; exact h.c1, by rw [k]; exact h.c2, by rw [k]; exact h.c3, by rw [k]; exact h.c4, by rw [k]; exact h.c5, by rw [k]; exact h.c6, by rw [k]; exact h.c7, by rw [k]; exact h.c8, by rw [k]; exact h.c9, Nat.lt_of_lt_of_le h.lt hb.size⟩
theorem Sx.drew {g : Nat} {s : Sb} {w : World} (h : Sx g s w) : Sx g s w.drew := ⟨h.c0, h.c1, h.c2, h.c3, h.c4, h.c5, h.c6, h.c7, h.c8, h.c9, h.lt⟩
theorem Sx.alloc {g : Nat} {s : Sb} {w : World} (h : Sx g s w) (o : Obj) : Sx g s (w.alloc o) := h.later ((Below.refl _ w).alloc (Nat.le_refl _) o)
theorem Sx.box (s : Sb) (w : World) (t : TypeId) : Sx w.heap.size s (w.alloc (.cells s.cells t)) := by
  constructor <;> simp [go_sem]
def dayB (d : Int) : Bool := An.dayB d
theorem dayB_yes {d : Int} (h1 : 1 ≤ d) (h2 : d ≤ 3652059) : dayB d = true := by simp [dayB, An.dayB, h1, h2]
theorem dayB_no {d : Int} (h : d < 1 ∨ 3652059 < d) : dayB d = false := by
  have h' : ¬ (1 ≤ d ∧ d ≤ 3652059) := by omega
  simp only [dayB, An.dayB, Bool.and_eq_false_iff, decide_eq_false_iff_not]
  omega
theorem isDay_s (d : Int) (w : World) : Calls Tryd.prog 24 #[.int .i64 d] w fun e w' => e = .returned (.bool (dayB d)) ∧ w = w' := by
  rcases (show (1 ≤ d ∧ d ≤ 3652059) ∨ d < 1 ∨ (1 ≤ d ∧ 3652059 < d) by omega) with ⟨h1, h2⟩ | h1 | ⟨h1, h2⟩
  · have HE := Lib.hid (dayB_yes h1 h2)
    go_enter Tryd.func24, Tryd.ntmps24
    go_wp2_with fail
    go_ret
    exact ⟨ret_bool (by first | exact HE.out.symm | (rw [HE.out]; simp <;> omega)), rfl⟩
  · have HE := Lib.hid (dayB_no (d := d) (Or.inl h1))
    go_enter Tryd.func24, Tryd.ntmps24
    go_wp2_with fail
    go_ret
    exact ⟨ret_bool (by first | exact HE.out.symm | (rw [HE.out]; simp <;> omega)), rfl⟩
  · have HE := Lib.hid (dayB_no (d := d) (Or.inr h2))
    go_enter Tryd.func24, Tryd.ntmps24
    go_wp2_with fail
    go_ret
    exact ⟨ret_bool (by first | exact HE.out.symm | (rw [HE.out]; simp <;> omega)), rfl⟩
def prB (p : Int) : Bool := decide (0 ≤ p) && decide (p < 4611686018427387904)
theorem price_s (p : Int) (w : World) : Calls Tryd.prog 31 #[.int .i64 p] w fun e w' => e = .returned (.bool (prB p)) ∧ w = w' := by
  rcases (show (0 ≤ p ∧ p < 4611686018427387904) ∨ p < 0 ∨ (0 ≤ p ∧ 4611686018427387904 ≤ p) by omega) with ⟨h1, h2⟩ | h1 | ⟨h1, h2⟩
  · have HE := Lib.hid (show prB p = true by simp [prB, h1, h2])
    go_enter Tryd.func31, Tryd.ntmps31
    go_wp2_with fail
    go_ret
    exact ⟨ret_bool (by first | exact HE.out.symm | (rw [HE.out]; simp <;> omega)), rfl⟩
  · have HE := Lib.hid (show prB p = false by simp [prB]; omega)
    go_enter Tryd.func31, Tryd.ntmps31
    go_wp2_with fail
    go_ret
    exact ⟨ret_bool (by first | exact HE.out.symm | (rw [HE.out]; simp <;> omega)), rfl⟩
  · have HE := Lib.hid (show prB p = false by simp [prB]; omega)
    go_enter Tryd.func31, Tryd.ntmps31
    go_wp2_with fail
    go_ret
    exact ⟨ret_bool (by first | exact HE.out.symm | (rw [HE.out]; simp <;> omega)), rfl⟩
/-- A day is 0, or one from the beginning on. -/
def Wi (st d : Int) : Prop := d = 0 ∨ (1 ≤ d ∧ d ≤ 3652059 ∧ st ≤ d)
def wiB (st d : Int) : Bool := d == 0 || (dayB d && decide (st ≤ d))
theorem wiB_iff (st d : Int) : wiB st d = true ↔ Wi st d := by
  simp only [wiB, dayB, An.dayB, Wi, Bool.or_eq_true, Bool.and_eq_true, beq_iff_eq, decide_eq_true_eq]
  omega
theorem wiB_yes {st d : Int} (h : Wi st d) : wiB st d = true := (wiB_iff st d).2 h
theorem wiB_no {st d : Int} (h : ¬ Wi st d) : wiB st d = false := by
  cases hb : wiB st d with
  | true => exact absurd ((wiB_iff st d).1 hb) h
  | false => rfl
set_option maxHeartbeats 1600000 in
theorem within_s (s : Sb) (d : Int) (w : World) : Calls Tryd.prog 32 #[s.val, .int .i64 d] w fun e w' => e = .returned (.bool (wiB s.c.s d)) ∧ Below w.heap.size w w' := by
  rcases (show d = 0 ∨ (d ≠ 0 ∧ (d < 1 ∨ 3652059 < d)) ∨ (d ≠ 0 ∧ (1 ≤ d ∧ d ≤ 3652059) ∧ s.c.s ≤ d) ∨ (d ≠ 0 ∧ (1 ≤ d ∧ d ≤ 3652059) ∧ d < s.c.s) by omega) with rfl | ⟨h0, h1⟩ | ⟨h0, ⟨h1, h2⟩, h3⟩ | ⟨h0, ⟨h1, h2⟩, h3⟩
  · go_enter Tryd.func32, Tryd.ntmps32
    unfold Sb.val Sb.cells
    go_wp2_with fail
    go_ret
    exact ⟨ret_bool rfl, (Below.refl _ _).alloc (Nat.le_refl _) _⟩
  · have HE := Lib.hid (show wiB s.c.s d = false from wiB_no (by unfold Wi; omega))
    have KD := Lib.hid (show ∀ u, Calls Tryd.prog 24 #[.int .i64 d] u fun e w' => e = .returned (.bool false) ∧ u = w' from fun u => by have := isDay_s d u; rwa [dayB_no h1] at this)
    clear h1
    go_enter Tryd.func32, Tryd.ntmps32
    unfold Sb.val Sb.cells
    go_wp2_with (refine (KD.out _).mono ?_; rintro e w1 ⟨rfl, rfl⟩)
    go_ret
    exact ⟨ret_bool (by first | exact HE.out.symm | (rw [HE.out]; simp <;> omega)), (Below.refl _ _).alloc (Nat.le_refl _) _⟩
  · have HE := Lib.hid (show wiB s.c.s d = true from wiB_yes (Or.inr ⟨h1, h2, h3⟩))
    have KD := Lib.hid (show ∀ u, Calls Tryd.prog 24 #[.int .i64 d] u fun e w' => e = .returned (.bool true) ∧ u = w' from fun u => by have := isDay_s d u; rwa [dayB_yes h1 h2] at this)
    clear h1 h2
    go_enter Tryd.func32, Tryd.ntmps32
    unfold Sb.val Sb.cells
    go_wp2_with (refine (KD.out _).mono ?_; rintro e w1 ⟨rfl, rfl⟩)
    go_ret
    exact ⟨ret_bool (by first | exact HE.out.symm | (rw [HE.out]; simp <;> omega)), (Below.refl _ _).alloc (Nat.le_refl _) _⟩
  · have HE := Lib.hid (show wiB s.c.s d = false from wiB_no (by unfold Wi; omega))
    have KD := Lib.hid (show ∀ u, Calls Tryd.prog 24 #[.int .i64 d] u fun e w' => e = .returned (.bool true) ∧ u = w' from fun u => by have := isDay_s d u; rwa [dayB_yes h1 h2] at this)
    clear h1 h2
    go_enter Tryd.func32, Tryd.ntmps32
    unfold Sb.val Sb.cells
    go_wp2_with (refine (KD.out _).mono ?_; rintro e w1 ⟨rfl, rfl⟩)
    go_ret
    exact ⟨ret_bool (by first | exact HE.out.symm | (rw [HE.out]; simp <;> omega)), (Below.refl _ _).alloc (Nat.le_refl _) _⟩
end Go.Proofs.YtjchecjonkmhgaaDoor.Su
