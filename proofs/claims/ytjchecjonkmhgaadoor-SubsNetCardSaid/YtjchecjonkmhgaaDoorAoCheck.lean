/- Package anchor: Check; and what bounds are. -/
import Derived.Test.YtjchecjonkmhgaaDoorAoHead
namespace Go.Proofs.YtjchecjonkmhgaaDoor.An
open Go.RowKit Pr Cw
/-- A cycle. -/
structure Cy where
  s : Int
  a : Int
  e : Int
structure Cy.Fits (c : Cy) : Prop where
  s : -9223372036854775808 ≤ c.s ∧ c.s ≤ 9223372036854775807
  a : -9223372036854775808 ≤ c.a ∧ c.a ≤ 9223372036854775807
  e : -9223372036854775808 ≤ c.e ∧ c.e ≤ 9223372036854775807
structure Cy.Ok (c : Cy) : Prop where
  s0 : 1 ≤ c.s
  s1 : c.s ≤ 3652059
  a0 : 1 ≤ c.a
  a1 : c.a ≤ 31
  e0 : 1 ≤ c.e
  e1 : c.e ≤ 120
def Cy.okB (c : Cy) : Bool := dayB c.s && (decide (1 ≤ c.a) && (decide (c.a ≤ 31) && (decide (1 ≤ c.e) && decide (c.e ≤ 120))))
theorem okB_iff (c : Cy) : c.okB = true ↔ c.Ok := by
  unfold Cy.okB dayB
  simp only [Bool.and_eq_true, decide_eq_true_eq]
  constructor
  · rintro ⟨⟨h1, h2⟩, h3, h4, h5, h6⟩
    exact ⟨h1, h2, h3, h4, h5, h6⟩
  · rintro ⟨h1, h2, h3, h4, h5, h6⟩
    exact ⟨⟨h1, h2⟩, h3, h4, h5, h6⟩
abbrev Cy.val (c : Cy) : Value := .agg #[.int .i64 c.s, .int .i64 c.a, .int .i64 c.e]
/-- A box of a cycle. -/
structure Cb (g : Nat) (c : Cy) (w : World) : Prop where
  c0 : w.cell? ⟨g, 0, none⟩ = some (.int .i64 c.s)
  c1 : w.cell? ⟨g, 1, none⟩ = some (.int .i64 c.a)
  c2 : w.cell? ⟨g, 2, none⟩ = some (.int .i64 c.e)
  lt : g < w.heap.size
theorem Cb.later {g : Nat} {c : Cy} {w w' : World} (h : Cb g c w) (hb : Below w.heap.size w w') : Cb g c w' :=
  ⟨by rw [hb.cell (by simpa using h.lt)]; exact h.c0, by rw [hb.cell (by simpa using h.lt)]; exact h.c1, by rw [hb.cell (by simpa using h.lt)]; exact h.c2, Nat.lt_of_lt_of_le h.lt hb.size⟩
theorem Cb.drew {g : Nat} {c : Cy} {w : World} (h : Cb g c w) : Cb g c w.drew := ⟨h.c0, h.c1, h.c2, h.lt⟩
theorem Cb.alloc {g : Nat} {c : Cy} {w : World} (h : Cb g c w) (o : Obj) : Cb g c (w.alloc o) := h.later ((Below.refl _ w).alloc (Nat.le_refl _) o)
theorem Cb.box (c : Cy) (w : World) : Cb w.heap.size c (w.alloc (.cells #[.int .i64 c.s, .int .i64 c.a, .int .i64 c.e] 24)) := by
  constructor <;> simp [go_sem]
theorem Cb.pack {b g : Nat} {c : Cy} {w u : World} (h : Cb g c u) (hb : Below b w u) :
    u.cell? ⟨g, 0, none⟩ = some (.int .i64 c.s) ∧ u.cell? ⟨g, 1, none⟩ = some (.int .i64 c.a) ∧ u.cell? ⟨g, 2, none⟩ = some (.int .i64 c.e) ∧ Cb g c u ∧ Below b w u := ⟨h.c0, h.c1, h.c2, h, hb⟩
theorem below_alloc {w w' : World} (h : Below w.heap.size w w') (o : Obj) : Below w.heap.size w (w'.alloc o) := h.alloc h.size o
set_option maxRecDepth 100000 in
set_option maxHeartbeats 1600000 in
theorem check_k (c : Cy) (w : World) (ok : Bool) (z : Int) (hok : c.okB = ok) (hz : z = if ok then 0 else 2) :
    Calls Tryd.prog 54 #[c.val] w fun e w' => e = .returned (.int .i64 z) ∧ Below w.heap.size w w' := by
  have HZ := Lib.hid hz
  have HK := Lib.hid hok
  clear hz hok
  have I0 := Lib.hid (Cb.box c w)
  have B0 := Lib.hid ((Below.refl _ w).alloc (Nat.le_refl _) (.cells #[.int .i64 c.s, .int .i64 c.a, .int .i64 c.e] 24))
  go_enter Tryd.func54, Tryd.ntmps54
  unfold Cy.val
  go_wp2_with fail
  go_region_held3 (fun u => u.cell? ⟨w.heap.size, 0, none⟩ = some (.int .i64 c.s) ∧ u.cell? ⟨w.heap.size, 1, none⟩ = some (.int .i64 c.a) ∧ u.cell? ⟨w.heap.size, 2, none⟩ = some (.int .i64 c.e) ∧ Cb w.heap.size c u ∧ Below w.heap.size w u)
    (first | exact Cb.pack I0.out B0.out | exact Cb.pack I0.out.drew B0.out.drew | exact Cb.pack J1 D1 | exact Cb.pack (Cb.alloc (by assumption) _) (below_alloc (by assumption) _))
    (first | (go_at_call 68; (try go_split_ands); refine (isDay_c _ _).mono ?_; rintro e u1 ⟨rfl, b1⟩; have J1 := Cb.later (by assumption) b1; have D1 := then_below (by assumption) b1) | (go_at_call 67; (try go_split_ands); refine (all5 _ _ _ _ _ _).mono ?_; rintro e u2 ⟨rfl, b2⟩; have J1 := Cb.later (by assumption) b2; have D1 := then_below (by assumption) b2))
  rw [show (dayB c.s && (decide (1 ≤ c.a) && (decide (c.a ≤ 31) && (decide (1 ≤ c.e) && decide (c.e ≤ 120))))) = c.okB from rfl, show (!dayB c.s || (!decide (1 ≤ c.a) || (!decide (c.a ≤ 31) || (!decide (1 ≤ c.e) || !decide (c.e ≤ 120))))) = !c.okB by unfold Cy.okB; simp only [Bool.not_and], HK.out]
  clear HK
  cases ok <;> (have hz := HZ.out; clear HZ; simp at hz; go_wp2_with fail; go_ret; exact ⟨ret_int hz.symm, D1⟩)
theorem check_yes (c : Cy) (w : World) (h : c.Ok) : Calls Tryd.prog 54 #[c.val] w fun e w' => e = .returned (.int .i64 0) ∧ Below w.heap.size w w' := check_k c w true 0 ((okB_iff c).2 h) rfl
theorem check_no (c : Cy) (w : World) (h : ¬ c.Ok) : Calls Tryd.prog 54 #[c.val] w fun e w' => e = .returned (.int .i64 2) ∧ Below w.heap.size w w' :=
  check_k c w false 2 (by cases hb : c.okB with | true => exact absurd ((okB_iff c).1 hb) h | false => rfl) rfl
/-- The month of the first bound behind the start: m the start's month. -/
def fst (c : Cy) (m : Int) : Int := if atv m c.a ≤ c.s then m + c.e else m
/-- Which bounds there are, and what they are. -/
def Has (c : Cy) (m : Int) (j : Nat) : Prop := j = 0 ∨ fst c m + ((j : Int) - 1) * c.e ≤ 119988
def bnd (c : Cy) (m : Int) (j : Nat) : Int := if j = 0 then c.s else atv (fst c m + ((j : Int) - 1) * c.e) c.a
theorem B_mono {k j : Int} (h : k + 1 ≤ j) : E k ≤ B j := by
  obtain ⟨d, rfl⟩ : ∃ d : Nat, j = k + 1 + d := ⟨(j - (k + 1)).toNat, by omega⟩
  clear h
  induction d with
  | zero => rw [← B_succ k]; simp
  | succ d ih =>
    have h1 := BE (k + 1 + (d : Int))
    have h2 := B_succ (k + 1 + (d : Int))
    rw [show k + 1 + ((d + 1 : Nat) : Int) = k + 1 + (d : Int) + 1 by omega]
    omega
theorem fst_bd {c : Cy} {m : Int} (h : c.Ok) : m ≤ fst c m ∧ fst c m ≤ m + c.e := by
  have := h.e0; unfold fst; split <;> omega
theorem fst_gt {c : Cy} {m : Int} (h : c.Ok) (hin : In m c.s) : c.s < atv (fst c m) c.a := by
  unfold fst
  split
  · have h1 := (atv_bd (m + c.e) c.a h.a0).1
    have h2 := hin.b
    have h3 : E m ≤ B (m + c.e) := B_mono (by have := h.e0; omega)
    omega
  · omega
theorem bnd_0 (c : Cy) (m : Int) : bnd c m 0 = c.s := rfl
theorem bnd_s (c : Cy) (m : Int) (j : Nat) : bnd c m (j + 1) = atv (fst c m + (j : Int) * c.e) c.a := by
  unfold bnd
  rw [if_neg (Nat.succ_ne_zero j), show ((j + 1 : Nat) : Int) - 1 = (j : Int) by omega]
theorem has_s (c : Cy) (m : Int) (j : Nat) : Has c m (j + 1) ↔ fst c m + (j : Int) * c.e ≤ 119988 := by
  unfold Has
  rw [show ((j + 1 : Nat) : Int) - 1 = (j : Int) by omega]
  constructor
  · rintro (h | h)
    · omega
    · exact h
  · exact Or.inr
theorem Has.succ {c : Cy} {m : Int} {j : Nat} (h : c.Ok) (hh : Has c m (j + 1)) : Has c m j := by
  rcases j with _|j
  · exact Or.inl rfl
  · rw [has_s] at hh ⊢
    have := h.e0
    rw [show ((j + 1 : Nat) : Int) = (j : Int) + 1 by omega, Int.add_mul, Int.one_mul] at hh
    omega
theorem Has.le {c : Cy} {m : Int} {i j : Nat} (h : c.Ok) (hij : i ≤ j) (hh : Has c m j) : Has c m i := by
  obtain ⟨d, rfl⟩ := Nat.exists_eq_add_of_le hij
  clear hij
  induction d with
  | zero => exact hh
  | succ d ih => exact ih (Has.succ h hh)
theorem bnd_lt {c : Cy} {m : Int} {j : Nat} (h : c.Ok) (hin : In m c.s) : bnd c m j < bnd c m (j + 1) := by
  rw [bnd_s]
  rcases j with _|j
  · rw [bnd_0]
    have := fst_gt h hin
    simpa using this
  · rw [bnd_s]
    have e1 : ((j + 1 : Nat) : Int) * c.e = (j : Int) * c.e + c.e := by rw [show ((j + 1 : Nat) : Int) = (j : Int) + 1 by omega, Int.add_mul, Int.one_mul]
    rw [e1]
    have h1 := (atv_bd (fst c m + (j : Int) * c.e) c.a h.a0).2
    have h2 := (atv_bd (fst c m + ((j : Int) * c.e + c.e)) c.a h.a0).1
    have h3 : E (fst c m + (j : Int) * c.e) ≤ B (fst c m + ((j : Int) * c.e + c.e)) := B_mono (by have := h.e0; omega)
    omega
theorem bnd_le {c : Cy} {m : Int} {i j : Nat} (h : c.Ok) (hin : In m c.s) (hij : i ≤ j) : bnd c m i ≤ bnd c m j := by
  obtain ⟨d, rfl⟩ := Nat.exists_eq_add_of_le hij
  clear hij
  induction d with
  | zero => exact Int.le_refl _
  | succ d ih => exact Int.le_trans ih (Int.le_of_lt (bnd_lt h hin))
end Go.Proofs.YtjchecjonkmhgaaDoor.An
