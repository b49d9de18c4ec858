/- Package journal: the order of owners. -/
import Derived.Test.YtnblilonjpfdnaaJnMap
import Derived.Deep.DeepCutAuto
import Derived.Shelf.SlSortCmp.WholeK
namespace Go.Proofs.Ytnblilonjpfdnaa.Jn
open Go Go.RowKit Ck Go.Sort
def cmpI (x y : Int) : Int := if x < y then -1 else if y < x then 1 else 0
def firstI (p q r : Int) : Int := if p ≠ 0 then p else if q ≠ 0 then q else r
def cmpK (a b : Key) : Int := firstI (cmpI a.1 b.1) (cmpI a.2.1 b.2.1) (cmpI a.2.2 b.2.2)
theorem cmpK_lt (a b : Key) : decide (cmpK a b < 0) = decide (klt a b) := by
  obtain ⟨a1, a2, a3⟩ := a
  obtain ⟨b1, b2, b3⟩ := b
  have h : cmpK (a1, a2, a3) (b1, b2, b3) < 0 ↔ klt (a1, a2, a3) (b1, b2, b3) := by
    unfold cmpK firstI cmpI klt
    simp only
    repeat' split
    all_goals omega
  by_cases h1 : klt (a1, a2, a3) (b1, b2, b3)
  · rw [decide_eq_true h1, decide_eq_true (h.2 h1)]
  · rw [decide_eq_false h1, decide_eq_false (fun h2 => h1 (h.1 h2))]
theorem swoK : SWO (ltOf cmpK) where
  irrefl x := by unfold ltOf; rw [cmpK_lt]; exact decide_eq_false (klt_irrefl x)
  trans x y z h1 h2 := by
    unfold ltOf at *
    rw [cmpK_lt] at *
    exact decide_eq_true (klt_trans (of_decide_eq_true h1) (of_decide_eq_true h2))
  ntrans x y z h1 h2 := by
    unfold ltOf at *
    rw [cmpK_lt] at *
    refine decide_eq_false fun h => ?_
    have h1 := of_decide_eq_false h1
    have h2 := of_decide_eq_false h2
    by_cases e : x = y
    · subst e; exact h2 h
    · by_cases e' : y = z
      · subst e'; exact h1 h
      · exact klt_irrefl _ (klt_trans (klt_trans ((klt_total e).resolve_left h1) h) ((klt_total e').resolve_left h2))
set_option maxRecDepth 100000
theorem nan_i (x : Int) (w : World) : Calls Try.prog 84 #[.int .i64 x] w fun e w' => e = .returned (.bool false) ∧ w = w' := by
  go_enter Try.func84, Try.ntmps84
  go_wp2_with fail
  go_ret
  exact ⟨rfl, rfl⟩
theorem cmp_i (x y : Int) (w : World) : Calls Try.prog 57 #[.int .i64 x, .int .i64 y] w fun e w' => e = .returned (.int .i64 (cmpI x y)) ∧ w = w' := by
  obtain ⟨r, hr⟩ : ∃ r, r = cmpI x y := ⟨_, rfl⟩
  rw [← hr]
  unfold cmpI at hr
  have KN : Hid (∀ x u, Calls Try.prog 84 #[.int .i64 x] u fun e w' => e = .returned (.bool false) ∧ u = w') := nan_i
  by_cases h1 : x < y
  · rw [if_pos h1] at hr
    obtain rfl : r = -1 := hr
    go_enter Try.func57, Try.ntmps57
    go_wp2_with fail
    refine (KN.out _ _).mono ?_
    rintro _ _ ⟨rfl, rfl⟩
    go_wp2_with fail
    refine (KN.out _ _).mono ?_
    rintro _ _ ⟨rfl, rfl⟩
    go_wp2_with fail
    go_ret
    exact ⟨rfl, rfl⟩
  · rw [if_neg h1] at hr
    by_cases h2 : y < x
    · rw [if_pos h2] at hr
      obtain rfl : r = 1 := hr
      go_enter Try.func57, Try.ntmps57
      go_wp2_with fail
      refine (KN.out _ _).mono ?_
      rintro _ _ ⟨rfl, rfl⟩
      go_wp2_with fail
      refine (KN.out _ _).mono ?_
      rintro _ _ ⟨rfl, rfl⟩
      go_wp2_with fail
      go_ret
      exact ⟨rfl, rfl⟩
    · rw [if_neg h2] at hr
      obtain rfl : r = 0 := hr
      go_enter Try.func57, Try.ntmps57
      go_wp2_with fail
      refine (KN.out _ _).mono ?_
      rintro _ _ ⟨rfl, rfl⟩
      go_wp2_with fail
      refine (KN.out _ _).mono ?_
      rintro _ _ ⟨rfl, rfl⟩
      go_wp2_with fail
      go_ret
      exact ⟨rfl, rfl⟩
theorem nan_u (x : Int) (w : World) : Calls Try.prog 85 #[.int .u64 x] w fun e w' => e = .returned (.bool false) ∧ w = w' := by
  go_enter Try.func85, Try.ntmps85
  go_wp2_with fail
  go_ret
  exact ⟨rfl, rfl⟩
theorem cmp_u (x y : Int) (w : World) : Calls Try.prog 58 #[.int .u64 x, .int .u64 y] w fun e w' => e = .returned (.int .i64 (cmpI x y)) ∧ w = w' := by
  obtain ⟨r, hr⟩ : ∃ r, r = cmpI x y := ⟨_, rfl⟩
  rw [← hr]
  unfold cmpI at hr
  have KN : Hid (∀ x u, Calls Try.prog 85 #[.int .u64 x] u fun e w' => e = .returned (.bool false) ∧ u = w') := nan_u
  by_cases h1 : x < y
  · rw [if_pos h1] at hr
    obtain rfl : r = -1 := hr
    go_enter Try.func58, Try.ntmps58
    go_wp2_with fail
    refine (KN.out _ _).mono ?_
    rintro _ _ ⟨rfl, rfl⟩
    go_wp2_with fail
    refine (KN.out _ _).mono ?_
    rintro _ _ ⟨rfl, rfl⟩
    go_wp2_with fail
    go_ret
    exact ⟨rfl, rfl⟩
  · rw [if_neg h1] at hr
    by_cases h2 : y < x
    · rw [if_pos h2] at hr
      obtain rfl : r = 1 := hr
      go_enter Try.func58, Try.ntmps58
      go_wp2_with fail
      refine (KN.out _ _).mono ?_
      rintro _ _ ⟨rfl, rfl⟩
      go_wp2_with fail
      refine (KN.out _ _).mono ?_
      rintro _ _ ⟨rfl, rfl⟩
      go_wp2_with fail
      go_ret
      exact ⟨rfl, rfl⟩
    · rw [if_neg h2] at hr
      obtain rfl : r = 0 := hr
      go_enter Try.func58, Try.ntmps58
      go_wp2_with fail
      refine (KN.out _ _).mono ?_
      rintro _ _ ⟨rfl, rfl⟩
      go_wp2_with fail
      refine (KN.out _ _).mono ?_
      rintro _ _ ⟨rfl, rfl⟩
      go_wp2_with fail
      go_ret
      exact ⟨rfl, rfl⟩
set_option maxHeartbeats 1600000
theorem ahead_c (b : Nat) (p q r : Int) (w : World) (h0 : w.cell? ⟨b, 0, none⟩ = some (.int .i64 p)) (h1 : w.cell? ⟨b, 1, none⟩ = some (.int .i64 q)) (h2 : w.cell? ⟨b, 2, none⟩ = some (.int .i64 r)) : Calls Try.prog 56 #[.slice (some ⟨b, 0, none⟩) 3 3] w fun e w' => e = .returned (.int .i64 (firstI p q r)) ∧ w = w' := by
  obtain ⟨R, hR⟩ : ∃ R, R = firstI p q r := ⟨_, rfl⟩
  rw [← hR]
  have HR := Lib.hid hR
  have H0 := Lib.hid h0
  have H1 := Lib.hid h1
  have H2 := Lib.hid h2
  clear hR h0 h1 h2
  go_enter Try.func56, Try.ntmps56
  go_upto_region 2 with (fail)
  go_loopg [7] 3 (fun kx s7 wr => ∃ i : Nat, s7 = .int .i64 (i : Int) ∧ i ≤ 3 ∧ Hid (1 ≤ i → p = 0) ∧ Hid (2 ≤ i → q = 0) ∧ Hid (3 ≤ i → r = 0) ∧ Hid (w = wr) ∧ 3 ≤ i + kx)
  case atStart => exact ⟨0, rfl, by omega, fun h => by omega, fun h => by omega, fun h => by omega, rfl, by omega⟩
  case round =>
    obtain ⟨i, rfl, hi, A0, A1, A2, HW, hkx⟩ := hrel
    obtain rfl := HW.out
    have hcase : i = 0 ∨ i = 1 ∨ i = 2 ∨ i = 3 := by omega
    rcases hcase with rfl | rfl | rfl | rfl
    · have c0 := H0.out
      have HKX := Lib.hid hkx
      clear hkx hi
      by_cases e : p = 0
      · have E := Lib.hid e
        have n0 : (p == 0) = true := beq_iff_eq.2 e
        clear e
        go_wp2_with fail
        have hkx := HKX.out
        go_roundg (2)
        case measure => omega
        case rel => exact ⟨1, rfl, by omega, fun _ => E.out, fun h => by omega, fun h => by omega, rfl, by omega⟩
      · have HRR : Hid (R = p) := by
          show _ = _
          rw [HR.out]
          unfold firstI
          rw [if_pos e]
        have n0 : (p == 0) = false := beq_eq_false_iff_ne.2 e
        have n1 : (p != 0) = true := by simpa using e
        clear e
        go_wp2_with fail
        go_ret
        exact ⟨ret_int (z := p) HRR.out, rfl⟩
    · have c0 := H1.out
      have HKX := Lib.hid hkx
      clear hkx hi
      by_cases e : q = 0
      · have E := Lib.hid e
        have n0 : (q == 0) = true := beq_iff_eq.2 e
        clear e
        go_wp2_with fail
        have hkx := HKX.out
        go_roundg (1)
        case measure => omega
        case rel => exact ⟨2, rfl, by omega, fun h => A0.out (by omega), fun _ => E.out, fun h => by omega, rfl, by omega⟩
      · have HRR : Hid (R = q) := by
          show _ = _
          rw [HR.out]
          unfold firstI
          rw [if_neg (by have := A0.out (by omega); simp [this])]; rw [if_pos e]
        have n0 : (q == 0) = false := beq_eq_false_iff_ne.2 e
        have n1 : (q != 0) = true := by simpa using e
        clear e
        go_wp2_with fail
        go_ret
        exact ⟨ret_int (z := q) HRR.out, rfl⟩
    · have c0 := H2.out
      have HKX := Lib.hid hkx
      clear hkx hi
      by_cases e : r = 0
      · have E := Lib.hid e
        have n0 : (r == 0) = true := beq_iff_eq.2 e
        clear e
        go_wp2_with fail
        have hkx := HKX.out
        go_roundg (0)
        case measure => omega
        case rel => exact ⟨3, rfl, by omega, fun h => A0.out (by omega), fun h => A1.out (by omega), fun _ => E.out, rfl, by omega⟩
      · have HRR : Hid (R = r) := by
          show _ = _
          rw [HR.out]
          unfold firstI
          rw [if_neg (by have := A0.out (by omega); simp [this])]; rw [if_neg (by have := A1.out (by omega); simp [this])]
        have n0 : (r == 0) = false := beq_eq_false_iff_ne.2 e
        have n1 : (r != 0) = true := by simpa using e
        clear e
        go_wp2_with fail
        go_ret
        exact ⟨ret_int (z := r) HRR.out, rfl⟩
    · have HRR : Hid (R = 0) := by
        show _ = _
        rw [HR.out]
        unfold firstI
        rw [if_neg (by have := A0.out (by omega); simp [this]), if_neg (by have := A1.out (by omega); simp [this])]
        exact A2.out (by omega)
      clear hkx hi
      go_wp2_with fail
      go_ret
      exact ⟨ret_int (z := 0) HRR.out, rfl⟩
theorem less_c (x y : Key) (W : World) : Calls Try.prog 55 #[kv x, kv y] W fun e w' => e = .returned (.int .i64 (cmpK x y)) ∧ ∃ q os', w' = grow (W.drewN q) os' := by
  obtain ⟨xa, xb, xc⟩ := x
  obtain ⟨ya, yb, yc⟩ := y
  unfold kv cmpK
  simp only
  have KI : Hid (∀ x y u, Calls Try.prog 57 #[.int .i64 x, .int .i64 y] u fun e w' => e = .returned (.int .i64 (cmpI x y)) ∧ u = w') := cmp_i
  have KU : Hid (∀ x y u, Calls Try.prog 58 #[.int .u64 x, .int .u64 y] u fun e w' => e = .returned (.int .i64 (cmpI x y)) ∧ u = w') := cmp_u
  have HP : Hid (∀ p, p = cmpI xa ya → ∀ u, Calls Try.prog 57 #[.int .i64 xa, .int .i64 ya] u fun e w' => e = .returned (.int .i64 p) ∧ u = w') := fun p hp u => by rw [hp]; exact KI.out _ _ _
  have HQ : Hid (∀ p, p = cmpI xb yb → ∀ u, Calls Try.prog 58 #[.int .u64 xb, .int .u64 yb] u fun e w' => e = .returned (.int .i64 p) ∧ u = w') := fun p hp u => by rw [hp]; exact KU.out _ _ _
  have HS : Hid (∀ p, p = cmpI xc yc → ∀ u, Calls Try.prog 58 #[.int .u64 xc, .int .u64 yc] u fun e w' => e = .returned (.int .i64 p) ∧ u = w') := fun p hp u => by rw [hp]; exact KU.out _ _ _
  generalize cmpI xa ya = p at HP ⊢
  generalize cmpI xb yb = q at HQ ⊢
  generalize cmpI xc yc = r at HS ⊢
  have K1 := Lib.hid (HP.out p rfl)
  have K2 := Lib.hid (HQ.out q rfl)
  have K3 := Lib.hid (HS.out r rfl)
  clear HP HQ HS KI KU
  have KA : Hid (∀ b u, u.cell? ⟨b, 0, none⟩ = some (.int .i64 p) → u.cell? ⟨b, 1, none⟩ = some (.int .i64 q) → u.cell? ⟨b, 2, none⟩ = some (.int .i64 r) → Calls Try.prog 56 #[.slice (some ⟨b, 0, none⟩) 3 3] u fun e w' => e = .returned (.int .i64 (firstI p q r)) ∧ u = w') := fun b u h0 h1 h2 => ahead_c b p q r u h0 h1 h2
  generalize firstI p q r = R at KA ⊢
  go_enter Try.func55, Try.ntmps55
  go_upto_region 1 with (fail)
  have RX : Hid (Rw ((W.alloc (.cells #[.int .i64 xa, .int .u64 xb, .int .u64 xc] TOw)).alloc (.cells #[.int .i64 ya, .int .u64 yb, .int .u64 yc] TOw)) W.heap.size TOw [.int .i64 xa, .int .u64 xb, .int .u64 xc]) := (Rw.new W [.int .i64 xa, .int .u64 xb, .int .u64 xc] TOw).later ((Below.refl _ _).alloc (Nat.le_refl _) _)
  have RY : Hid (Rw ((W.alloc (.cells #[.int .i64 xa, .int .u64 xb, .int .u64 xc] TOw)).alloc (.cells #[.int .i64 ya, .int .u64 yb, .int .u64 yc] TOw)) (W.heap.size + 1) TOw [.int .i64 ya, .int .u64 yb, .int .u64 yc]) := by
    have := Rw.new (W.alloc (.cells #[.int .i64 xa, .int .u64 xb, .int .u64 xc] TOw)) [.int .i64 ya, .int .u64 yb, .int .u64 yc] TOw
    rwa [show (W.alloc (.cells #[.int .i64 xa, .int .u64 xb, .int .u64 xc] TOw)).heap.size = W.heap.size + 1 by simp] at this
  have HG : Hid (∃ os, ((W.alloc (.cells #[.int .i64 xa, .int .u64 xb, .int .u64 xc] TOw)).alloc (.cells #[.int .i64 ya, .int .u64 yb, .int .u64 yc] TOw)) = grow W os) := ⟨_, by rw [alloc_eq_grow, alloc_eq_grow, grow_grow]⟩
  generalize ((W.alloc (.cells #[.int .i64 xa, .int .u64 xb, .int .u64 xc] TOw)).alloc (.cells #[.int .i64 ya, .int .u64 yb, .int .u64 yc] TOw)) = U at RX RY HG ⊢
  generalize W.heap.size = bx at RX RY ⊢
  refine wp_region_held_drew (S := (fun u => u.cell? ⟨bx, 0, none⟩ = some (.int .i64 xa) ∧ u.cell? ⟨bx, 1, none⟩ = some (.int .u64 xb) ∧ u.cell? ⟨bx, 2, none⟩ = some (.int .u64 xc) ∧ u.cell? ⟨bx + 1, 0, none⟩ = some (.int .i64 ya) ∧ u.cell? ⟨bx + 1, 1, none⟩ = some (.int .u64 yb) ∧ u.cell? ⟨bx + 1, 2, none⟩ = some (.int .u64 yc))) (by kernel_rfl) ?_ (fun hHeld => ?_)
  · exact ⟨RX.out.cell 0, RX.out.cell 1, RX.out.cell 2, RY.out.cell 0, RY.out.cell 1, RY.out.cell 2⟩
  refine wpAnyH_take (i := 0) (oi := { dst := some 5, op := Op.fieldAddr 103 (Operand.tmp 2) 0, type := 0, pos := "journal.go:96", after := #[], guard := none }) (v := (.pointer (some ⟨bx, 0, none⟩))) rfl (by kernel_rfl) (by kernel_rfl) (by kernel_rfl) (fun _ _ _ h => h) (Or.inl ⟨by rfl, ?_⟩) hHeld ?_
  · rintro u ⟨p0, p1, p2, p3, p4, p5⟩
    go_simp <;> first | rfl | kernel_rfl
  try simp only [Act.put, List.setIfInBounds_toArray, List.set_cons_zero, List.set_cons_succ]
  refine wpAnyH_take (i := 1) (oi := { dst := some 6, op := Op.load 3 (Operand.tmp 5), type := 3, pos := "journal.go:96", after := #[{ on := 0, ground := Ground.data }], guard := none }) (v := (.int .i64 xa)) rfl (by kernel_rfl) (by kernel_rfl) (by kernel_rfl) (fun _ _ _ h => h) (Or.inl ⟨by rfl, ?_⟩) hHeld ?_
  · rintro u ⟨p0, p1, p2, p3, p4, p5⟩
    go_simp <;> first | rfl | kernel_rfl
  try simp only [Act.put, List.setIfInBounds_toArray, List.set_cons_zero, List.set_cons_succ]
  refine wpAnyH_take (i := 2) (oi := { dst := some 7, op := Op.fieldAddr 103 (Operand.tmp 3) 0, type := 0, pos := "journal.go:96", after := #[], guard := none }) (v := (.pointer (some ⟨bx + 1, 0, none⟩))) rfl (by kernel_rfl) (by kernel_rfl) (by kernel_rfl) (fun _ _ _ h => h) (Or.inl ⟨by rfl, ?_⟩) hHeld ?_
  · rintro u ⟨p0, p1, p2, p3, p4, p5⟩
    go_simp <;> first | rfl | kernel_rfl
  try simp only [Act.put, List.setIfInBounds_toArray, List.set_cons_zero, List.set_cons_succ]
  refine wpAnyH_take (i := 3) (oi := { dst := some 8, op := Op.load 3 (Operand.tmp 7), type := 3, pos := "journal.go:96", after := #[{ on := 2, ground := Ground.data }], guard := none }) (v := (.int .i64 ya)) rfl (by kernel_rfl) (by kernel_rfl) (by kernel_rfl) (fun _ _ _ h => h) (Or.inl ⟨by rfl, ?_⟩) hHeld ?_
  · rintro u ⟨p0, p1, p2, p3, p4, p5⟩
    go_simp <;> first | rfl | kernel_rfl
  try simp only [Act.put, List.setIfInBounds_toArray, List.set_cons_zero, List.set_cons_succ]
  refine wpAnyH_take (i := 5) (oi := { dst := some 10, op := Op.fieldAddr 103 (Operand.tmp 2) 1, type := 0, pos := "journal.go:96", after := #[], guard := none }) (v := (.pointer (some ⟨bx, 1, none⟩))) rfl (by kernel_rfl) (by kernel_rfl) (by kernel_rfl) (fun _ _ _ h => h) (Or.inl ⟨by rfl, ?_⟩) hHeld ?_
  · rintro u ⟨p0, p1, p2, p3, p4, p5⟩
    go_simp <;> first | rfl | kernel_rfl
  try simp only [Act.put, List.setIfInBounds_toArray, List.set_cons_zero, List.set_cons_succ]
  refine wpAnyH_take (i := 6) (oi := { dst := some 11, op := Op.load 22 (Operand.tmp 10), type := 22, pos := "journal.go:96", after := #[{ on := 5, ground := Ground.data }], guard := none }) (v := (.int .u64 xb)) rfl (by kernel_rfl) (by kernel_rfl) (by kernel_rfl) (fun _ _ _ h => h) (Or.inl ⟨by rfl, ?_⟩) hHeld ?_
  · rintro u ⟨p0, p1, p2, p3, p4, p5⟩
    go_simp <;> first | rfl | kernel_rfl
  try simp only [Act.put, List.setIfInBounds_toArray, List.set_cons_zero, List.set_cons_succ]
  refine wpAnyH_take (i := 7) (oi := { dst := some 12, op := Op.fieldAddr 103 (Operand.tmp 3) 1, type := 0, pos := "journal.go:96", after := #[], guard := none }) (v := (.pointer (some ⟨bx + 1, 1, none⟩))) rfl (by kernel_rfl) (by kernel_rfl) (by kernel_rfl) (fun _ _ _ h => h) (Or.inl ⟨by rfl, ?_⟩) hHeld ?_
  · rintro u ⟨p0, p1, p2, p3, p4, p5⟩
    go_simp <;> first | rfl | kernel_rfl
  try simp only [Act.put, List.setIfInBounds_toArray, List.set_cons_zero, List.set_cons_succ]
  refine wpAnyH_take (i := 8) (oi := { dst := some 13, op := Op.load 22 (Operand.tmp 12), type := 22, pos := "journal.go:96", after := #[{ on := 7, ground := Ground.data }], guard := none }) (v := (.int .u64 yb)) rfl (by kernel_rfl) (by kernel_rfl) (by kernel_rfl) (fun _ _ _ h => h) (Or.inl ⟨by rfl, ?_⟩) hHeld ?_
  · rintro u ⟨p0, p1, p2, p3, p4, p5⟩
    go_simp <;> first | rfl | kernel_rfl
  try simp only [Act.put, List.setIfInBounds_toArray, List.set_cons_zero, List.set_cons_succ]
  refine wpAnyH_take (i := 10) (oi := { dst := some 15, op := Op.fieldAddr 103 (Operand.tmp 2) 2, type := 0, pos := "journal.go:96", after := #[], guard := none }) (v := (.pointer (some ⟨bx, 2, none⟩))) rfl (by kernel_rfl) (by kernel_rfl) (by kernel_rfl) (fun _ _ _ h => h) (Or.inl ⟨by rfl, ?_⟩) hHeld ?_
  · rintro u ⟨p0, p1, p2, p3, p4, p5⟩
    go_simp <;> first | rfl | kernel_rfl
  try simp only [Act.put, List.setIfInBounds_toArray, List.set_cons_zero, List.set_cons_succ]
  refine wpAnyH_take (i := 11) (oi := { dst := some 16, op := Op.load 22 (Operand.tmp 15), type := 22, pos := "journal.go:96", after := #[{ on := 10, ground := Ground.data }], guard := none }) (v := (.int .u64 xc)) rfl (by kernel_rfl) (by kernel_rfl) (by kernel_rfl) (fun _ _ _ h => h) (Or.inl ⟨by rfl, ?_⟩) hHeld ?_
  · rintro u ⟨p0, p1, p2, p3, p4, p5⟩
    go_simp <;> first | rfl | kernel_rfl
  try simp only [Act.put, List.setIfInBounds_toArray, List.set_cons_zero, List.set_cons_succ]
  refine wpAnyH_take (i := 12) (oi := { dst := some 17, op := Op.fieldAddr 103 (Operand.tmp 3) 2, type := 0, pos := "journal.go:96", after := #[], guard := none }) (v := (.pointer (some ⟨bx + 1, 2, none⟩))) rfl (by kernel_rfl) (by kernel_rfl) (by kernel_rfl) (fun _ _ _ h => h) (Or.inl ⟨by rfl, ?_⟩) hHeld ?_
  · rintro u ⟨p0, p1, p2, p3, p4, p5⟩
    go_simp <;> first | rfl | kernel_rfl
  try simp only [Act.put, List.setIfInBounds_toArray, List.set_cons_zero, List.set_cons_succ]
  refine wpAnyH_take (i := 13) (oi := { dst := some 18, op := Op.load 22 (Operand.tmp 17), type := 22, pos := "journal.go:96", after := #[{ on := 12, ground := Ground.data }], guard := none }) (v := (.int .u64 yc)) rfl (by kernel_rfl) (by kernel_rfl) (by kernel_rfl) (fun _ _ _ h => h) (Or.inl ⟨by rfl, ?_⟩) hHeld ?_
  · rintro u ⟨p0, p1, p2, p3, p4, p5⟩
    go_simp <;> first | rfl | kernel_rfl
  try simp only [Act.put, List.setIfInBounds_toArray, List.set_cons_zero, List.set_cons_succ]
  generalize hU : U.drew = U2 at hHeld ⊢
  have HU := Lib.hid hU
  clear hU RX RY
  have HEND : Hid (∀ u, (∃ os, u = grow U2 os) → ∃ q os, u = grow (W.drewN q) os) := by
    rintro u ⟨os, rfl⟩
    obtain ⟨os0, h0⟩ := HG.out
    refine ⟨1, os0 ++ os, ?_⟩
    rw [← HU.out, h0, ← grow_grow]
    rfl
  have HELD : Hid (∀ o, (U2.cell? ⟨bx, 0, none⟩ = some (.int .i64 xa) ∧ U2.cell? ⟨bx, 1, none⟩ = some (.int .u64 xb) ∧ U2.cell? ⟨bx, 2, none⟩ = some (.int .u64 xc) ∧ U2.cell? ⟨bx + 1, 0, none⟩ = some (.int .i64 ya) ∧ U2.cell? ⟨bx + 1, 1, none⟩ = some (.int .u64 yb) ∧ U2.cell? ⟨bx + 1, 2, none⟩ = some (.int .u64 yc)) → (U2.alloc o).cell? ⟨bx, 0, none⟩ = some (.int .i64 xa) ∧ (U2.alloc o).cell? ⟨bx, 1, none⟩ = some (.int .u64 xb) ∧ (U2.alloc o).cell? ⟨bx, 2, none⟩ = some (.int .u64 xc) ∧ (U2.alloc o).cell? ⟨bx + 1, 0, none⟩ = some (.int .i64 ya) ∧ (U2.alloc o).cell? ⟨bx + 1, 1, none⟩ = some (.int .u64 yb) ∧ (U2.alloc o).cell? ⟨bx + 1, 2, none⟩ = some (.int .u64 yc)) := by
    rintro o ⟨p0, p1, p2, p3, p4, p5⟩
    refine ⟨?_, ?_, ?_, ?_, ?_, ?_⟩ <;> rw [World.cell?_alloc_some _ _ _ (by simp [*])] <;> assumption
  refine wpAnyH_ready (rs := [4]) (by kernel_rfl) (by simp) ?_
  refine AllReadyH.cons (o := { dst := some 9, op := Op.call { callee := Callee.value (Operand.func 57), args := #[Operand.tmp 6, Operand.tmp 8], argTypes := #[3, 3] }, type := 3, pos := "journal.go:96", after := #[{ on := 1, ground := Ground.data }, { on := 3, ground := Ground.data }], guard := none }) rfl (fun Kq hKq => ?_) AllReadyH.nil
  · go_simp
    refine (K1.out _).mono ?_
    rintro _ _ ⟨rfl, rfl⟩
    go_simp
    refine hKq.out _ _ hHeld (fun _ => ?_)
    clear hKq Kq
    try simp only [Act.put, List.setIfInBounds_toArray, List.set_cons_zero, List.set_cons_succ]
    refine wpAnyH_ready (rs := [9]) (by kernel_rfl) (by simp) ?_
    refine AllReadyH.cons (o := { dst := some 14, op := Op.call { callee := Callee.value (Operand.func 58), args := #[Operand.tmp 11, Operand.tmp 13], argTypes := #[22, 22] }, type := 3, pos := "journal.go:96", after := #[{ on := 6, ground := Ground.data }, { on := 8, ground := Ground.data }, { on := 4, ground := Ground.chain }], guard := none }) rfl (fun Kq hKq => ?_) AllReadyH.nil
    · go_simp
      refine (K2.out _).mono ?_
      rintro _ _ ⟨rfl, rfl⟩
      go_simp
      refine hKq.out _ _ hHeld (fun _ => ?_)
      clear hKq Kq
      try simp only [Act.put, List.setIfInBounds_toArray, List.set_cons_zero, List.set_cons_succ]
      refine wpAnyH_ready (rs := [14]) (by kernel_rfl) (by simp) ?_
      refine AllReadyH.cons (o := { dst := some 19, op := Op.call { callee := Callee.value (Operand.func 58), args := #[Operand.tmp 16, Operand.tmp 18], argTypes := #[22, 22] }, type := 3, pos := "journal.go:96", after := #[{ on := 11, ground := Ground.data }, { on := 13, ground := Ground.data }, { on := 9, ground := Ground.chain }], guard := none }) rfl (fun Kq hKq => ?_) AllReadyH.nil
      · go_simp
        refine (K3.out _).mono ?_
        rintro _ _ ⟨rfl, rfl⟩
        go_simp
        refine hKq.out _ _ hHeld (fun _ => ?_)
        clear hKq Kq
        try simp only [Act.put, List.setIfInBounds_toArray, List.set_cons_zero, List.set_cons_succ]
        refine wpAnyH_ready (rs := [15]) (by kernel_rfl) (by simp) ?_
        refine AllReadyH.cons (o := { dst := some 20, op := Op.buildSlice 82 3 #[(0, Operand.tmp 9), (1, Operand.tmp 14), (2, Operand.tmp 19)], type := 82, pos := "journal.go:96", after := #[{ on := 4, ground := Ground.data }, { on := 9, ground := Ground.data }, { on := 14, ground := Ground.data }], guard := none }) rfl (fun Kq hKq => ?_) AllReadyH.nil
        go_simp
        have EQ0 : Hid (U2.alloc (.cells #[.int .i64 p, .int .i64 q, .int .i64 r] 3) = U2.alloc (.cells #[.int .i64 p, .int .i64 q, .int .i64 r] 3)) := rfl
        have RZ : Hid (Rw (U2.alloc (.cells #[.int .i64 p, .int .i64 q, .int .i64 r] 3)) U2.heap.size 3 [.int .i64 p, .int .i64 q, .int .i64 r]) := Rw.new U2 [.int .i64 p, .int .i64 q, .int .i64 r] 3
        have HUG : Hid (∃ os, U2.alloc (.cells #[.int .i64 p, .int .i64 q, .int .i64 r] 3) = grow U2 os) := ⟨_, alloc_eq_grow _ _⟩
        refine hKq.out _ _ (HELD.out _ hHeld) (fun hHeldZ => ?_)
        clear hKq Kq EQ0
        try simp only [Act.put, List.setIfInBounds_toArray, List.set_cons_zero, List.set_cons_succ]
        generalize U2.alloc (.cells #[.int .i64 p, .int .i64 q, .int .i64 r] 3) = U3 at RZ HUG hHeldZ ⊢
        generalize U2.heap.size = bz at RZ ⊢
        refine wpAnyH_ready (rs := [16]) (by kernel_rfl) (by simp) ?_
        refine AllReadyH.cons (o := { dst := some 21, op := Op.call { callee := Callee.value (Operand.func 56), args := #[Operand.tmp 20], argTypes := #[82] }, type := 3, pos := "journal.go:96", after := #[{ on := 15, ground := Ground.data }, { on := 14, ground := Ground.chain }], guard := none }) rfl (fun Kq hKq => ?_) AllReadyH.nil
        go_simp
        refine (KA.out bz U3 (RZ.out.cell 0) (RZ.out.cell 1) (RZ.out.cell 2)).mono ?_
        rintro _ _ ⟨rfl, rfl⟩
        go_simp
        refine hKq.out _ _ hHeldZ (fun hHeldY => ?_)
        clear hKq Kq
        try simp only [Act.put, List.setIfInBounds_toArray, List.set_cons_zero, List.set_cons_succ]
        refine wpAnyH_ready (rs := [17]) (by kernel_rfl) (by simp) ?_
        refine AllReadyH.cons (o := { dst := some 4, op := Op.assign (Operand.tmp 21), type := 3, pos := "journal.go:96", after := #[{ on := 16, ground := Ground.data }, { on := 16, ground := Ground.chain }, { on := 0, ground := Ground.phase }, { on := 1, ground := Ground.phase }, { on := 2, ground := Ground.phase }, { on := 3, ground := Ground.phase }, { on := 4, ground := Ground.phase }, { on := 5, ground := Ground.phase }, { on := 6, ground := Ground.phase }, { on := 7, ground := Ground.phase }, { on := 8, ground := Ground.phase }, { on := 9, ground := Ground.phase }, { on := 10, ground := Ground.phase }, { on := 11, ground := Ground.phase }, { on := 12, ground := Ground.phase }, { on := 13, ground := Ground.phase }, { on := 14, ground := Ground.phase }, { on := 15, ground := Ground.phase }, { on := 16, ground := Ground.phase }], guard := none }) rfl (fun Kq hKq => ?_) AllReadyH.nil
        go_simp
        refine hKq.out _ _ hHeldY (fun _ => ?_)
        clear hKq Kq
        try simp only [Act.put, List.setIfInBounds_toArray, List.set_cons_zero, List.set_cons_succ]
        refine wpAnyH_done (by kernel_rfl) ?_ _
        go_wp2_with fail
        go_ret
        exact ⟨rfl, HEND.out U3 HUG.out⟩
end Go.Proofs.Ytnblilonjpfdnaa.Jn
