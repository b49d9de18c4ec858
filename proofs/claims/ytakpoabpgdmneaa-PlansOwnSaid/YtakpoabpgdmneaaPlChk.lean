/- Package plans: the conditions 2, 4, 6 of Check. -/
import Derived.Test.YtakpoabpgdmneaaPlLast
namespace Go.Proofs.Ytakpoabpgdmneaa.Pl
open Go Go.RowKit Ck
def c6B (x : Pn) : Bool := decide (x.ret = 0) || (dayB x.ret && decide (x.last.frm < x.ret))
section
variable {w : World} {b : Nat} {x : Pn} {a : Option Addr} {cap : Nat}
set_option maxRecDepth 100000 in
theorem chk2 (h : Pb w b x a cap) : Calls Try.prog 36 #[.pointer (some ⟨b, 0, none⟩)] w fun e w' => e = .returned (.bool (c2B x)) ∧ w = w' := by
  have c1 : w.cell? ⟨b, 1, none⟩ = some (.string x.name) := h.r.cell 1
  clear h
  obtain ⟨r, hr⟩ : ∃ r, r = c2B x := ⟨_, rfl⟩
  rw [← hr]
  unfold c2B at hr
  obtain ⟨s, hs⟩ : ∃ s, s = x.name := ⟨_, rfl⟩
  rw [← hs] at c1 hr
  clear hs
  cases h4 : s.toList.isEmpty with
  | true =>
    obtain rfl : r = false := by rw [hr, h4]; rfl
    clear hr
    go_enter Try.func36, Try.ntmps36
    go_wp2_with fail
    go_ret
    exact ⟨rfl, rfl⟩
  | false =>
    by_cases h5 : s.size ≤ 60
    · obtain rfl : r = true := by rw [hr, h4]; simp [h5]
      have h5' : (s.size : Int) ≤ 60 := by omega
      clear hr h5
      go_enter Try.func36, Try.ntmps36
      go_wp2_with fail
      go_ret
      exact ⟨rfl, rfl⟩
    · obtain rfl : r = false := by rw [hr, h4]; simp [h5]
      have h5' : ¬ (s.size : Int) ≤ 60 := by omega
      clear hr h5
      go_enter Try.func36, Try.ntmps36
      go_wp2_with fail
      go_ret
      exact ⟨rfl, rfl⟩
set_option maxRecDepth 100000 in
theorem chk4 (h : Pb w b x a cap) : Calls Try.prog 38 #[.pointer (some ⟨b, 0, none⟩)] w fun e w' => e = .returned (.bool (c4B x)) ∧ w = w' := by
  have c3 : w.cell? ⟨b, 3, none⟩ = some (.slice a x.ps.length cap) := h.r.cell 3
  clear h
  obtain ⟨r, hr⟩ : ∃ r, r = c4B x := ⟨_, rfl⟩
  rw [← hr]
  unfold c4B at hr
  obtain ⟨n, hn⟩ : ∃ n, n = x.ps.length := ⟨_, rfl⟩
  rw [← hn] at c3 hr
  clear hn
  by_cases h1 : 1 ≤ n
  · have h1' : (1 : Int) ≤ (n : Int) := by omega
    by_cases h2 : n ≤ 100
    · obtain rfl : r = true := by rw [hr]; simp [h1, h2]
      have h2' : (n : Int) ≤ 100 := by omega
      clear hr h1 h2
      go_enter Try.func38, Try.ntmps38
      go_wp2_with fail
      go_ret
      exact ⟨rfl, rfl⟩
    · obtain rfl : r = false := by rw [hr]; simp [h2]
      have h2' : ¬ (n : Int) ≤ 100 := by omega
      clear hr h1 h2
      go_enter Try.func38, Try.ntmps38
      go_wp2_with fail
      go_ret
      exact ⟨rfl, rfl⟩
  · obtain rfl : r = false := by rw [hr]; simp [h1]
    have h1' : ¬ (1 : Int) ≤ (n : Int) := by omega
    clear hr h1
    go_enter Try.func38, Try.ntmps38
    go_wp2_with fail
    go_ret
    exact ⟨rfl, rfl⟩
set_option maxRecDepth 100000 in
theorem chk6 (h : Pb w b x a cap) (h0 : 0 < x.ps.length) (hl : x.ps.length ≤ 1000000) : Calls Try.prog 41 #[.pointer (some ⟨b, 0, none⟩)] w fun e w' => e = .returned (.bool (c6B x)) ∧ Below w.heap.size w w' := by
  have H := Lib.hid h
  have KD : Hid (∀ u, Calls Try.prog 33 #[.int .i64 x.ret] u fun e w' => e = .returned (.bool (dayB x.ret)) ∧ u = w') := fun u => day_c x.ret u
  have KL : Hid (∀ u, Below w.heap.size w u → Calls Try.prog 31 #[x.val a cap] u fun e w' => e = .returned x.last.val ∧ Below u.heap.size u w') := fun u hu => last_c x a cap u (h.p.later hu) h0 hl
  have HS : Hid (∀ u, Below w.heap.size w u → u.cell? ⟨b, 0, none⟩ = some (.int .u64 x.id) ∧ u.cell? ⟨b, 1, none⟩ = some (.string x.name) ∧ u.cell? ⟨b, 2, none⟩ = some (.int .i64 x.every) ∧ u.cell? ⟨b, 3, none⟩ = some (.slice a x.ps.length cap) ∧ u.cell? ⟨b, 4, none⟩ = some (.int .i64 x.ret)) := fun u hu => ⟨(h.r.later hu).cell 0, (h.r.later hu).cell 1, (h.r.later hu).cell 2, (h.r.later hu).cell 3, (h.r.later hu).cell 4⟩
  obtain ⟨r, hr⟩ : ∃ r, r = c6B x := ⟨_, rfl⟩
  rw [← hr]
  unfold c6B at hr
  obtain ⟨y, hy⟩ : ∃ y, y = x.last := ⟨_, rfl⟩
  rw [← hy] at hr KL
  clear h h0 hy
  obtain ⟨id, name, every, L, ret⟩ := x
  obtain ⟨fr, am⟩ := y
  unfold Pn.val Pr.val at KL
  simp only at hr KD KL HS hl
  obtain ⟨dd, hdd⟩ : ∃ dd, dd = dayB ret := ⟨_, rfl⟩
  rw [← hdd] at KD hr
  clear hdd hl
  go_enter Try.func41, Try.ntmps41
  go_upto_region 1 with (fail)
  by_cases h1 : ret = 0
  · obtain rfl : r = true := by rw [hr]; simp [h1]
    subst h1
    clear hr
    refine wp_region_held_drew (S := (fun u => u.cell? ⟨b, 0, none⟩ = some (.int .u64 id) ∧ u.cell? ⟨b, 1, none⟩ = some (.string name) ∧ u.cell? ⟨b, 2, none⟩ = some (.int .i64 every) ∧ u.cell? ⟨b, 3, none⟩ = some (.slice a L.length cap) ∧ u.cell? ⟨b, 4, none⟩ = some (.int .i64 0) ∧ Below w.heap.size w u)) (by kernel_rfl) ?_ (fun hHeld => ?_)
    · exact ⟨(HS.out _ (Below.refl _ w).drew).1, (HS.out _ (Below.refl _ w).drew).2.1, (HS.out _ (Below.refl _ w).drew).2.2.1, (HS.out _ (Below.refl _ w).drew).2.2.2.1, (HS.out _ (Below.refl _ w).drew).2.2.2.2, (Below.refl _ w).drew⟩
    refine wpAnyH_take (i := 0) (oi := { dst := some 2, op := Op.fieldAddr 31 (Operand.tmp 0) 4, type := 0, pos := "plans.go:44", after := #[], guard := none }) (v := (.pointer (some ⟨b, 4, none⟩))) rfl (by kernel_rfl) (by kernel_rfl) (by kernel_rfl) (fun _ _ _ h => h) (Or.inl ⟨by rfl, ?_⟩) hHeld ?_
    · rintro u ⟨p0, p1, p2, p3, p4, -⟩
      go_simp <;> first | rfl | kernel_rfl
    try simp only [Act.put, List.setIfInBounds_toArray, List.set_cons_zero, List.set_cons_succ]
    refine wpAnyH_take (i := 1) (oi := { dst := some 3, op := Op.load 3 (Operand.tmp 2), type := 3, pos := "plans.go:44", after := #[{ on := 0, ground := Ground.data }], guard := none }) (v := (.int .i64 0)) rfl (by kernel_rfl) (by kernel_rfl) (by kernel_rfl) (fun _ _ _ h => h) (Or.inl ⟨by rfl, ?_⟩) hHeld ?_
    · rintro u ⟨p0, p1, p2, p3, p4, -⟩
      go_simp <;> first | rfl | kernel_rfl
    try simp only [Act.put, List.setIfInBounds_toArray, List.set_cons_zero, List.set_cons_succ]
    refine wpAnyH_take (i := 2) (oi := { dst := some 4, op := Op.binOp BinOp.eql 3 (Operand.tmp 3) (Operand.const (Value.int IntKind.i64 0)) 3, type := 4, pos := "plans.go:44", after := #[{ on := 1, ground := Ground.data }], guard := none }) (v := (.bool true)) rfl (by kernel_rfl) (by kernel_rfl) (by kernel_rfl) (fun _ _ _ h => h) (Or.inl ⟨by rfl, ?_⟩) hHeld ?_
    · rintro u ⟨p0, p1, p2, p3, p4, -⟩
      go_simp <;> first | rfl | kernel_rfl
    try simp only [Act.put, List.setIfInBounds_toArray, List.set_cons_zero, List.set_cons_succ]
    refine wpAnyH_take (i := 3) (oi := { dst := some 5, op := Op.move (Operand.tmp 4), type := 4, pos := "plans.go:44", after := #[{ on := 2, ground := Ground.data }], guard := none }) (v := (.bool true)) rfl (by kernel_rfl) (by kernel_rfl) (by kernel_rfl) (fun _ _ _ h => h) (Or.inl ⟨by rfl, ?_⟩) hHeld ?_
    · rintro u ⟨p0, p1, p2, p3, p4, -⟩
      go_simp <;> first | rfl | kernel_rfl
    try simp only [Act.put, List.setIfInBounds_toArray, List.set_cons_zero, List.set_cons_succ]
    refine wpAnyH_take (i := 4) (oi := { dst := some 6, op := Op.fieldAddr 31 (Operand.tmp 0) 4, type := 0, pos := "plans.go:44", after := #[{ on := 3, ground := Ground.guard }], guard := some (3, false) }) (v := undef) rfl (by kernel_rfl) (by kernel_rfl) (by kernel_rfl) (fun _ _ _ h => h) (Or.inr ⟨by rfl, rfl⟩) hHeld ?_
    try simp only [Act.put, List.setIfInBounds_toArray, List.set_cons_zero, List.set_cons_succ]
    refine wpAnyH_take (i := 5) (oi := { dst := some 7, op := Op.load 3 (Operand.tmp 6), type := 3, pos := "plans.go:44", after := #[{ on := 4, ground := Ground.data }, { on := 3, ground := Ground.guard }], guard := some (3, false) }) (v := undef) rfl (by kernel_rfl) (by kernel_rfl) (by kernel_rfl) (fun _ _ _ h => h) (Or.inr ⟨by rfl, rfl⟩) hHeld ?_
    try simp only [Act.put, List.setIfInBounds_toArray, List.set_cons_zero, List.set_cons_succ]
    refine wpAnyH_take (i := 6) (oi := { dst := some 8, op := Op.call { callee := Callee.value (Operand.func 33), args := #[Operand.tmp 7], argTypes := #[3] }, type := 4, pos := "plans.go:44", after := #[{ on := 5, ground := Ground.data }, { on := 3, ground := Ground.chain }, { on := 3, ground := Ground.guard }], guard := some (3, false) }) (v := undef) rfl (by kernel_rfl) (by kernel_rfl) (by kernel_rfl) (fun _ _ _ h => h) (Or.inr ⟨by rfl, rfl⟩) hHeld ?_
    try simp only [Act.put, List.setIfInBounds_toArray, List.set_cons_zero, List.set_cons_succ]
    refine wpAnyH_take (i := 7) (oi := { dst := some 9, op := Op.move (Operand.tmp 8), type := 4, pos := "plans.go:44", after := #[{ on := 6, ground := Ground.data }, { on := 6, ground := Ground.chain }, { on := 3, ground := Ground.guard }], guard := some (3, false) }) (v := undef) rfl (by kernel_rfl) (by kernel_rfl) (by kernel_rfl) (fun _ _ _ h => h) (Or.inr ⟨by rfl, rfl⟩) hHeld ?_
    try simp only [Act.put, List.setIfInBounds_toArray, List.set_cons_zero, List.set_cons_succ]
    refine wpAnyH_take (i := 8) (oi := { dst := some 10, op := Op.fieldAddr 31 (Operand.tmp 0) 4, type := 0, pos := "plans.go:44", after := #[{ on := 7, ground := Ground.guard }], guard := some (7, true) }) (v := undef) rfl (by kernel_rfl) (by kernel_rfl) (by kernel_rfl) (fun _ _ _ h => h) (Or.inr ⟨by rfl, rfl⟩) hHeld ?_
    try simp only [Act.put, List.setIfInBounds_toArray, List.set_cons_zero, List.set_cons_succ]
    refine wpAnyH_take (i := 9) (oi := { dst := some 11, op := Op.load 3 (Operand.tmp 10), type := 3, pos := "plans.go:44", after := #[{ on := 8, ground := Ground.data }, { on := 7, ground := Ground.guard }], guard := some (7, true) }) (v := undef) rfl (by kernel_rfl) (by kernel_rfl) (by kernel_rfl) (fun _ _ _ h => h) (Or.inr ⟨by rfl, rfl⟩) hHeld ?_
    try simp only [Act.put, List.setIfInBounds_toArray, List.set_cons_zero, List.set_cons_succ]
    refine wpAnyH_take (i := 10) (oi := { dst := some 12, op := Op.load 31 (Operand.tmp 0), type := 31, pos := "plans.go:44", after := #[{ on := 7, ground := Ground.guard }], guard := some (7, true) }) (v := undef) rfl (by kernel_rfl) (by kernel_rfl) (by kernel_rfl) (fun _ _ _ h => h) (Or.inr ⟨by rfl, rfl⟩) hHeld ?_
    try simp only [Act.put, List.setIfInBounds_toArray, List.set_cons_zero, List.set_cons_succ]
    refine wpAnyH_take (i := 11) (oi := { dst := some 13, op := Op.call { callee := Callee.value (Operand.func 31), args := #[Operand.tmp 12], argTypes := #[31] }, type := 33, pos := "plans.go:44", after := #[{ on := 10, ground := Ground.data }, { on := 7, ground := Ground.chain }, { on := 7, ground := Ground.guard }], guard := some (7, true) }) (v := undef) rfl (by kernel_rfl) (by kernel_rfl) (by kernel_rfl) (fun _ _ _ h => h) (Or.inr ⟨by rfl, rfl⟩) hHeld ?_
    try simp only [Act.put, List.setIfInBounds_toArray, List.set_cons_zero, List.set_cons_succ]
    refine wpAnyH_take (i := 12) (oi := { dst := some 14, op := Op.field 33 (Operand.tmp 13) 0, type := 3, pos := "plans.go:44", after := #[{ on := 11, ground := Ground.data }, { on := 7, ground := Ground.guard }], guard := some (7, true) }) (v := undef) rfl (by kernel_rfl) (by kernel_rfl) (by kernel_rfl) (fun _ _ _ h => h) (Or.inr ⟨by rfl, rfl⟩) hHeld ?_
    try simp only [Act.put, List.setIfInBounds_toArray, List.set_cons_zero, List.set_cons_succ]
    refine wpAnyH_take (i := 13) (oi := { dst := some 15, op := Op.binOp BinOp.gtr 3 (Operand.tmp 11) (Operand.tmp 14) 3, type := 4, pos := "plans.go:44", after := #[{ on := 9, ground := Ground.data }, { on := 12, ground := Ground.data }, { on := 7, ground := Ground.guard }], guard := some (7, true) }) (v := undef) rfl (by kernel_rfl) (by kernel_rfl) (by kernel_rfl) (fun _ _ _ h => h) (Or.inr ⟨by rfl, rfl⟩) hHeld ?_
    try simp only [Act.put, List.setIfInBounds_toArray, List.set_cons_zero, List.set_cons_succ]
    refine wpAnyH_take (i := 14) (oi := { dst := some 16, op := Op.pick (Operand.tmp 9) (Operand.tmp 15) (Operand.const (Value.bool false)), type := 4, pos := "plans.go:44", after := #[{ on := 7, ground := Ground.data }, { on := 13, ground := Ground.data }, { on := 3, ground := Ground.guard }], guard := some (3, false) }) (v := undef) rfl (by kernel_rfl) (by kernel_rfl) (by kernel_rfl) (fun _ _ _ h => h) (Or.inr ⟨by rfl, rfl⟩) hHeld ?_
    try simp only [Act.put, List.setIfInBounds_toArray, List.set_cons_zero, List.set_cons_succ]
    refine wpAnyH_take (i := 15) (oi := { dst := some 17, op := Op.pick (Operand.tmp 5) (Operand.const (Value.bool true)) (Operand.tmp 16), type := 4, pos := "plans.go:44", after := #[{ on := 3, ground := Ground.data }, { on := 14, ground := Ground.data }], guard := none }) (v := (.bool true)) rfl (by kernel_rfl) (by kernel_rfl) (by kernel_rfl) (fun _ _ _ h => h) (Or.inl ⟨by rfl, ?_⟩) hHeld ?_
    · rintro u ⟨p0, p1, p2, p3, p4, -⟩
      go_simp <;> first | rfl | kernel_rfl
    try simp only [Act.put, List.setIfInBounds_toArray, List.set_cons_zero, List.set_cons_succ]
    refine wpAnyH_take (i := 16) (oi := { dst := some 1, op := Op.assign (Operand.tmp 17), type := 4, pos := "plans.go:44", after := #[{ on := 15, ground := Ground.data }, { on := 11, ground := Ground.chain }, { on := 0, ground := Ground.phase }, { on := 1, ground := Ground.phase }, { on := 2, ground := Ground.phase }, { on := 3, ground := Ground.phase }, { on := 4, ground := Ground.phase }, { on := 5, ground := Ground.phase }, { on := 6, ground := Ground.phase }, { on := 7, ground := Ground.phase }, { on := 8, ground := Ground.phase }, { on := 9, ground := Ground.phase }, { on := 10, ground := Ground.phase }, { on := 11, ground := Ground.phase }, { on := 12, ground := Ground.phase }, { on := 13, ground := Ground.phase }, { on := 14, ground := Ground.phase }, { on := 15, ground := Ground.phase }], guard := none }) (v := (.bool true)) rfl (by kernel_rfl) (by kernel_rfl) (by kernel_rfl) (fun _ _ _ h => h) (Or.inl ⟨by rfl, ?_⟩) hHeld ?_
    · rintro u ⟨p0, p1, p2, p3, p4, -⟩
      go_simp <;> first | rfl | kernel_rfl
    try simp only [Act.put, List.setIfInBounds_toArray, List.set_cons_zero, List.set_cons_succ]
    refine wpAnyH_done (by kernel_rfl) ?_ _
    go_wp2_with fail
    go_ret
    exact ⟨rfl, (Below.refl _ w).drew⟩
  · have b1 : (ret == 0) = false := by simpa using h1
    rw [decide_eq_false h1, Bool.false_or] at hr
    clear h1
    cases dd with
    | false =>
      obtain rfl : r = false := by rw [hr]; rfl
      clear hr
      refine wp_region_held_drew (S := (fun u => u.cell? ⟨b, 0, none⟩ = some (.int .u64 id) ∧ u.cell? ⟨b, 1, none⟩ = some (.string name) ∧ u.cell? ⟨b, 2, none⟩ = some (.int .i64 every) ∧ u.cell? ⟨b, 3, none⟩ = some (.slice a L.length cap) ∧ u.cell? ⟨b, 4, none⟩ = some (.int .i64 ret) ∧ Below w.heap.size w u)) (by kernel_rfl) ?_ (fun hHeld => ?_)
      · exact ⟨(HS.out _ (Below.refl _ w).drew).1, (HS.out _ (Below.refl _ w).drew).2.1, (HS.out _ (Below.refl _ w).drew).2.2.1, (HS.out _ (Below.refl _ w).drew).2.2.2.1, (HS.out _ (Below.refl _ w).drew).2.2.2.2, (Below.refl _ w).drew⟩
      refine wpAnyH_take (i := 0) (oi := { dst := some 2, op := Op.fieldAddr 31 (Operand.tmp 0) 4, type := 0, pos := "plans.go:44", after := #[], guard := none }) (v := (.pointer (some ⟨b, 4, none⟩))) rfl (by kernel_rfl) (by kernel_rfl) (by kernel_rfl) (fun _ _ _ h => h) (Or.inl ⟨by rfl, ?_⟩) hHeld ?_
      · rintro u ⟨p0, p1, p2, p3, p4, -⟩
        go_simp <;> first | rfl | kernel_rfl
      try simp only [Act.put, List.setIfInBounds_toArray, List.set_cons_zero, List.set_cons_succ]
      refine wpAnyH_take (i := 1) (oi := { dst := some 3, op := Op.load 3 (Operand.tmp 2), type := 3, pos := "plans.go:44", after := #[{ on := 0, ground := Ground.data }], guard := none }) (v := (.int .i64 ret)) rfl (by kernel_rfl) (by kernel_rfl) (by kernel_rfl) (fun _ _ _ h => h) (Or.inl ⟨by rfl, ?_⟩) hHeld ?_
      · rintro u ⟨p0, p1, p2, p3, p4, -⟩
        go_simp <;> first | rfl | kernel_rfl
      try simp only [Act.put, List.setIfInBounds_toArray, List.set_cons_zero, List.set_cons_succ]
      refine wpAnyH_take (i := 2) (oi := { dst := some 4, op := Op.binOp BinOp.eql 3 (Operand.tmp 3) (Operand.const (Value.int IntKind.i64 0)) 3, type := 4, pos := "plans.go:44", after := #[{ on := 1, ground := Ground.data }], guard := none }) (v := (.bool false)) rfl (by kernel_rfl) (by kernel_rfl) (by kernel_rfl) (fun _ _ _ h => h) (Or.inl ⟨by rfl, ?_⟩) hHeld ?_
      · rintro u ⟨p0, p1, p2, p3, p4, -⟩
        go_simp <;> first | rfl | kernel_rfl
      try simp only [Act.put, List.setIfInBounds_toArray, List.set_cons_zero, List.set_cons_succ]
      refine wpAnyH_take (i := 3) (oi := { dst := some 5, op := Op.move (Operand.tmp 4), type := 4, pos := "plans.go:44", after := #[{ on := 2, ground := Ground.data }], guard := none }) (v := (.bool false)) rfl (by kernel_rfl) (by kernel_rfl) (by kernel_rfl) (fun _ _ _ h => h) (Or.inl ⟨by rfl, ?_⟩) hHeld ?_
      · rintro u ⟨p0, p1, p2, p3, p4, -⟩
        go_simp <;> first | rfl | kernel_rfl
      try simp only [Act.put, List.setIfInBounds_toArray, List.set_cons_zero, List.set_cons_succ]
      refine wpAnyH_take (i := 4) (oi := { dst := some 6, op := Op.fieldAddr 31 (Operand.tmp 0) 4, type := 0, pos := "plans.go:44", after := #[{ on := 3, ground := Ground.guard }], guard := some (3, false) }) (v := (.pointer (some ⟨b, 4, none⟩))) rfl (by kernel_rfl) (by kernel_rfl) (by kernel_rfl) (fun _ _ _ h => h) (Or.inl ⟨by rfl, ?_⟩) hHeld ?_
      · rintro u ⟨p0, p1, p2, p3, p4, -⟩
        go_simp <;> first | rfl | kernel_rfl
      try simp only [Act.put, List.setIfInBounds_toArray, List.set_cons_zero, List.set_cons_succ]
      refine wpAnyH_take (i := 5) (oi := { dst := some 7, op := Op.load 3 (Operand.tmp 6), type := 3, pos := "plans.go:44", after := #[{ on := 4, ground := Ground.data }, { on := 3, ground := Ground.guard }], guard := some (3, false) }) (v := (.int .i64 ret)) rfl (by kernel_rfl) (by kernel_rfl) (by kernel_rfl) (fun _ _ _ h => h) (Or.inl ⟨by rfl, ?_⟩) hHeld ?_
      · rintro u ⟨p0, p1, p2, p3, p4, -⟩
        go_simp <;> first | rfl | kernel_rfl
      try simp only [Act.put, List.setIfInBounds_toArray, List.set_cons_zero, List.set_cons_succ]
      refine wpAnyH_ready (rs := [6]) (by kernel_rfl) (by simp) ?_
      refine AllReadyH.cons (o := { dst := some 8, op := Op.call { callee := Callee.value (Operand.func 33), args := #[Operand.tmp 7], argTypes := #[3] }, type := 4, pos := "plans.go:44", after := #[{ on := 5, ground := Ground.data }, { on := 3, ground := Ground.chain }, { on := 3, ground := Ground.guard }], guard := some (3, false) }) rfl (fun K hK => ?_) AllReadyH.nil
      go_simp
      refine (KD.out _).mono ?_
      rintro e u2 ⟨rfl, rfl⟩
      have BU := hHeld.2.2.2.2.2
      go_wp2_with fail
      refine hK.out _ _ (⟨(HS.out _ BU).1, (HS.out _ BU).2.1, (HS.out _ BU).2.2.1, (HS.out _ BU).2.2.2.1, (HS.out _ BU).2.2.2.2, BU⟩) (fun hHeld6 => ?_)
      clear hK K
      try simp only [Act.put, List.setIfInBounds_toArray, List.set_cons_zero, List.set_cons_succ]
      refine wpAnyH_take (i := 7) (oi := { dst := some 9, op := Op.move (Operand.tmp 8), type := 4, pos := "plans.go:44", after := #[{ on := 6, ground := Ground.data }, { on := 6, ground := Ground.chain }, { on := 3, ground := Ground.guard }], guard := some (3, false) }) (v := (.bool false)) rfl (by kernel_rfl) (by kernel_rfl) (by kernel_rfl) (fun _ _ _ h => h) (Or.inl ⟨by rfl, ?_⟩) hHeld6 ?_
      · rintro u ⟨p0, p1, p2, p3, p4, -⟩
        go_simp <;> first | rfl | kernel_rfl
      try simp only [Act.put, List.setIfInBounds_toArray, List.set_cons_zero, List.set_cons_succ]
      refine wpAnyH_take (i := 8) (oi := { dst := some 10, op := Op.fieldAddr 31 (Operand.tmp 0) 4, type := 0, pos := "plans.go:44", after := #[{ on := 7, ground := Ground.guard }], guard := some (7, true) }) (v := undef) rfl (by kernel_rfl) (by kernel_rfl) (by kernel_rfl) (fun _ _ _ h => h) (Or.inr ⟨by rfl, rfl⟩) hHeld6 ?_
      try simp only [Act.put, List.setIfInBounds_toArray, List.set_cons_zero, List.set_cons_succ]
      refine wpAnyH_take (i := 9) (oi := { dst := some 11, op := Op.load 3 (Operand.tmp 10), type := 3, pos := "plans.go:44", after := #[{ on := 8, ground := Ground.data }, { on := 7, ground := Ground.guard }], guard := some (7, true) }) (v := undef) rfl (by kernel_rfl) (by kernel_rfl) (by kernel_rfl) (fun _ _ _ h => h) (Or.inr ⟨by rfl, rfl⟩) hHeld6 ?_
      try simp only [Act.put, List.setIfInBounds_toArray, List.set_cons_zero, List.set_cons_succ]
      refine wpAnyH_take (i := 10) (oi := { dst := some 12, op := Op.load 31 (Operand.tmp 0), type := 31, pos := "plans.go:44", after := #[{ on := 7, ground := Ground.guard }], guard := some (7, true) }) (v := undef) rfl (by kernel_rfl) (by kernel_rfl) (by kernel_rfl) (fun _ _ _ h => h) (Or.inr ⟨by rfl, rfl⟩) hHeld6 ?_
      try simp only [Act.put, List.setIfInBounds_toArray, List.set_cons_zero, List.set_cons_succ]
      refine wpAnyH_take (i := 11) (oi := { dst := some 13, op := Op.call { callee := Callee.value (Operand.func 31), args := #[Operand.tmp 12], argTypes := #[31] }, type := 33, pos := "plans.go:44", after := #[{ on := 10, ground := Ground.data }, { on := 7, ground := Ground.chain }, { on := 7, ground := Ground.guard }], guard := some (7, true) }) (v := undef) rfl (by kernel_rfl) (by kernel_rfl) (by kernel_rfl) (fun _ _ _ h => h) (Or.inr ⟨by rfl, rfl⟩) hHeld6 ?_
      try simp only [Act.put, List.setIfInBounds_toArray, List.set_cons_zero, List.set_cons_succ]
      refine wpAnyH_take (i := 12) (oi := { dst := some 14, op := Op.field 33 (Operand.tmp 13) 0, type := 3, pos := "plans.go:44", after := #[{ on := 11, ground := Ground.data }, { on := 7, ground := Ground.guard }], guard := some (7, true) }) (v := undef) rfl (by kernel_rfl) (by kernel_rfl) (by kernel_rfl) (fun _ _ _ h => h) (Or.inr ⟨by rfl, rfl⟩) hHeld6 ?_
      try simp only [Act.put, List.setIfInBounds_toArray, List.set_cons_zero, List.set_cons_succ]
      refine wpAnyH_take (i := 13) (oi := { dst := some 15, op := Op.binOp BinOp.gtr 3 (Operand.tmp 11) (Operand.tmp 14) 3, type := 4, pos := "plans.go:44", after := #[{ on := 9, ground := Ground.data }, { on := 12, ground := Ground.data }, { on := 7, ground := Ground.guard }], guard := some (7, true) }) (v := undef) rfl (by kernel_rfl) (by kernel_rfl) (by kernel_rfl) (fun _ _ _ h => h) (Or.inr ⟨by rfl, rfl⟩) hHeld6 ?_
      try simp only [Act.put, List.setIfInBounds_toArray, List.set_cons_zero, List.set_cons_succ]
      refine wpAnyH_take (i := 14) (oi := { dst := some 16, op := Op.pick (Operand.tmp 9) (Operand.tmp 15) (Operand.const (Value.bool false)), type := 4, pos := "plans.go:44", after := #[{ on := 7, ground := Ground.data }, { on := 13, ground := Ground.data }, { on := 3, ground := Ground.guard }], guard := some (3, false) }) (v := (.bool false)) rfl (by kernel_rfl) (by kernel_rfl) (by kernel_rfl) (fun _ _ _ h => h) (Or.inl ⟨by rfl, ?_⟩) hHeld6 ?_
      · rintro u ⟨p0, p1, p2, p3, p4, -⟩
        go_simp <;> first | rfl | kernel_rfl
      try simp only [Act.put, List.setIfInBounds_toArray, List.set_cons_zero, List.set_cons_succ]
      refine wpAnyH_take (i := 15) (oi := { dst := some 17, op := Op.pick (Operand.tmp 5) (Operand.const (Value.bool true)) (Operand.tmp 16), type := 4, pos := "plans.go:44", after := #[{ on := 3, ground := Ground.data }, { on := 14, ground := Ground.data }], guard := none }) (v := (.bool false)) rfl (by kernel_rfl) (by kernel_rfl) (by kernel_rfl) (fun _ _ _ h => h) (Or.inl ⟨by rfl, ?_⟩) hHeld6 ?_
      · rintro u ⟨p0, p1, p2, p3, p4, -⟩
        go_simp <;> first | rfl | kernel_rfl
      try simp only [Act.put, List.setIfInBounds_toArray, List.set_cons_zero, List.set_cons_succ]
      refine wpAnyH_take (i := 16) (oi := { dst := some 1, op := Op.assign (Operand.tmp 17), type := 4, pos := "plans.go:44", after := #[{ on := 15, ground := Ground.data }, { on := 11, ground := Ground.chain }, { on := 0, ground := Ground.phase }, { on := 1, ground := Ground.phase }, { on := 2, ground := Ground.phase }, { on := 3, ground := Ground.phase }, { on := 4, ground := Ground.phase }, { on := 5, ground := Ground.phase }, { on := 6, ground := Ground.phase }, { on := 7, ground := Ground.phase }, { on := 8, ground := Ground.phase }, { on := 9, ground := Ground.phase }, { on := 10, ground := Ground.phase }, { on := 11, ground := Ground.phase }, { on := 12, ground := Ground.phase }, { on := 13, ground := Ground.phase }, { on := 14, ground := Ground.phase }, { on := 15, ground := Ground.phase }], guard := none }) (v := (.bool false)) rfl (by kernel_rfl) (by kernel_rfl) (by kernel_rfl) (fun _ _ _ h => h) (Or.inl ⟨by rfl, ?_⟩) hHeld6 ?_
      · rintro u ⟨p0, p1, p2, p3, p4, -⟩
        go_simp <;> first | rfl | kernel_rfl
      try simp only [Act.put, List.setIfInBounds_toArray, List.set_cons_zero, List.set_cons_succ]
      refine wpAnyH_done (by kernel_rfl) ?_ _
      go_wp2_with fail
      go_ret
      exact ⟨rfl, BU⟩
    | true =>
      rw [Bool.true_and] at hr
      subst hr
      refine wp_region_held_drew (S := (fun u => u.cell? ⟨b, 0, none⟩ = some (.int .u64 id) ∧ u.cell? ⟨b, 1, none⟩ = some (.string name) ∧ u.cell? ⟨b, 2, none⟩ = some (.int .i64 every) ∧ u.cell? ⟨b, 3, none⟩ = some (.slice a L.length cap) ∧ u.cell? ⟨b, 4, none⟩ = some (.int .i64 ret) ∧ Below w.heap.size w u)) (by kernel_rfl) ?_ (fun hHeld => ?_)
      · exact ⟨(HS.out _ (Below.refl _ w).drew).1, (HS.out _ (Below.refl _ w).drew).2.1, (HS.out _ (Below.refl _ w).drew).2.2.1, (HS.out _ (Below.refl _ w).drew).2.2.2.1, (HS.out _ (Below.refl _ w).drew).2.2.2.2, (Below.refl _ w).drew⟩
      refine wpAnyH_take (i := 0) (oi := { dst := some 2, op := Op.fieldAddr 31 (Operand.tmp 0) 4, type := 0, pos := "plans.go:44", after := #[], guard := none }) (v := (.pointer (some ⟨b, 4, none⟩))) rfl (by kernel_rfl) (by kernel_rfl) (by kernel_rfl) (fun _ _ _ h => h) (Or.inl ⟨by rfl, ?_⟩) hHeld ?_
      · rintro u ⟨p0, p1, p2, p3, p4, -⟩
        go_simp <;> first | rfl | kernel_rfl
      try simp only [Act.put, List.setIfInBounds_toArray, List.set_cons_zero, List.set_cons_succ]
      refine wpAnyH_take (i := 1) (oi := { dst := some 3, op := Op.load 3 (Operand.tmp 2), type := 3, pos := "plans.go:44", after := #[{ on := 0, ground := Ground.data }], guard := none }) (v := (.int .i64 ret)) rfl (by kernel_rfl) (by kernel_rfl) (by kernel_rfl) (fun _ _ _ h => h) (Or.inl ⟨by rfl, ?_⟩) hHeld ?_
      · rintro u ⟨p0, p1, p2, p3, p4, -⟩
        go_simp <;> first | rfl | kernel_rfl
      try simp only [Act.put, List.setIfInBounds_toArray, List.set_cons_zero, List.set_cons_succ]
      refine wpAnyH_take (i := 2) (oi := { dst := some 4, op := Op.binOp BinOp.eql 3 (Operand.tmp 3) (Operand.const (Value.int IntKind.i64 0)) 3, type := 4, pos := "plans.go:44", after := #[{ on := 1, ground := Ground.data }], guard := none }) (v := (.bool false)) rfl (by kernel_rfl) (by kernel_rfl) (by kernel_rfl) (fun _ _ _ h => h) (Or.inl ⟨by rfl, ?_⟩) hHeld ?_
      · rintro u ⟨p0, p1, p2, p3, p4, -⟩
        go_simp <;> first | rfl | kernel_rfl
      try simp only [Act.put, List.setIfInBounds_toArray, List.set_cons_zero, List.set_cons_succ]
      refine wpAnyH_take (i := 3) (oi := { dst := some 5, op := Op.move (Operand.tmp 4), type := 4, pos := "plans.go:44", after := #[{ on := 2, ground := Ground.data }], guard := none }) (v := (.bool false)) rfl (by kernel_rfl) (by kernel_rfl) (by kernel_rfl) (fun _ _ _ h => h) (Or.inl ⟨by rfl, ?_⟩) hHeld ?_
      · rintro u ⟨p0, p1, p2, p3, p4, -⟩
        go_simp <;> first | rfl | kernel_rfl
      try simp only [Act.put, List.setIfInBounds_toArray, List.set_cons_zero, List.set_cons_succ]
      refine wpAnyH_take (i := 4) (oi := { dst := some 6, op := Op.fieldAddr 31 (Operand.tmp 0) 4, type := 0, pos := "plans.go:44", after := #[{ on := 3, ground := Ground.guard }], guard := some (3, false) }) (v := (.pointer (some ⟨b, 4, none⟩))) rfl (by kernel_rfl) (by kernel_rfl) (by kernel_rfl) (fun _ _ _ h => h) (Or.inl ⟨by rfl, ?_⟩) hHeld ?_
      · rintro u ⟨p0, p1, p2, p3, p4, -⟩
        go_simp <;> first | rfl | kernel_rfl
      try simp only [Act.put, List.setIfInBounds_toArray, List.set_cons_zero, List.set_cons_succ]
      refine wpAnyH_take (i := 5) (oi := { dst := some 7, op := Op.load 3 (Operand.tmp 6), type := 3, pos := "plans.go:44", after := #[{ on := 4, ground := Ground.data }, { on := 3, ground := Ground.guard }], guard := some (3, false) }) (v := (.int .i64 ret)) rfl (by kernel_rfl) (by kernel_rfl) (by kernel_rfl) (fun _ _ _ h => h) (Or.inl ⟨by rfl, ?_⟩) hHeld ?_
      · rintro u ⟨p0, p1, p2, p3, p4, -⟩
        go_simp <;> first | rfl | kernel_rfl
      try simp only [Act.put, List.setIfInBounds_toArray, List.set_cons_zero, List.set_cons_succ]
      refine wpAnyH_ready (rs := [6]) (by kernel_rfl) (by simp) ?_
      refine AllReadyH.cons (o := { dst := some 8, op := Op.call { callee := Callee.value (Operand.func 33), args := #[Operand.tmp 7], argTypes := #[3] }, type := 4, pos := "plans.go:44", after := #[{ on := 5, ground := Ground.data }, { on := 3, ground := Ground.chain }, { on := 3, ground := Ground.guard }], guard := some (3, false) }) rfl (fun K hK => ?_) AllReadyH.nil
      go_simp
      refine (KD.out _).mono ?_
      rintro e u2 ⟨rfl, rfl⟩
      have BU := hHeld.2.2.2.2.2
      go_wp2_with fail
      refine hK.out _ _ (⟨(HS.out _ BU).1, (HS.out _ BU).2.1, (HS.out _ BU).2.2.1, (HS.out _ BU).2.2.2.1, (HS.out _ BU).2.2.2.2, BU⟩) (fun hHeld6 => ?_)
      clear hK K
      try simp only [Act.put, List.setIfInBounds_toArray, List.set_cons_zero, List.set_cons_succ]
      refine wpAnyH_take (i := 7) (oi := { dst := some 9, op := Op.move (Operand.tmp 8), type := 4, pos := "plans.go:44", after := #[{ on := 6, ground := Ground.data }, { on := 6, ground := Ground.chain }, { on := 3, ground := Ground.guard }], guard := some (3, false) }) (v := (.bool true)) rfl (by kernel_rfl) (by kernel_rfl) (by kernel_rfl) (fun _ _ _ h => h) (Or.inl ⟨by rfl, ?_⟩) hHeld6 ?_
      · rintro u ⟨p0, p1, p2, p3, p4, -⟩
        go_simp <;> first | rfl | kernel_rfl
      try simp only [Act.put, List.setIfInBounds_toArray, List.set_cons_zero, List.set_cons_succ]
      refine wpAnyH_take (i := 8) (oi := { dst := some 10, op := Op.fieldAddr 31 (Operand.tmp 0) 4, type := 0, pos := "plans.go:44", after := #[{ on := 7, ground := Ground.guard }], guard := some (7, true) }) (v := (.pointer (some ⟨b, 4, none⟩))) rfl (by kernel_rfl) (by kernel_rfl) (by kernel_rfl) (fun _ _ _ h => h) (Or.inl ⟨by rfl, ?_⟩) hHeld6 ?_
      · rintro u ⟨p0, p1, p2, p3, p4, -⟩
        go_simp <;> first | rfl | kernel_rfl
      try simp only [Act.put, List.setIfInBounds_toArray, List.set_cons_zero, List.set_cons_succ]
      refine wpAnyH_take (i := 9) (oi := { dst := some 11, op := Op.load 3 (Operand.tmp 10), type := 3, pos := "plans.go:44", after := #[{ on := 8, ground := Ground.data }, { on := 7, ground := Ground.guard }], guard := some (7, true) }) (v := (.int .i64 ret)) rfl (by kernel_rfl) (by kernel_rfl) (by kernel_rfl) (fun _ _ _ h => h) (Or.inl ⟨by rfl, ?_⟩) hHeld6 ?_
      · rintro u ⟨p0, p1, p2, p3, p4, -⟩
        go_simp <;> first | rfl | kernel_rfl
      try simp only [Act.put, List.setIfInBounds_toArray, List.set_cons_zero, List.set_cons_succ]
      refine wpAnyH_take (i := 10) (oi := { dst := some 12, op := Op.load 31 (Operand.tmp 0), type := 31, pos := "plans.go:44", after := #[{ on := 7, ground := Ground.guard }], guard := some (7, true) }) (v := (.agg #[.int .u64 id, .string name, .int .i64 every, .slice a L.length cap, .int .i64 ret])) rfl (by kernel_rfl) (by kernel_rfl) (by kernel_rfl) (fun _ _ _ h => h) (Or.inl ⟨by rfl, ?_⟩) hHeld6 ?_
      · rintro u ⟨p0, p1, p2, p3, p4, -⟩
        go_simp <;> first | rfl | kernel_rfl
      try simp only [Act.put, List.setIfInBounds_toArray, List.set_cons_zero, List.set_cons_succ]
      refine wpAnyH_ready (rs := [11]) (by kernel_rfl) (by simp) ?_
      refine AllReadyH.cons (o := { dst := some 13, op := Op.call { callee := Callee.value (Operand.func 31), args := #[Operand.tmp 12], argTypes := #[31] }, type := 33, pos := "plans.go:44", after := #[{ on := 10, ground := Ground.data }, { on := 7, ground := Ground.chain }, { on := 7, ground := Ground.guard }], guard := some (7, true) }) rfl (fun K hK => ?_) AllReadyH.nil
      go_simp
      refine (KL.out _ hHeld6.2.2.2.2.2).mono ?_
      rintro e u3 ⟨rfl, hb3⟩
      have BV := Below.trans hHeld6.2.2.2.2.2 (hb3.mono (Below.size hHeld6.2.2.2.2.2))
      go_wp2_with fail
      refine hK.out _ _ (⟨(HS.out _ BV).1, (HS.out _ BV).2.1, (HS.out _ BV).2.2.1, (HS.out _ BV).2.2.2.1, (HS.out _ BV).2.2.2.2, BV⟩) (fun hHeld11 => ?_)
      clear hK K
      try simp only [Act.put, List.setIfInBounds_toArray, List.set_cons_zero, List.set_cons_succ]
      refine wpAnyH_take (i := 12) (oi := { dst := some 14, op := Op.field 33 (Operand.tmp 13) 0, type := 3, pos := "plans.go:44", after := #[{ on := 11, ground := Ground.data }, { on := 7, ground := Ground.guard }], guard := some (7, true) }) (v := (.int .i64 fr)) rfl (by kernel_rfl) (by kernel_rfl) (by kernel_rfl) (fun _ _ _ h => h) (Or.inl ⟨by rfl, ?_⟩) hHeld11 ?_
      · rintro u ⟨p0, p1, p2, p3, p4, -⟩
        go_simp <;> first | rfl | kernel_rfl
      try simp only [Act.put, List.setIfInBounds_toArray, List.set_cons_zero, List.set_cons_succ]
      refine wpAnyH_take (i := 13) (oi := { dst := some 15, op := Op.binOp BinOp.gtr 3 (Operand.tmp 11) (Operand.tmp 14) 3, type := 4, pos := "plans.go:44", after := #[{ on := 9, ground := Ground.data }, { on := 12, ground := Ground.data }, { on := 7, ground := Ground.guard }], guard := some (7, true) }) (v := (.bool (decide (fr < ret)))) rfl (by kernel_rfl) (by kernel_rfl) (by kernel_rfl) (fun _ _ _ h => h) (Or.inl ⟨by rfl, ?_⟩) hHeld11 ?_
      · rintro u ⟨p0, p1, p2, p3, p4, -⟩
        go_simp <;> first | rfl | kernel_rfl
      try simp only [Act.put, List.setIfInBounds_toArray, List.set_cons_zero, List.set_cons_succ]
      refine wpAnyH_take (i := 14) (oi := { dst := some 16, op := Op.pick (Operand.tmp 9) (Operand.tmp 15) (Operand.const (Value.bool false)), type := 4, pos := "plans.go:44", after := #[{ on := 7, ground := Ground.data }, { on := 13, ground := Ground.data }, { on := 3, ground := Ground.guard }], guard := some (3, false) }) (v := (.bool (decide (fr < ret)))) rfl (by kernel_rfl) (by kernel_rfl) (by kernel_rfl) (fun _ _ _ h => h) (Or.inl ⟨by rfl, ?_⟩) hHeld11 ?_
      · rintro u ⟨p0, p1, p2, p3, p4, -⟩
        go_simp <;> first | rfl | kernel_rfl
      try simp only [Act.put, List.setIfInBounds_toArray, List.set_cons_zero, List.set_cons_succ]
      refine wpAnyH_take (i := 15) (oi := { dst := some 17, op := Op.pick (Operand.tmp 5) (Operand.const (Value.bool true)) (Operand.tmp 16), type := 4, pos := "plans.go:44", after := #[{ on := 3, ground := Ground.data }, { on := 14, ground := Ground.data }], guard := none }) (v := (.bool (decide (fr < ret)))) rfl (by kernel_rfl) (by kernel_rfl) (by kernel_rfl) (fun _ _ _ h => h) (Or.inl ⟨by rfl, ?_⟩) hHeld11 ?_
      · rintro u ⟨p0, p1, p2, p3, p4, -⟩
        go_simp <;> first | rfl | kernel_rfl
      try simp only [Act.put, List.setIfInBounds_toArray, List.set_cons_zero, List.set_cons_succ]
      refine wpAnyH_take (i := 16) (oi := { dst := some 1, op := Op.assign (Operand.tmp 17), type := 4, pos := "plans.go:44", after := #[{ on := 15, ground := Ground.data }, { on := 11, ground := Ground.chain }, { on := 0, ground := Ground.phase }, { on := 1, ground := Ground.phase }, { on := 2, ground := Ground.phase }, { on := 3, ground := Ground.phase }, { on := 4, ground := Ground.phase }, { on := 5, ground := Ground.phase }, { on := 6, ground := Ground.phase }, { on := 7, ground := Ground.phase }, { on := 8, ground := Ground.phase }, { on := 9, ground := Ground.phase }, { on := 10, ground := Ground.phase }, { on := 11, ground := Ground.phase }, { on := 12, ground := Ground.phase }, { on := 13, ground := Ground.phase }, { on := 14, ground := Ground.phase }, { on := 15, ground := Ground.phase }], guard := none }) (v := (.bool (decide (fr < ret)))) rfl (by kernel_rfl) (by kernel_rfl) (by kernel_rfl) (fun _ _ _ h => h) (Or.inl ⟨by rfl, ?_⟩) hHeld11 ?_
      · rintro u ⟨p0, p1, p2, p3, p4, -⟩
        go_simp <;> first | rfl | kernel_rfl
      try simp only [Act.put, List.setIfInBounds_toArray, List.set_cons_zero, List.set_cons_succ]
      refine wpAnyH_done (by kernel_rfl) ?_ _
      go_wp2_with fail
      go_ret
      exact ⟨rfl, BV⟩
end
end Go.Proofs.Ytakpoabpgdmneaa.Pl
