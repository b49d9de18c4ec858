/- Package journal: the document's put. -/
import Derived.Test.YtnblilonjpfdnaaJnRef
import Derived.Test.YtnblilonjpfdnaaJcF
namespace Go.Proofs.Ytnblilonjpfdnaa.Jn
open Go Go.RowKit Ck
def placeL : List Ln → Key → Nat
  | [], _ => 0
  | y :: T, k => if klt y.key k then placeL T k + 1 else 0
theorem placeL_le : ∀ (T : List Ln) (k : Key), placeL T k ≤ T.length
  | [], _ => Nat.le_refl _
  | y :: T, k => by
    unfold placeL
    have := placeL_le T k
    split
    · simp; omega
    · omega
theorem placeL_lt : ∀ {T : List Ln} {k : Key} (j : Nat) (h : j < T.length), j < placeL T k → klt T[j].key k
  | [], _, j, h, _ => absurd h (by simp)
  | y :: T, k, j, h, hj => by
    unfold placeL at hj
    by_cases hy : klt y.key k
    · rw [if_pos hy] at hj
      cases j with
      | zero => exact hy
      | succ j => exact placeL_lt j (by simpa using h) (by omega)
    · rw [if_neg hy] at hj
      omega
theorem placeL_at : ∀ {T : List Ln} {k : Key} (h : placeL T k < T.length), ¬ klt T[placeL T k].key k
  | [], _, h => absurd h (by simp)
  | y :: T, k, h => by
    by_cases hy : klt y.key k
    · have e : placeL (y :: T) k = placeL T k + 1 := if_pos hy
      have h2 : placeL T k < T.length := by rw [e] at h; simpa using h
      have := placeL_at h2
      simp only [e, List.getElem_cons_succ]
      exact this
    · have e : placeL (y :: T) k = 0 := if_neg hy
      simp only [e, List.getElem_cons_zero]
      exact hy
theorem placeL_eq : ∀ {T : List Ln} {k : Key} {i : Nat} (_ : ∀ j (h : j < T.length), j < i → klt T[j].key k) (_ : i ≤ T.length) (_ : ∀ h : i < T.length, ¬ klt T[i].key k), i = placeL T k
  | [], _, i, _, h, _ => by simp at h; exact h
  | y :: T, k, 0, _, _, h => by
    have := h (by simp)
    exact (if_neg this).symm
  | y :: T, k, i + 1, h1, h2, h3 => by
    have hy : klt y.key k := h1 0 (by simp) (by omega)
    have e : placeL (y :: T) k = placeL T k + 1 := if_pos hy
    rw [e]
    congr 1
    exact placeL_eq (fun j hj hji => h1 (j + 1) (by simpa using hj) (by omega)) (by simpa using h2) (fun h => h3 (by simpa using h))
theorem flatL_app (S T : List Ln) : flatL (S ++ T) = flatL S ++ flatL T := by unfold flatL; rw [List.flatMap_append]
section
set_option maxRecDepth 100000
set_option maxHeartbeats 1600000
theorem rput_c (T : List Ln) (va : Option Addr) (vc : Nat) (x : Ln) (w : World) (base : Nat) (h : w.ownsRow base TLine 4 (.slice va T.length vc) T.length (flatL T)) (hl : T.length ≤ 1000) : Calls Try.prog 61 #[.slice va T.length vc, x.val] w fun e w' => ∃ v, e = .returned v ∧ w'.ownsRow w.heap.size TLine 4 v (T.length + 1) (flatL (insL T (placeL T x.key) x)) ∧ Below w.heap.size w w' := by
  obtain ⟨hcap, hlns⟩ : T.length ≤ vc ∧ Lns w va T := by
    obtain ⟨a', c', hv, h1, h2⟩ := lns_own h
    injection hv with e1 _ e3
    subst e1 e3
    exact ⟨h2, h1⟩
  have H := Lib.hid h
  have HLN := Lib.hid hlns
  have KL : Hid (∀ (y : Ln) u, Calls Try.prog 29 #[y.val, x.val] u fun e w' => e = .returned (.bool (decide (klt y.key x.key))) ∧ Below u.heap.size u w') := fun y u => lessL_c y x u
  obtain ⟨ky, hky⟩ : ∃ ky, ky = x.key := ⟨_, rfl⟩
  rw [← hky] at KL ⊢
  obtain ⟨i4, z4, hk0, hk1, hk2, hk3, hk4⟩ := info_ln
  obtain ⟨xa, xb, xc, xd⟩ := x
  unfold Ln.val at KL ⊢
  simp only at KL ⊢
  have B0 : Hid (Below w.heap.size w (w.alloc (.cells #[.int .i64 xa, .int .u64 xb, .int .u64 xc, .int .i64 xd] TLine))) := (Below.refl _ w).alloc (Nat.le_refl _) _
  have R0 : Hid (Rw (w.alloc (.cells #[.int .i64 xa, .int .u64 xb, .int .u64 xc, .int .i64 xd] TLine)) w.heap.size TLine [.int .i64 xa, .int .u64 xb, .int .u64 xc, .int .i64 xd]) := Rw.new w [.int .i64 xa, .int .u64 xb, .int .u64 xc, .int .i64 xd] TLine
  have HCAP := Lib.hid hcap
  have HL := Lib.hid hl
  clear h hlns hky hcap hl
  go_enter Try.func61, Try.ntmps61
  go_upto_region 1 with (fail)
  obtain ⟨lo, hlo⟩ : ∃ lo, lo = w.heap.size := ⟨_, rfl⟩
  have HLO := Lib.hid hlo
  rw [← hlo] at B0 R0 ⊢
  clear hlo
  generalize w.alloc (.cells #[.int .i64 xa, .int .u64 xb, .int .u64 xc, .int .i64 xd] TLine) = W0 at B0 R0 ⊢
  rename_i K0 hK0
  have HK0 := Lib.hid hK0
  clear hK0
  go_cut [5] (fun s5 wx => s5 = .int .i64 0 ∧ wx = W0)
  case first =>
    go_wp2_with fail
    go_meet
    exact ⟨rfl, rfl⟩
  obtain ⟨rfl, rfl⟩ := hcut
  apply HK0.out
  refine wp_seq_k (fun K5 hK5 => ?_)
  go_cut [5] (fun s5 wx => s5 = .int .i64 (placeL T ky : Int) ∧ Hid (Below lo w wx) ∧ Hid (Rw wx lo TLine [.int .i64 xa, .int .u64 xb, .int .u64 xc, .int .i64 xd]))
  case first =>
    go_wp2_with fail
    go_loopg [5] T.length (fun kx s5 wr => ∃ i : Nat, s5 = .int .i64 (i : Int) ∧ i ≤ T.length ∧ Hid (Below lo w wr) ∧ Hid (Rw wr lo TLine [.int .i64 xa, .int .u64 xb, .int .u64 xc, .int .i64 xd]) ∧ Hid (∀ j (h : j < T.length), j < i → klt T[j].key ky) ∧ T.length ≤ i + kx)
    case atStart => exact ⟨0, rfl, Nat.zero_le _, B0.out, R0.out, fun j _ hj => by omega, by omega⟩
    case round =>
      obtain ⟨i, rfl, hi9, HB, RX, HJ, hkx⟩ := hrel
      by_cases hlt : i < T.length
      · obtain ⟨ab, ao, rfl, hab, hc⟩ := (HLN.out.later (by rw [← HLO.out]; exact HB.out)) i hlt
        have HAB := Lib.hid hab
        have c0 := hc 0 _ rfl
        have c1 := hc 1 _ rfl
        have c2 := hc 2 _ rfl
        have c3 := hc 3 _ rfl
        have HPL : Hid (¬ klt T[i].key ky → i = placeL T ky) := fun hn => placeL_eq HJ.out hi9 fun _ => hn
        have HJ2 : Hid (klt T[i].key ky → ∀ j (h : j < T.length), j < i + 1 → klt T[j].key ky) := fun hn j hj hji => by
          by_cases e : j = i
          · subst e; exact hn
          · exact HJ.out j hj (by omega)
        obtain ⟨y, hy⟩ : ∃ y, y = T[i] := ⟨_, rfl⟩
        rw [← hy] at c0 c1 c2 c3 HPL HJ2
        have KL1 := Lib.hid (KL.out y)
        obtain ⟨q, hq⟩ : ∃ q, q = decide (klt y.key ky) := ⟨_, rfl⟩
        rw [← hq] at KL1
        have HQ := Lib.hid hq
        have j0 : (0 : Int) ≤ (i : Int) := by omega
        have j1 : (i : Int) < (T.length : Int) := by omega
        have j2 : T.length ≤ 1000 := HL.out
        have HLT := Lib.hid hlt
        have HKX := Lib.hid hkx
        rw [Nat.add_zero] at c0
        clear hc hy hq hlt hkx HJ hab
        obtain ⟨ya, yb, yc, yd⟩ := y
        simp only at c0 c1 c2 c3 KL1
        have C0 := Lib.hid c0
        have C1 := Lib.hid c1
        have C2 := Lib.hid c2
        have C3 := Lib.hid c3
        clear c0 c1 c2 c3
        have HSK : Hid (∀ u u', (ab < u.heap.size ∧ u.cell? ⟨ab, ao + i * 4, none⟩ = some (.int .i64 ya) ∧ u.cell? ⟨ab, ao + i * 4 + 1, none⟩ = some (.int .u64 yb) ∧ u.cell? ⟨ab, ao + i * 4 + 2, none⟩ = some (.int .u64 yc) ∧ u.cell? ⟨ab, ao + i * 4 + 3, none⟩ = some (.int .i64 yd) ∧ lo < u.heap.size ∧ u.cell? ⟨lo, 0, none⟩ = some (.int .i64 xa) ∧ u.cell? ⟨lo, 1, none⟩ = some (.int .u64 xb) ∧ u.cell? ⟨lo, 2, none⟩ = some (.int .u64 xc) ∧ u.cell? ⟨lo, 3, none⟩ = some (.int .i64 xd)) → Below u.heap.size u u' → (ab < u'.heap.size ∧ u'.cell? ⟨ab, ao + i * 4, none⟩ = some (.int .i64 ya) ∧ u'.cell? ⟨ab, ao + i * 4 + 1, none⟩ = some (.int .u64 yb) ∧ u'.cell? ⟨ab, ao + i * 4 + 2, none⟩ = some (.int .u64 yc) ∧ u'.cell? ⟨ab, ao + i * 4 + 3, none⟩ = some (.int .i64 yd) ∧ lo < u'.heap.size ∧ u'.cell? ⟨lo, 0, none⟩ = some (.int .i64 xa) ∧ u'.cell? ⟨lo, 1, none⟩ = some (.int .u64 xb) ∧ u'.cell? ⟨lo, 2, none⟩ = some (.int .u64 xc) ∧ u'.cell? ⟨lo, 3, none⟩ = some (.int .i64 xd))) := by
          rintro u u' ⟨h0, h1, h2, h3, h4, g0, g1, g2, g3, g4⟩ hb
          exact ⟨Nat.lt_of_lt_of_le h0 hb.size, by rw [hb.cell h0]; exact h1, by rw [hb.cell h0]; exact h2, by rw [hb.cell h0]; exact h3, by rw [hb.cell h0]; exact h4, Nat.lt_of_lt_of_le g0 hb.size, by rw [hb.cell g0]; exact g1, by rw [hb.cell g0]; exact g2, by rw [hb.cell g0]; exact g3, by rw [hb.cell g0]; exact g4⟩
        go_upto_region 2 with (fail)
        refine wp_region_held_drew (S := (fun u => (ab < u.heap.size ∧ u.cell? ⟨ab, ao + i * 4, none⟩ = some (.int .i64 ya) ∧ u.cell? ⟨ab, ao + i * 4 + 1, none⟩ = some (.int .u64 yb) ∧ u.cell? ⟨ab, ao + i * 4 + 2, none⟩ = some (.int .u64 yc) ∧ u.cell? ⟨ab, ao + i * 4 + 3, none⟩ = some (.int .i64 yd) ∧ lo < u.heap.size ∧ u.cell? ⟨lo, 0, none⟩ = some (.int .i64 xa) ∧ u.cell? ⟨lo, 1, none⟩ = some (.int .u64 xb) ∧ u.cell? ⟨lo, 2, none⟩ = some (.int .u64 xc) ∧ u.cell? ⟨lo, 3, none⟩ = some (.int .i64 xd)))) (by kernel_rfl) ?_ (fun hHeld => ?_)
        · exact ⟨HAB.out, C0.out, C1.out, C2.out, C3.out, RX.out.lt, RX.out.cell 0, RX.out.cell 1, RX.out.cell 2, RX.out.cell 3⟩
        refine wpAnyH_take (i := 0) (oi := { dst := some 7, op := Op.move (Operand.tmp 5), type := 3, pos := "ref.go:88", after := #[], guard := none }) (v := (.int .i64 (i : Int))) rfl (by kernel_rfl) (by kernel_rfl) (by kernel_rfl) (fun _ _ _ h => h) (Or.inl ⟨by rfl, ?_⟩) hHeld ?_
        · rintro u ⟨h0, h1, h2, h3, h4, g0, g1, g2, g3, g4⟩
          go_simp <;> first | rfl | kernel_rfl
        try simp only [Act.put, List.setIfInBounds_toArray, List.set_cons_zero, List.set_cons_succ]
        refine wpAnyH_take (i := 1) (oi := { dst := some 8, op := Op.move (Operand.tmp 0), type := 23, pos := "ref.go:88", after := #[], guard := none }) (v := (.slice (some ⟨ab, ao, none⟩) T.length vc)) rfl (by kernel_rfl) (by kernel_rfl) (by kernel_rfl) (fun _ _ _ h => h) (Or.inl ⟨by rfl, ?_⟩) hHeld ?_
        · rintro u ⟨h0, h1, h2, h3, h4, g0, g1, g2, g3, g4⟩
          go_simp <;> first | rfl | kernel_rfl
        try simp only [Act.put, List.setIfInBounds_toArray, List.set_cons_zero, List.set_cons_succ]
        refine wpAnyH_take (i := 2) (oi := { dst := some 9, op := Op.call { callee := Callee.builtin Builtin.len, args := #[Operand.tmp 8], argTypes := #[23] }, type := 3, pos := "ref.go:88", after := #[{ on := 1, ground := Ground.data }], guard := none }) (v := (.int .i64 (T.length : Int))) rfl (by kernel_rfl) (by kernel_rfl) (by kernel_rfl) (fun _ _ _ h => h) (Or.inl ⟨by rfl, ?_⟩) hHeld ?_
        · rintro u ⟨h0, h1, h2, h3, h4, g0, g1, g2, g3, g4⟩
          go_simp <;> first | rfl | kernel_rfl
        try simp only [Act.put, List.setIfInBounds_toArray, List.set_cons_zero, List.set_cons_succ]
        refine wpAnyH_take (i := 3) (oi := { dst := some 10, op := Op.binOp BinOp.lss 3 (Operand.tmp 7) (Operand.tmp 9) 3, type := 4, pos := "ref.go:88", after := #[{ on := 0, ground := Ground.data }, { on := 2, ground := Ground.data }], guard := none }) (v := (.bool true)) rfl (by kernel_rfl) (by kernel_rfl) (by kernel_rfl) (fun _ _ _ h => h) (Or.inl ⟨by rfl, ?_⟩) hHeld ?_
        · rintro u ⟨h0, h1, h2, h3, h4, g0, g1, g2, g3, g4⟩
          go_simp <;> first | rfl | kernel_rfl
        try simp only [Act.put, List.setIfInBounds_toArray, List.set_cons_zero, List.set_cons_succ]
        refine wpAnyH_take (i := 4) (oi := { dst := some 11, op := Op.move (Operand.tmp 10), type := 4, pos := "ref.go:88", after := #[{ on := 3, ground := Ground.data }], guard := none }) (v := (.bool true)) rfl (by kernel_rfl) (by kernel_rfl) (by kernel_rfl) (fun _ _ _ h => h) (Or.inl ⟨by rfl, ?_⟩) hHeld ?_
        · rintro u ⟨h0, h1, h2, h3, h4, g0, g1, g2, g3, g4⟩
          go_simp <;> first | rfl | kernel_rfl
        try simp only [Act.put, List.setIfInBounds_toArray, List.set_cons_zero, List.set_cons_succ]
        refine wpAnyH_take (i := 5) (oi := { dst := some 12, op := Op.move (Operand.tmp 0), type := 23, pos := "ref.go:88", after := #[{ on := 4, ground := Ground.guard }], guard := some (4, true) }) (v := (.slice (some ⟨ab, ao, none⟩) T.length vc)) rfl (by kernel_rfl) (by kernel_rfl) (by kernel_rfl) (fun _ _ _ h => h) (Or.inl ⟨by rfl, ?_⟩) hHeld ?_
        · rintro u ⟨h0, h1, h2, h3, h4, g0, g1, g2, g3, g4⟩
          go_simp <;> first | rfl | kernel_rfl
        try simp only [Act.put, List.setIfInBounds_toArray, List.set_cons_zero, List.set_cons_succ]
        refine wpAnyH_take (i := 6) (oi := { dst := some 13, op := Op.move (Operand.tmp 5), type := 3, pos := "ref.go:88", after := #[{ on := 4, ground := Ground.guard }], guard := some (4, true) }) (v := (.int .i64 (i : Int))) rfl (by kernel_rfl) (by kernel_rfl) (by kernel_rfl) (fun _ _ _ h => h) (Or.inl ⟨by rfl, ?_⟩) hHeld ?_
        · rintro u ⟨h0, h1, h2, h3, h4, g0, g1, g2, g3, g4⟩
          go_simp <;> first | rfl | kernel_rfl
        try simp only [Act.put, List.setIfInBounds_toArray, List.set_cons_zero, List.set_cons_succ]
        refine wpAnyH_take (i := 7) (oi := { dst := some 14, op := Op.indexAddr 23 (Operand.tmp 12) (Operand.tmp 13), type := 0, pos := "ref.go:88", after := #[{ on := 5, ground := Ground.data }, { on := 6, ground := Ground.data }, { on := 4, ground := Ground.guard }], guard := some (4, true) }) (v := (.pointer (some ⟨ab, ao + i * 4, none⟩))) rfl (by kernel_rfl) (by kernel_rfl) (by kernel_rfl) (fun _ _ _ h => h) (Or.inl ⟨by rfl, ?_⟩) hHeld ?_
        · rintro u ⟨h0, h1, h2, h3, h4, g0, g1, g2, g3, g4⟩
          go_simp <;> first | rfl | kernel_rfl
        try simp only [Act.put, List.setIfInBounds_toArray, List.set_cons_zero, List.set_cons_succ]
        refine wpAnyH_take (i := 8) (oi := { dst := some 15, op := Op.load 67 (Operand.tmp 14), type := 67, pos := "ref.go:88", after := #[{ on := 7, ground := Ground.data }, { on := 4, ground := Ground.guard }], guard := some (4, true) }) (v := (.agg #[.int .i64 ya, .int .u64 yb, .int .u64 yc, .int .i64 yd])) rfl (by kernel_rfl) (by kernel_rfl) (by kernel_rfl) (fun _ _ _ h => h) (Or.inl ⟨by rfl, ?_⟩) hHeld ?_
        · rintro u ⟨h0, h1, h2, h3, h4, g0, g1, g2, g3, g4⟩
          go_simp <;> first | rfl | kernel_rfl
        try simp only [Act.put, List.setIfInBounds_toArray, List.set_cons_zero, List.set_cons_succ]
        refine wpAnyH_take (i := 9) (oi := { dst := some 16, op := Op.load 67 (Operand.tmp 3), type := 67, pos := "ref.go:88", after := #[{ on := 4, ground := Ground.guard }], guard := some (4, true) }) (v := (.agg #[.int .i64 xa, .int .u64 xb, .int .u64 xc, .int .i64 xd])) rfl (by kernel_rfl) (by kernel_rfl) (by kernel_rfl) (fun _ _ _ h => h) (Or.inl ⟨by rfl, ?_⟩) hHeld ?_
        · rintro u ⟨h0, h1, h2, h3, h4, g0, g1, g2, g3, g4⟩
          go_simp <;> first | rfl | kernel_rfl
        try simp only [Act.put, List.setIfInBounds_toArray, List.set_cons_zero, List.set_cons_succ]
        refine wpAnyH_ready (rs := [10]) (by kernel_rfl) (by simp) ?_
        refine AllReadyH.cons (o := { dst := some 17, op := Op.call { callee := Callee.value (Operand.func 29), args := #[Operand.tmp 15, Operand.tmp 16], argTypes := #[67, 67] }, type := 4, pos := "ref.go:88", after := #[{ on := 8, ground := Ground.data }, { on := 9, ground := Ground.data }, { on := 4, ground := Ground.chain }, { on := 4, ground := Ground.guard }], guard := some (4, true) }) rfl (fun Kq hKq => ?_) AllReadyH.nil
        go_simp
        refine (KL1.out _).mono ?_
        rintro _ V1 ⟨rfl, hb1⟩
        go_simp
        refine hKq.out _ _ ((HSK.out _ _ hHeld hb1)) (fun hHeld10 => ?_)
        clear hKq Kq
        try simp only [Act.put, List.setIfInBounds_toArray, List.set_cons_zero, List.set_cons_succ]
        refine wpAnyH_take (i := 11) (oi := { dst := some 18, op := Op.pick (Operand.tmp 11) (Operand.tmp 17) (Operand.const (Value.bool false)), type := 4, pos := "ref.go:88", after := #[{ on := 4, ground := Ground.data }, { on := 10, ground := Ground.data }], guard := none }) (v := (.bool q)) rfl (by kernel_rfl) (by kernel_rfl) (by kernel_rfl) (fun _ _ _ h => h) (Or.inl ⟨by rfl, ?_⟩) hHeld10 ?_
        · rintro u ⟨h0, h1, h2, h3, h4, g0, g1, g2, g3, g4⟩
          go_simp <;> first | rfl | kernel_rfl
        try simp only [Act.put, List.setIfInBounds_toArray, List.set_cons_zero, List.set_cons_succ]
        have hHeldE := hHeld10
        refine wpAnyH_done (by kernel_rfl) ?_ _
        have HB2 : Hid (Below lo w V1) := HB.out.drew.trans (hb1.mono (by rw [HLO.out]; exact HB.out.size))
        have RX2 := Lib.hid (Rw.later (w := wr.drew) RX.out.drew hb1)
        clear hb1 HB RX HSK C0 C1 C2 C3 hHeldE
        cases q with
        | false =>
          have hpl := Lib.hid (HPL.out (of_decide_eq_false HQ.out.symm))
          go_wp2_with fail
          go_meet
          exact ⟨by rw [hpl.out], HB2, RX2⟩
        | true =>
          have HJ3 := Lib.hid (HJ2.out (of_decide_eq_true HQ.out.symm))
          go_wp2_with fail
          have hlt := HLT.out
          have hkx := HKX.out
          go_roundg (T.length - (i + 1))
          case measure => omega
          case rel => exact ⟨i + 1, by simp, by omega, HB2, RX2, HJ3, by omega⟩
      · have hpl : Hid (i = placeL T ky) := placeL_eq HJ.out hi9 fun h => absurd h hlt
        have hd : decide ((i : Int) < (T.length : Int)) = false := decide_eq_false (by omega)
        have HB2 : Hid (Below lo w wr.drew) := HB.out.drew
        have RX2 : Hid (Rw wr.drew lo TLine [.int .i64 xa, .int .u64 xb, .int .u64 xc, .int .i64 xd]) := RX.out.drew
        clear HJ
        go_upto_region 2 with (fail)
        refine wp_region_held_drew (S := (fun _ => True)) (by kernel_rfl) ?_ (fun hHeld => ?_)
        · trivial
        refine wpAnyH_take (i := 0) (oi := { dst := some 7, op := Op.move (Operand.tmp 5), type := 3, pos := "ref.go:88", after := #[], guard := none }) (v := (.int .i64 (i : Int))) rfl (by kernel_rfl) (by kernel_rfl) (by kernel_rfl) (fun _ _ _ h => h) (Or.inl ⟨by rfl, ?_⟩) hHeld ?_
        · rintro u _
          go_simp <;> first | exact hd | rfl | kernel_rfl
        try simp only [Act.put, List.setIfInBounds_toArray, List.set_cons_zero, List.set_cons_succ]
        refine wpAnyH_take (i := 1) (oi := { dst := some 8, op := Op.move (Operand.tmp 0), type := 23, pos := "ref.go:88", after := #[], guard := none }) (v := (.slice va T.length vc)) rfl (by kernel_rfl) (by kernel_rfl) (by kernel_rfl) (fun _ _ _ h => h) (Or.inl ⟨by rfl, ?_⟩) hHeld ?_
        · rintro u _
          go_simp <;> first | exact hd | rfl | kernel_rfl
        try simp only [Act.put, List.setIfInBounds_toArray, List.set_cons_zero, List.set_cons_succ]
        refine wpAnyH_take (i := 2) (oi := { dst := some 9, op := Op.call { callee := Callee.builtin Builtin.len, args := #[Operand.tmp 8], argTypes := #[23] }, type := 3, pos := "ref.go:88", after := #[{ on := 1, ground := Ground.data }], guard := none }) (v := (.int .i64 (T.length : Int))) rfl (by kernel_rfl) (by kernel_rfl) (by kernel_rfl) (fun _ _ _ h => h) (Or.inl ⟨by rfl, ?_⟩) hHeld ?_
        · rintro u _
          go_simp <;> first | exact hd | rfl | kernel_rfl
        try simp only [Act.put, List.setIfInBounds_toArray, List.set_cons_zero, List.set_cons_succ]
        refine wpAnyH_take (i := 3) (oi := { dst := some 10, op := Op.binOp BinOp.lss 3 (Operand.tmp 7) (Operand.tmp 9) 3, type := 4, pos := "ref.go:88", after := #[{ on := 0, ground := Ground.data }, { on := 2, ground := Ground.data }], guard := none }) (v := (.bool false)) rfl (by kernel_rfl) (by kernel_rfl) (by kernel_rfl) (fun _ _ _ h => h) (Or.inl ⟨by rfl, ?_⟩) hHeld ?_
        · rintro u _
          go_simp <;> first | exact hd | rfl | kernel_rfl
        try simp only [Act.put, List.setIfInBounds_toArray, List.set_cons_zero, List.set_cons_succ]
        refine wpAnyH_take (i := 4) (oi := { dst := some 11, op := Op.move (Operand.tmp 10), type := 4, pos := "ref.go:88", after := #[{ on := 3, ground := Ground.data }], guard := none }) (v := (.bool false)) rfl (by kernel_rfl) (by kernel_rfl) (by kernel_rfl) (fun _ _ _ h => h) (Or.inl ⟨by rfl, ?_⟩) hHeld ?_
        · rintro u _
          go_simp <;> first | exact hd | rfl | kernel_rfl
        try simp only [Act.put, List.setIfInBounds_toArray, List.set_cons_zero, List.set_cons_succ]
        refine wpAnyH_take (i := 5) (oi := { dst := some 12, op := Op.move (Operand.tmp 0), type := 23, pos := "ref.go:88", after := #[{ on := 4, ground := Ground.guard }], guard := some (4, true) }) (v := undef) rfl (by kernel_rfl) (by kernel_rfl) (by kernel_rfl) (fun _ _ _ h => h) (Or.inr ⟨by rfl, rfl⟩) hHeld ?_
        try simp only [Act.put, List.setIfInBounds_toArray, List.set_cons_zero, List.set_cons_succ]
        refine wpAnyH_take (i := 6) (oi := { dst := some 13, op := Op.move (Operand.tmp 5), type := 3, pos := "ref.go:88", after := #[{ on := 4, ground := Ground.guard }], guard := some (4, true) }) (v := undef) rfl (by kernel_rfl) (by kernel_rfl) (by kernel_rfl) (fun _ _ _ h => h) (Or.inr ⟨by rfl, rfl⟩) hHeld ?_
        try simp only [Act.put, List.setIfInBounds_toArray, List.set_cons_zero, List.set_cons_succ]
        refine wpAnyH_take (i := 7) (oi := { dst := some 14, op := Op.indexAddr 23 (Operand.tmp 12) (Operand.tmp 13), type := 0, pos := "ref.go:88", after := #[{ on := 5, ground := Ground.data }, { on := 6, ground := Ground.data }, { on := 4, ground := Ground.guard }], guard := some (4, true) }) (v := undef) rfl (by kernel_rfl) (by kernel_rfl) (by kernel_rfl) (fun _ _ _ h => h) (Or.inr ⟨by rfl, rfl⟩) hHeld ?_
        try simp only [Act.put, List.setIfInBounds_toArray, List.set_cons_zero, List.set_cons_succ]
        refine wpAnyH_take (i := 8) (oi := { dst := some 15, op := Op.load 67 (Operand.tmp 14), type := 67, pos := "ref.go:88", after := #[{ on := 7, ground := Ground.data }, { on := 4, ground := Ground.guard }], guard := some (4, true) }) (v := undef) rfl (by kernel_rfl) (by kernel_rfl) (by kernel_rfl) (fun _ _ _ h => h) (Or.inr ⟨by rfl, rfl⟩) hHeld ?_
        try simp only [Act.put, List.setIfInBounds_toArray, List.set_cons_zero, List.set_cons_succ]
        refine wpAnyH_take (i := 9) (oi := { dst := some 16, op := Op.load 67 (Operand.tmp 3), type := 67, pos := "ref.go:88", after := #[{ on := 4, ground := Ground.guard }], guard := some (4, true) }) (v := undef) rfl (by kernel_rfl) (by kernel_rfl) (by kernel_rfl) (fun _ _ _ h => h) (Or.inr ⟨by rfl, rfl⟩) hHeld ?_
        try simp only [Act.put, List.setIfInBounds_toArray, List.set_cons_zero, List.set_cons_succ]
        refine wpAnyH_take (i := 10) (oi := { dst := some 17, op := Op.call { callee := Callee.value (Operand.func 29), args := #[Operand.tmp 15, Operand.tmp 16], argTypes := #[67, 67] }, type := 4, pos := "ref.go:88", after := #[{ on := 8, ground := Ground.data }, { on := 9, ground := Ground.data }, { on := 4, ground := Ground.chain }, { on := 4, ground := Ground.guard }], guard := some (4, true) }) (v := undef) rfl (by kernel_rfl) (by kernel_rfl) (by kernel_rfl) (fun _ _ _ h => h) (Or.inr ⟨by rfl, rfl⟩) hHeld ?_
        try simp only [Act.put, List.setIfInBounds_toArray, List.set_cons_zero, List.set_cons_succ]
        refine wpAnyH_take (i := 11) (oi := { dst := some 18, op := Op.pick (Operand.tmp 11) (Operand.tmp 17) (Operand.const (Value.bool false)), type := 4, pos := "ref.go:88", after := #[{ on := 4, ground := Ground.data }, { on := 10, ground := Ground.data }], guard := none }) (v := (.bool false)) rfl (by kernel_rfl) (by kernel_rfl) (by kernel_rfl) (fun _ _ _ h => h) (Or.inl ⟨by rfl, ?_⟩) hHeld ?_
        · rintro u _
          go_simp <;> first | exact hd | rfl | kernel_rfl
        try simp only [Act.put, List.setIfInBounds_toArray, List.set_cons_zero, List.set_cons_succ]
        refine wpAnyH_done (by kernel_rfl) ?_ _
        go_wp2_with fail
        go_meet
        exact ⟨by rw [hpl.out], HB2, RX2⟩
  obtain ⟨rfl, HB1, RB1⟩ := hcut
  generalize wc = W1 at HB1 RB1 ⊢
  apply hK5
  clear hK5 B0 R0 KL
  have HPL : Hid (placeL T ky ≤ T.length) := placeL_le T ky
  obtain ⟨i, hi⟩ : ∃ i, i = placeL T ky := ⟨_, rfl⟩
  rw [← hi] at HPL ⊢
  have HI := Lib.hid hi
  clear hi
  have hs1 : w.heap.size ≤ W1.heap.size := HB1.out.size
  have LT : Hid (flatL (T.take i) = (flatL T).take (i * 4)) := by
    show _ = _
    have e : flatL T = flatL (T.take i) ++ flatL (T.drop i) := by rw [← flatL_app, List.take_append_drop]
    rw [e, List.take_left']
    rw [flatL_len, List.length_take, Nat.min_eq_left HPL.out]
  have LD : Hid (flatL (T.drop i) = (flatL T).drop (i * 4)) := by
    show _ = _
    have e : flatL T = flatL (T.take i) ++ flatL (T.drop i) := by rw [← flatL_app, List.take_append_drop]
    rw [e, List.drop_left']
    rw [flatL_len, List.length_take, Nat.min_eq_left HPL.out]
  have HEND : Hid (∀ (v' : Value) (w' w2 : World) (v2 : Value), Below lo w w2 → w2.ownsRow lo TLine 4 v2 (i + 1) (flatL (T.take i) ++ [.int .i64 xa, .int .u64 xb, .int .u64 xc, .int .i64 xd]) → w'.ownsRow lo TLine 4 v' (i + 1 + (T.length - i)) (flatL (T.take i) ++ [.int .i64 xa, .int .u64 xb, .int .u64 xc, .int .i64 xd] ++ flatL (T.drop i)) → w2.grownBy w' v2.ownBlock → w'.ownsRow w.heap.size TLine 4 v' (T.length + 1) (flatL (insL T (placeL T ky) ⟨xa, xb, xc, xd⟩)) ∧ Below w.heap.size w w') := by
    intro v' w' w2 v2 hb ho2 ho hg
    rw [← HI.out]
    refine ⟨?_, ?_⟩
    · have e1 : i + 1 + (T.length - i) = T.length + 1 := by have := HPL.out; omega
      rw [e1] at ho
      rw [← HLO.out]
      have e2 : flatL (insL T i ⟨xa, xb, xc, xd⟩) = flatL (T.take i) ++ [.int .i64 xa, .int .u64 xb, .int .u64 xc, .int .i64 xd] ++ flatL (T.drop i) := by
        unfold insL
        rw [flatL_app, List.append_assoc]
        rfl
      rw [e2]
      exact ho
    · rw [← HLO.out]
      exact hb.grown hg (by rw [HLO.out]; exact hb.size) fun j hj => (ho2.lt j hj).1
  rw [HLO.out] at HEND
  rw [HLO.out] at RB1 HB1
  rw [HLO.out]
  have HT9 : T.length ≤ 1000 := HL.out
  have hipl : i ≤ T.length := HPL.out
  rcases id H.out.2 with ⟨hv0, h0⟩ | ⟨g, cap, cur, hv, hg1, hg2, _⟩
  · obtain ⟨rfl, hKL, rfl⟩ : va = none ∧ T.length = 0 ∧ vc = 0 := by simpa using hv0
    obtain rfl : T = [] := List.length_eq_zero_iff.1 hKL
    obtain rfl : i = 0 := by simpa using hipl
    have HE2 : Hid (flatL (List.take 0 ([] : List Ln)) = [] ∧ flatL (List.drop 0 ([] : List Ln)) = [] ∧ 0 + 1 + (([] : List Ln).length - 0) = 1) := ⟨rfl, rfl, rfl⟩
    simp only [List.length_nil]
    clear hv0 h0 hKL hipl HT9
    go_wp2_with (at_builtin; refine Ch.wpList_append_any rfl _ _ TLines rfl w.heap.size TLine i4 z4 4 32 Try.underlying23 hk0 hk1 hk2 hk3 hk4 (by decide) _ 0 [] rfl (Ch.own_zero _ _ _ _ hs1) _ 0 0 [] rfl (.inl ⟨rfl, rfl, rfl, rfl⟩) (by simp) (by unfold maxLen; omega) (by omega) (by simp; omega) ?_)
    intro v1 w1 hown1 hg1 hat1
    have HB2 : Hid (Below w.heap.size w w1) := (HB1.out.alloc hs1 _).grown hg1 (by simp; omega) (fun j hj => by cases hj; exact hs1)
    have HK2 : Hid (Below W1.heap.size W1 w1) := ((Below.refl _ W1).alloc (Nat.le_refl _) _).grown hg1 (by simp) (fun j hj => by cases hj; exact Nat.le_refl _)
    have RB2 := Lib.hid (RB1.out.later HK2.out)
    obtain ⟨a1, c1, rfl⟩ := own_any hown1
    have HO1 := Lib.hid hown1
    have hs2 : w.heap.size ≤ w1.heap.size := HB2.out.size
    have b0 : w1.cell? ⟨w.heap.size, 0, none⟩ = some (.int .i64 xa) := (RB2.out).cell 0
    have b1 : w1.cell? ⟨w.heap.size, 1, none⟩ = some (.int .u64 xb) := (RB2.out).cell 1
    have b2 : w1.cell? ⟨w.heap.size, 2, none⟩ = some (.int .u64 xc) := (RB2.out).cell 2
    have b3 : w1.cell? ⟨w.heap.size, 3, none⟩ = some (.int .i64 xd) := (RB2.out).cell 3
    clear hown1 hg1 hat1 HB1 RB1
    go_wp2_with (at_builtin; refine wpList_append_own_at _ rfl _ _ TLines rfl w.heap.size TLine i4 z4 4 32 Try.underlying23 hk0 hk1 hk2 hk3 hk4 (by decide) _ _ _ rfl (HO1.out.alloc _) ⟨w1.heap.size, 0, none⟩ 1 1 [.int .i64 xa, .int .u64 xb, .int .u64 xc, .int .i64 xd] rfl rfl (rw_news (Rw.new w1 [.int .i64 xa, .int .u64 xb, .int .u64 xc, .int .i64 xd] TLine)) (by simp [Value.oneCell']) (by unfold maxLen; omega) (by omega) (by simp; omega) ?_)
    intro v2 w2 hown2 hg2 hnil2 hat2
    have HB3 : Hid (Below w.heap.size w w2) := (HB2.out.alloc hs2 _).grown hg2 (by simp; omega) (fun j hj => (HO1.out.lt j hj).1)
    obtain ⟨a2, c2, rfl⟩ := own_any hown2
    have HO2 := Lib.hid hown2
    have hs3 : w.heap.size ≤ w2.heap.size := HB3.out.size
    clear hown2 hg2 hat2 hnil2 b0 b1 b2 b3 HB2 RB2 HK2
    go_wp2_with (at_builtin; refine Ch.wpList_append_any rfl _ _ TLines rfl w.heap.size TLine i4 z4 4 32 Try.underlying23 hk0 hk1 hk2 hk3 hk4 (by decide) _ _ _ rfl HO2.out _ _ _ [] rfl (.inl ⟨rfl, rfl, rfl, rfl⟩) (by simp) (by unfold maxLen; omega) (by omega) hs3 ?_)
    intro v3 w3 hown3 hg3 hat3
    have HZ := Lib.hid (HEND.out v3 w3 w2 _ HB3.out HO2.out (by simpa [flatL] using hown3) hg3)
    obtain ⟨a3, c3, rfl⟩ := own_any hown3
    clear hown3 hg3 hat3
    go_wp2_with fail
    go_ret
    exact ⟨_, rfl, HZ.out⟩
  · obtain ⟨rfl, rfl⟩ : va = some ⟨g, 0, none⟩ ∧ vc = cap := by simpa using hv
    clear hv hg2
    have HNW : Hid (∀ u, Below w.heap.size w u → ∀ j v, (flatL T)[j]? = some v → u.cell? ((⟨g, 0, none⟩ : Addr).add j) = some v) := fun u hu => lns_news (HLN.out.later hu)
    have q0 : (0 : Int) ≤ (i : Int) := by omega
    have q1 : (i : Int) ≤ (T.length : Int) := by omega
    have q2 : (i : Int) ≤ (vc : Int) := by have := HCAP.out; omega
    have q3 : (T.length : Int) ≤ (vc : Int) := by have := HCAP.out; omega
    go_wp2_with (at_builtin; refine Ch.wpList_append_any rfl _ _ TLines rfl w.heap.size TLine i4 z4 4 32 Try.underlying23 hk0 hk1 hk2 hk3 hk4 (by decide) _ 0 [] rfl (Ch.own_zero _ _ _ _ hs1) _ i vc (flatL (T.take i)) rfl (.inr ⟨_, rfl, ?len1, ?rd1⟩) (flatL_one _) (by unfold maxLen; omega) (by omega) (by simp; omega) ?_)
    case len1 => rw [flatL_len, List.length_take, Nat.min_eq_left HPL.out]
    case rd1 =>
      intro j u hu
      rw [LT.out] at hu
      have hj := (List.getElem?_eq_some_iff.1 hu).1
      rw [List.length_take] at hj
      rw [List.getElem?_take_of_lt (by omega)] at hu
      exact HNW.out _ (HB1.out.alloc hs1 _) j u hu
    intro v1 w1 hown1 hg1 hat1
    have HB2 : Hid (Below w.heap.size w w1) := (HB1.out.alloc hs1 _).grown hg1 (by simp; omega) (fun j hj => by cases hj; exact hs1)
    have HK2 : Hid (Below W1.heap.size W1 w1) := ((Below.refl _ W1).alloc (Nat.le_refl _) _).grown hg1 (by simp) (fun j hj => by cases hj; exact Nat.le_refl _)
    have RB2 := Lib.hid (RB1.out.later HK2.out)
    obtain ⟨a1, c1, rfl⟩ := own_any hown1
    have HO1 := Lib.hid hown1
    have hs2 : w.heap.size ≤ w1.heap.size := HB2.out.size
    have b0 : w1.cell? ⟨w.heap.size, 0, none⟩ = some (.int .i64 xa) := (RB2.out).cell 0
    have b1 : w1.cell? ⟨w.heap.size, 1, none⟩ = some (.int .u64 xb) := (RB2.out).cell 1
    have b2 : w1.cell? ⟨w.heap.size, 2, none⟩ = some (.int .u64 xc) := (RB2.out).cell 2
    have b3 : w1.cell? ⟨w.heap.size, 3, none⟩ = some (.int .i64 xd) := (RB2.out).cell 3
    clear hown1 hg1 hat1 HB1 RB1
    go_wp2_with (at_builtin; refine wpList_append_own_at _ rfl _ _ TLines rfl w.heap.size TLine i4 z4 4 32 Try.underlying23 hk0 hk1 hk2 hk3 hk4 (by decide) _ _ _ rfl (HO1.out.alloc _) ⟨w1.heap.size, 0, none⟩ 1 1 [.int .i64 xa, .int .u64 xb, .int .u64 xc, .int .i64 xd] rfl rfl (rw_news (Rw.new w1 [.int .i64 xa, .int .u64 xb, .int .u64 xc, .int .i64 xd] TLine)) (by simp [Value.oneCell']) (by unfold maxLen; omega) (by omega) (by simp; omega) ?_)
    intro v2 w2 hown2 hg2 hnil2 hat2
    have HB3 : Hid (Below w.heap.size w w2) := (HB2.out.alloc hs2 _).grown hg2 (by simp; omega) (fun j hj => (HO1.out.lt j hj).1)
    obtain ⟨a2, c2, rfl⟩ := own_any hown2
    have HO2 := Lib.hid hown2
    have hs3 : w.heap.size ≤ w2.heap.size := HB3.out.size
    clear hown2 hg2 hat2 hnil2 b0 b1 b2 b3 HB2 RB2 HK2
    have HRD : Hid (∀ j u, (flatL T)[j]? = some u → w2.cell? ⟨g, j, none⟩ = some u) := fun j u hu => by
      have := HNW.out w2 HB3.out j u hu
      rwa [Addr.add_lit, Nat.zero_add] at this
    by_cases hvi : vc = i
    · have hKi : T.length - i = 0 := by have := HCAP.out; omega
      have LD0 : flatL (T.drop i) = [] := by
        have : T.drop i = [] := List.drop_eq_nil_of_le (by omega)
        rw [this]; rfl
      have HL0 := Lib.hid LD0
      have HKi := Lib.hid hKi
      clear LD0
      go_wp2_with (at_builtin; refine Ch.wpList_append_any rfl _ _ TLines rfl w.heap.size TLine i4 z4 4 32 Try.underlying23 hk0 hk1 hk2 hk3 hk4 (by decide) _ _ _ rfl HO2.out _ _ _ [] rfl (.inr ⟨_, rfl, ?len3, ?rd3⟩) (by simp) (by unfold maxLen; omega) (by omega) hs3 ?_)
      case len3 => simp
      case rd3 =>
        intro j u hu
        cases hu
      intro v3 w3 hown3 hg3 hat3
      have HZ := Lib.hid (HEND.out v3 w3 w2 _ HB3.out HO2.out (by rw [HL0.out, HKi.out]; simpa using hown3) hg3)
      obtain ⟨a3, c3, rfl⟩ := own_any hown3
      clear hown3 hg3 hat3
      go_wp2_with fail
      go_ret
      exact ⟨_, rfl, HZ.out⟩
    · have hvi' : (vc - i == 0) = false := by have := HCAP.out; simp; omega
      go_wp2_with (at_builtin; refine Ch.wpList_append_any rfl _ _ TLines rfl w.heap.size TLine i4 z4 4 32 Try.underlying23 hk0 hk1 hk2 hk3 hk4 (by decide) _ _ _ rfl HO2.out _ (T.length - i) _ (flatL (T.drop i)) rfl (.inr ⟨_, rfl, ?len3, ?rd3⟩) (flatL_one _) (by unfold maxLen; omega) (by omega) hs3 ?_)
      case len3 => rw [flatL_len, List.length_drop]
      case rd3 =>
        intro j u hu
        rw [LD.out] at hu
        rw [List.getElem?_drop] at hu
        try rw [Go.WideShapes.add_plain]
        have := HRD.out _ u hu
        simpa using this
      intro v3 w3 hown3 hg3 hat3
      have HZ := Lib.hid (HEND.out v3 w3 w2 _ HB3.out HO2.out (by simpa using hown3) hg3)
      obtain ⟨a3, c3, rfl⟩ := own_any hown3
      clear hown3 hg3 hat3
      go_wp2_with fail
      go_ret
      exact ⟨_, rfl, HZ.out⟩
end
end Go.Proofs.Ytnblilonjpfdnaa.Jn
