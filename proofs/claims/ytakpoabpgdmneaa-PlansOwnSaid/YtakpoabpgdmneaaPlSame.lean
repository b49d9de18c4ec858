/- Package plans: the document's SameOne, Same. -/
import Derived.Test.YtakpoabpgdmneaaPlDoc
import Derived.Deep.LoopGhost
import Derived.BigQuiet
import Derived.Deep.QuietTactic
import Derived.Deep.DeepCutAuto
import Derived.Laws.StructEq
import Derived.Laws.Cover2
namespace Go.Proofs.Ytakpoabpgdmneaa.Pl
open Go Go.RowKit Ck Go.Maps
theorem price_eq (f am : Int) (u : World) : (binOp .neq TPrice (.agg #[.int .i64 f, .int .i64 am]) (.agg #[.int .i64 f, .int .i64 am])).run Try.prog u = .ok (.bool false) u := by
  have key : (Op.equalIn 10000 TPrice (.agg #[.int .i64 f, .int .i64 am]) (.agg #[.int .i64 f, .int .i64 am])).run Try.prog u = .ok true u := by
    have u3 := Try.underlying3
    have a3 := Try.isAgg3
    have z3 := Try.sizeOf3
    have u2 := Try.underlying2
    have a2 := Try.isAgg2
    have z2 := Try.sizeOf2
    have hS : Try.prog.underlying TPrice = some (.struct (Try.prog.fieldsOf TPrice)) := by kernel_rfl
    rw [show (10000 : Nat) = 9999 + 1 from rfl, run_equalIn_agg u 9999 TPrice _ _ hS (by kernel_rfl)]
    simp only [Program.fieldsOf, Try.underlying33]
    go_simp
  rw [run_neq_struct, key]
  rfl
set_option maxRecDepth 100000 in
set_option maxHeartbeats 1600000 in
theorem one_c (x : Pn) (a b : Option Addr) (ca cb : Nat) (w : World) (h : Prs w a x.ps) (h' : Prs w b x.ps) (hl : x.ps.length ≤ 1000000) : Calls Try.prog 25 #[x.val a ca, x.val b cb] w fun e w' => e = .returned (.bool true) ∧ Below w.heap.size w w' := by
  have H := Lib.hid h
  have H' := Lib.hid h'
  clear h h'
  obtain ⟨id, name, every, L, ret⟩ := x
  unfold Pn.val
  simp only at H H' hl ⊢
  have B0 : Hid (Below w.heap.size w ((w.alloc (.cells #[.int .u64 id, .string name, .int .i64 every, .slice a L.length ca, .int .i64 ret] TPlan)).alloc (.cells #[.int .u64 id, .string name, .int .i64 every, .slice b L.length cb, .int .i64 ret] TPlan))) := ((Below.refl _ w).alloc (Nat.le_refl _) _).alloc (by simp) _
  have R0 : Hid (Rw ((w.alloc (.cells #[.int .u64 id, .string name, .int .i64 every, .slice a L.length ca, .int .i64 ret] TPlan)).alloc (.cells #[.int .u64 id, .string name, .int .i64 every, .slice b L.length cb, .int .i64 ret] TPlan)) w.heap.size TPlan [.int .u64 id, .string name, .int .i64 every, .slice a L.length ca, .int .i64 ret]) := (Rw.new w [.int .u64 id, .string name, .int .i64 every, .slice a L.length ca, .int .i64 ret] TPlan).later ((Below.refl _ _).alloc (Nat.le_refl _) _)
  have P0 : Hid (Rw ((w.alloc (.cells #[.int .u64 id, .string name, .int .i64 every, .slice a L.length ca, .int .i64 ret] TPlan)).alloc (.cells #[.int .u64 id, .string name, .int .i64 every, .slice b L.length cb, .int .i64 ret] TPlan)) (w.heap.size + 1) TPlan [.int .u64 id, .string name, .int .i64 every, .slice b L.length cb, .int .i64 ret]) := by
    have := Rw.new (w.alloc (.cells #[.int .u64 id, .string name, .int .i64 every, .slice a L.length ca, .int .i64 ret] TPlan)) [.int .u64 id, .string name, .int .i64 every, .slice b L.length cb, .int .i64 ret] TPlan
    rwa [World.size_alloc] at this
  go_enter Try.func25, Try.ntmps25
  go_upto_region 1 with (fail)
  obtain ⟨b1, hb1⟩ : ∃ b1, b1 = w.heap.size := ⟨_, rfl⟩
  obtain ⟨b2, hb2⟩ : ∃ b2, b2 = w.heap.size + 1 := ⟨_, rfl⟩
  rw [← hb2] at P0 ⊢
  rw [← hb1] at R0
  generalize (w.alloc (.cells #[.int .u64 id, .string name, .int .i64 every, .slice a L.length ca, .int .i64 ret] TPlan)).alloc (.cells #[.int .u64 id, .string name, .int .i64 every, .slice b L.length cb, .int .i64 ret] TPlan) = W0 at B0 R0 P0 ⊢
  rw [← hb1]
  clear hb1 hb2
  have p0 : W0.cell? ⟨b1, 0, none⟩ = some (.int .u64 id) := R0.out.cell 0
  have p1 : W0.cell? ⟨b1, 1, none⟩ = some (.string name) := R0.out.cell 1
  have p2 : W0.cell? ⟨b1, 2, none⟩ = some (.int .i64 every) := R0.out.cell 2
  have p3 : W0.cell? ⟨b1, 3, none⟩ = some (.slice a L.length ca) := R0.out.cell 3
  have p4 : W0.cell? ⟨b1, 4, none⟩ = some (.int .i64 ret) := R0.out.cell 4
  have q0 : W0.cell? ⟨b2, 0, none⟩ = some (.int .u64 id) := P0.out.cell 0
  have q1 : W0.cell? ⟨b2, 1, none⟩ = some (.string name) := P0.out.cell 1
  have q2 : W0.cell? ⟨b2, 2, none⟩ = some (.int .i64 every) := P0.out.cell 2
  have q3 : W0.cell? ⟨b2, 3, none⟩ = some (.slice b L.length cb) := P0.out.cell 3
  have q4 : W0.cell? ⟨b2, 4, none⟩ = some (.int .i64 ret) := P0.out.cell 4
  go_upto_region 4 with (fail)
  clear p0 p1 p2 p4 q0 q1 q2 q4 p3 q3
  go_loopg [5] L.length (fun kx s5 wr => ∃ i : Nat, s5 = .int .i64 (i : Int) ∧ i ≤ L.length ∧ Hid (Below W0.heap.size W0 wr) ∧ L.length ≤ i + kx)
  case atStart => exact ⟨0, rfl, Nat.zero_le _, Below.refl _ _, by omega⟩
  case round =>
    obtain ⟨i, rfl, hi9, HB, hkx⟩ := hrel
    have p3 : wr.cell? ⟨b1, 3, none⟩ = some (.slice a L.length ca) := (R0.out.later HB.out).cell 3
    have q3 : wr.cell? ⟨b2, 3, none⟩ = some (.slice b L.length cb) := (P0.out.later HB.out).cell 3
    by_cases hlt : i < L.length
    · have HW : Hid (Below w.heap.size w wr) := B0.out.trans (HB.out.mono B0.out.size)
      obtain ⟨ab, ao, rfl, _, c0, c1⟩ := (H.out.later HW.out) i hlt
      obtain ⟨bb, bo, rfl, _, d0, d1⟩ := (H'.out.later HW.out) i hlt
      have j0 : (0 : Int) ≤ (i : Int) := by omega
      have j1 : (i : Int) < (L.length : Int) := by omega
      obtain ⟨x, hx⟩ : ∃ x, x = L[i] := ⟨_, rfl⟩
      rw [← hx] at c0 c1 d0 d1
      clear hx hlt
      obtain ⟨xf, xa⟩ := x
      simp only at c0 c1 d0 d1
      have heq := fun u => price_eq xf xa u
      go_wp2_with fail
      go_quiet (fail)
      go_wp2_with fail
      go_roundg (L.length - (i + 1))
      case measure => omega
      case rel => exact ⟨i + 1, by simp, by omega, below_drewN HB.out _, by omega⟩
    · obtain rfl : i = L.length := by omega
      clear hkx hlt hi9
      go_wp2_with fail
      go_ret
      exact ⟨rfl, B0.out.trans (HB.out.mono B0.out.size)⟩
/-- Two lists of the same plans. -/
theorem Doc.len {S : Nat → Prop} {w : World} {v : Value} {Q Q' : List Pf} (_ : Doc S w v Q) (e : Q.map (·.x) = Q'.map (·.x)) : Q.length = Q'.length := by
  have := congrArg List.length e
  simpa using this
set_option maxRecDepth 100000 in
set_option maxHeartbeats 1600000 in
theorem same_c {S S' : Nat → Prop} {w : World} {P Q : List Pf} {va vb : Option Addr} {ca cb : Nat} (h : Doc S w (.slice va P.length ca) P) (h' : Doc S' w (.slice vb Q.length cb) Q) (he : P.map (·.x) = Q.map (·.x)) (hl : ∀ p ∈ P, p.x.ps.length ≤ 1000000) (hP : P.length ≤ 1000000) : Calls Try.prog 21 #[.slice va P.length ca, .slice vb Q.length cb] w fun e w' => e = .returned (.bool true) ∧ Below w.heap.size w w' := by
  have H := Lib.hid h
  have H' := Lib.hid h'
  have hlen : P.length = Q.length := by
    have := congrArg List.length he
    simpa using this
  have HE := Lib.hid he
  have HL := Lib.hid hl
  have hlz : (P.length : Int) = (Q.length : Int) := by omega
  clear h h' he hl
  go_enter Try.func21, Try.ntmps21
  go_upto_region 4 with (fail)
  go_loopg [5] P.length (fun kx s5 wr => ∃ i : Nat, s5 = .int .i64 (i : Int) ∧ i ≤ P.length ∧ Hid (Below w.heap.size w wr) ∧ P.length ≤ i + kx)
  case atStart => exact ⟨0, rfl, Nat.zero_le _, Below.refl _ _, by omega⟩
  case round =>
    obtain ⟨i, rfl, hi9, HB, hkx⟩ := hrel
    by_cases hlt : i < P.length
    · have hlt' : i < Q.length := by omega
      obtain ⟨g, cap, hv, hf⟩ := H.out.five hlt
      obtain ⟨rfl, rfl⟩ : va = some ⟨g, 0, none⟩ ∧ ca = cap := by simpa using hv
      obtain ⟨g', cap', hv', hf'⟩ := H'.out.five hlt'
      obtain ⟨rfl, rfl⟩ : vb = some ⟨g', 0, none⟩ ∧ cb = cap' := by simpa using hv'
      have HX : Hid (P[i].x = Q[i].x) := by
        have := congrArg (fun l => l[i]?) HE.out
        simp [hlt, hlt'] at this
        exact this
      have HF : Hid (∀ u, Below wr.heap.size wr u → Five u g (i * 5) P[i]) := fun u hu => by
        obtain ⟨g1, c1, hv1, hf1⟩ := (H.out.later (HB.out.trans (hu.mono HB.out.size))).five hlt
        cases hv1
        exact hf1
      have HF' : Hid (∀ u, Below wr.heap.size wr u → Five u g' (i * 5) Q[i]) := fun u hu => by
        obtain ⟨g1, c1, hv1, hf1⟩ := (H'.out.later (HB.out.trans (hu.mono HB.out.size))).five hlt'
        cases hv1
        exact hf1
      have KS : Hid (∀ u, Below wr.heap.size wr u → Calls Try.prog 25 #[P[i].val, Q[i].val] u fun e w' => e = .returned (.bool true) ∧ Below u.heap.size u w') := fun u hu => by
        have a1 := ((H.out.later (HB.out.trans (hu.mono HB.out.size))).prs _ (List.getElem_mem hlt)).1
        have a2 := ((H'.out.later (HB.out.trans (hu.mono HB.out.size))).prs _ (List.getElem_mem hlt')).1
        rw [← HX.out] at a2
        have := one_c P[i].x P[i].a Q[i].a P[i].cap Q[i].cap u a1 a2 (HL.out _ (List.getElem_mem hlt))
        unfold Pf.val
        rw [← HX.out]
        exact this
      obtain ⟨p, hp⟩ : ∃ p, p = P[i] := ⟨_, rfl⟩
      obtain ⟨q, hq⟩ : ∃ q, q = Q[i] := ⟨_, rfl⟩
      rw [← hp] at HF KS
      rw [← hq] at HF' KS
      have j0 : (0 : Int) ≤ (i : Int) := by omega
      have j1 : (i : Int) < (P.length : Int) := by omega
      have j2 : (i : Int) < (Q.length : Int) := by omega
      clear hf hf' hv hv' hp hq HX hlt' hlt
      obtain ⟨⟨pid, pn, pe, pl, pr⟩, pa, pc⟩ := p
      obtain ⟨⟨qid, qn, qe, ql, qr⟩, qa, qc⟩ := q
      unfold Pf.val Pn.val at KS
      simp only at KS
      go_upto_region 6 with (fail)
      refine wp_region_held_drew (S := (fun u => u.cell? ⟨g, i * 5, none⟩ = some (.int .u64 pid) ∧ u.cell? ⟨g, i * 5 + 1, none⟩ = some (.string pn) ∧ u.cell? ⟨g, i * 5 + 2, none⟩ = some (.int .i64 pe) ∧ u.cell? ⟨g, i * 5 + 3, none⟩ = some (.slice pa pl.length pc) ∧ u.cell? ⟨g, i * 5 + 4, none⟩ = some (.int .i64 pr) ∧ u.cell? ⟨g', i * 5, none⟩ = some (.int .u64 qid) ∧ u.cell? ⟨g', i * 5 + 1, none⟩ = some (.string qn) ∧ u.cell? ⟨g', i * 5 + 2, none⟩ = some (.int .i64 qe) ∧ u.cell? ⟨g', i * 5 + 3, none⟩ = some (.slice qa ql.length qc) ∧ u.cell? ⟨g', i * 5 + 4, none⟩ = some (.int .i64 qr) ∧ Below wr.heap.size wr u)) (by kernel_rfl) ?_ (fun hHeld => ?_)
      · exact ⟨(HF.out _ (Below.refl _ wr).drew).c0, (HF.out _ (Below.refl _ wr).drew).c1, (HF.out _ (Below.refl _ wr).drew).c2, (HF.out _ (Below.refl _ wr).drew).c3, (HF.out _ (Below.refl _ wr).drew).c4, (HF'.out _ (Below.refl _ wr).drew).c0, (HF'.out _ (Below.refl _ wr).drew).c1, (HF'.out _ (Below.refl _ wr).drew).c2, (HF'.out _ (Below.refl _ wr).drew).c3, (HF'.out _ (Below.refl _ wr).drew).c4, (Below.refl _ wr).drew⟩
      refine wpAnyH_take (i := 0) (oi := { dst := some 17, op := Op.move (Operand.tmp 0), type := 27, pos := "ref.go:159", after := #[], guard := none }) (v := (.slice (some ⟨g, 0, none⟩) Q.length ca)) rfl (by kernel_rfl) (by kernel_rfl) (by kernel_rfl) (fun _ _ _ h => h) (Or.inl ⟨by rfl, ?_⟩) hHeld ?_
      · rintro u ⟨p0, p1, p2, p3, p4, r0, r1, r2, r3, r4, -⟩
        go_simp <;> first | rfl | kernel_rfl
      try simp only [Act.put, List.setIfInBounds_toArray, List.set_cons_zero, List.set_cons_succ]
      refine wpAnyH_take (i := 1) (oi := { dst := some 18, op := Op.move (Operand.tmp 5), type := 3, pos := "ref.go:159", after := #[], guard := none }) (v := (.int .i64 (i : Int))) rfl (by kernel_rfl) (by kernel_rfl) (by kernel_rfl) (fun _ _ _ h => h) (Or.inl ⟨by rfl, ?_⟩) hHeld ?_
      · rintro u ⟨p0, p1, p2, p3, p4, r0, r1, r2, r3, r4, -⟩
        go_simp <;> first | rfl | kernel_rfl
      try simp only [Act.put, List.setIfInBounds_toArray, List.set_cons_zero, List.set_cons_succ]
      refine wpAnyH_take (i := 2) (oi := { dst := some 19, op := Op.indexAddr 27 (Operand.tmp 17) (Operand.tmp 18), type := 0, pos := "ref.go:159", after := #[{ on := 0, ground := Ground.data }, { on := 1, ground := Ground.data }], guard := none }) (v := (.pointer (some ⟨g, i * 5, none⟩))) rfl (by kernel_rfl) (by kernel_rfl) (by kernel_rfl) (fun _ _ _ h => h) (Or.inl ⟨by rfl, ?_⟩) hHeld ?_
      · rintro u ⟨p0, p1, p2, p3, p4, r0, r1, r2, r3, r4, -⟩
        go_simp <;> first | rfl | kernel_rfl
      try simp only [Act.put, List.setIfInBounds_toArray, List.set_cons_zero, List.set_cons_succ]
      refine wpAnyH_take (i := 3) (oi := { dst := some 20, op := Op.load 31 (Operand.tmp 19), type := 31, pos := "ref.go:159", after := #[{ on := 2, ground := Ground.data }], guard := none }) (v := (.agg #[.int .u64 pid, .string pn, .int .i64 pe, .slice pa pl.length pc, .int .i64 pr])) rfl (by kernel_rfl) (by kernel_rfl) (by kernel_rfl) (fun _ _ _ h => h) (Or.inl ⟨by rfl, ?_⟩) hHeld ?_
      · rintro u ⟨p0, p1, p2, p3, p4, r0, r1, r2, r3, r4, -⟩
        go_simp <;> first | rfl | kernel_rfl
      try simp only [Act.put, List.setIfInBounds_toArray, List.set_cons_zero, List.set_cons_succ]
      refine wpAnyH_take (i := 4) (oi := { dst := some 21, op := Op.move (Operand.tmp 1), type := 27, pos := "ref.go:159", after := #[], guard := none }) (v := (.slice (some ⟨g', 0, none⟩) Q.length cb)) rfl (by kernel_rfl) (by kernel_rfl) (by kernel_rfl) (fun _ _ _ h => h) (Or.inl ⟨by rfl, ?_⟩) hHeld ?_
      · rintro u ⟨p0, p1, p2, p3, p4, r0, r1, r2, r3, r4, -⟩
        go_simp <;> first | rfl | kernel_rfl
      try simp only [Act.put, List.setIfInBounds_toArray, List.set_cons_zero, List.set_cons_succ]
      refine wpAnyH_take (i := 5) (oi := { dst := some 22, op := Op.move (Operand.tmp 5), type := 3, pos := "ref.go:159", after := #[], guard := none }) (v := (.int .i64 (i : Int))) rfl (by kernel_rfl) (by kernel_rfl) (by kernel_rfl) (fun _ _ _ h => h) (Or.inl ⟨by rfl, ?_⟩) hHeld ?_
      · rintro u ⟨p0, p1, p2, p3, p4, r0, r1, r2, r3, r4, -⟩
        go_simp <;> first | rfl | kernel_rfl
      try simp only [Act.put, List.setIfInBounds_toArray, List.set_cons_zero, List.set_cons_succ]
      refine wpAnyH_take (i := 6) (oi := { dst := some 23, op := Op.indexAddr 27 (Operand.tmp 21) (Operand.tmp 22), type := 0, pos := "ref.go:159", after := #[{ on := 4, ground := Ground.data }, { on := 5, ground := Ground.data }], guard := none }) (v := (.pointer (some ⟨g', i * 5, none⟩))) rfl (by kernel_rfl) (by kernel_rfl) (by kernel_rfl) (fun _ _ _ h => h) (Or.inl ⟨by rfl, ?_⟩) hHeld ?_
      · rintro u ⟨p0, p1, p2, p3, p4, r0, r1, r2, r3, r4, -⟩
        go_simp <;> first | rfl | kernel_rfl
      try simp only [Act.put, List.setIfInBounds_toArray, List.set_cons_zero, List.set_cons_succ]
      refine wpAnyH_take (i := 7) (oi := { dst := some 24, op := Op.load 31 (Operand.tmp 23), type := 31, pos := "ref.go:159", after := #[{ on := 6, ground := Ground.data }], guard := none }) (v := (.agg #[.int .u64 qid, .string qn, .int .i64 qe, .slice qa ql.length qc, .int .i64 qr])) rfl (by kernel_rfl) (by kernel_rfl) (by kernel_rfl) (fun _ _ _ h => h) (Or.inl ⟨by rfl, ?_⟩) hHeld ?_
      · rintro u ⟨p0, p1, p2, p3, p4, r0, r1, r2, r3, r4, -⟩
        go_simp <;> first | rfl | kernel_rfl
      try simp only [Act.put, List.setIfInBounds_toArray, List.set_cons_zero, List.set_cons_succ]
      refine wpAnyH_ready (rs := [8]) (by kernel_rfl) (by simp) ?_
      refine AllReadyH.cons (o := { dst := some 25, op := Op.call { callee := Callee.value (Operand.func 25), args := #[Operand.tmp 20, Operand.tmp 24], argTypes := #[31, 31] }, type := 4, pos := "ref.go:159", after := #[{ on := 3, ground := Ground.data }, { on := 7, ground := Ground.data }], guard := none }) rfl (fun Kq hKq => ?_) AllReadyH.nil
      go_simp
      refine (KS.out _ hHeld.2.2.2.2.2.2.2.2.2.2).mono ?_
      rintro e u2 ⟨rfl, hb2⟩
      have BU := Below.trans hHeld.2.2.2.2.2.2.2.2.2.2 (hb2.mono (Below.size hHeld.2.2.2.2.2.2.2.2.2.2))
      go_wp2_with fail
      refine hKq.out _ _ (⟨(HF.out _ BU).c0, (HF.out _ BU).c1, (HF.out _ BU).c2, (HF.out _ BU).c3, (HF.out _ BU).c4, (HF'.out _ BU).c0, (HF'.out _ BU).c1, (HF'.out _ BU).c2, (HF'.out _ BU).c3, (HF'.out _ BU).c4, BU⟩) (fun hHeld8 => ?_)
      clear hKq Kq
      try simp only [Act.put, List.setIfInBounds_toArray, List.set_cons_zero, List.set_cons_succ]
      refine wpAnyH_take (i := 9) (oi := { dst := some 26, op := Op.unOp UnOp.not 4 (Operand.tmp 25), type := 4, pos := "ref.go:159", after := #[{ on := 8, ground := Ground.data }], guard := none }) (v := (.bool false)) rfl (by kernel_rfl) (by kernel_rfl) (by kernel_rfl) (fun _ _ _ h => h) (Or.inl ⟨by rfl, ?_⟩) hHeld8 ?_
      · rintro u ⟨p0, p1, p2, p3, p4, r0, r1, r2, r3, r4, -⟩
        go_simp <;> first | rfl | kernel_rfl
      try simp only [Act.put, List.setIfInBounds_toArray, List.set_cons_zero, List.set_cons_succ]
      refine wpAnyH_done (by kernel_rfl) ?_ _
      go_wp2_with fail
      go_roundg (P.length - (i + 1))
      case measure => omega
      case rel => exact ⟨i + 1, by simp, by omega, HB.out.trans (BU.mono HB.out.size), by omega⟩
    · obtain rfl : i = P.length := by omega
      clear hkx hlt hi9
      go_wp2_with fail
      go_ret
      exact ⟨rfl, HB.out⟩
end Go.Proofs.Ytakpoabpgdmneaa.Pl
