/- Package plans: Reprice. -/
import Derived.Test.YtakpoabpgdmneaaPlRet
namespace Go.Proofs.Ytakpoabpgdmneaa.Pl
open Go Go.RowKit Ck Go.Maps
set_option maxRecDepth 100000 in
theorem rep_no (cv : Value) (k : Int) (y : Pr) {w : World} (his : zeroIs w cv) : Calls Try.prog 12 #[cv, .int .u64 k, y.val] w fun e w' => e = .returned (.int .i64 1) ∧ Below w.heap.size w w' := by
  have HF : Hid (∀ u, Below w.heap.size w u → ∀ valid, Calls Try.prog 29 #[cv, .int .u64 k, .bool valid] u (FindRes (Pv.zero, 1) u)) := fun u hu valid => find_no cv k valid fun u2 hu2 => his u2 (hu.trans (hu2.mono hu.size))
  have KV : Hid (∀ u, Calls Try.prog 30 #[y.val] u fun e w' => e = .returned (.bool y.okB) ∧ Below u.heap.size u w') := fun u => price_c y u
  obtain ⟨ok, hok⟩ : ∃ ok, ok = y.okB := ⟨_, rfl⟩
  rw [← hok] at KV
  clear his hok
  obtain ⟨yf, ya⟩ := y
  unfold FindRes Pv.val Pn.val Pv.zero Pn.zero at HF
  unfold Pr.val at KV ⊢
  simp only at HF KV ⊢
  have HB0 : Hid (Below w.heap.size w (w.alloc (.cells #[.int .i64 yf, .int .i64 ya] TPrice))) := (Below.refl _ w).alloc (Nat.le_refl _) _
  have RY0 : Hid (Rw (w.alloc (.cells #[.int .i64 yf, .int .i64 ya] TPrice)) w.heap.size TPrice [.int .i64 yf, .int .i64 ya]) := Rw.new w [.int .i64 yf, .int .i64 ya] TPrice
  go_enter Try.func12, Try.ntmps12
  go_wp2_with fail
  generalize w.alloc (.cells #[.int .i64 yf, .int .i64 ya] TPrice) = W0 at HB0 RY0 ⊢
  refine (KV.out _).mono ?_
  rintro _ w1 ⟨rfl, hb1⟩
  have HB1 : Hid (Below w.heap.size w w1) := HB0.out.trans (hb1.mono HB0.out.size)
  have RY1 := Lib.hid (RY0.out.later hb1)
  clear hb1
  go_wp2_with fail
  refine (HF.out _ HB1.out _).mono ?_
  rintro _ w2 ⟨rfl, hb2⟩
  have HB2 : Hid (Below w.heap.size w w2) := HB1.out.trans (hb2.mono HB1.out.size)
  have RY2 := Lib.hid (RY1.out.later hb2)
  have hs2 := HB2.out.size
  clear hb2 RY1 HB1
  go_wp2_with fail
  go_ret
  exact ⟨rfl, HB2.out.alloc hs2 _⟩
theorem price_news (w : World) (f am : Int) : ∀ (j : Nat) (u : Value), ([.int .i64 f, .int .i64 am] : List Value)[j]? = some u → (w.alloc (.cells #[.int .i64 f, .int .i64 am] TPrice)).cell? ((⟨w.heap.size, 0, none⟩ : Addr).add j) = some u := fun j u hu => by
  rw [Go.WideShapes.add_plain, Nat.zero_add]
  have := (Rw.new w [.int .i64 f, .int .i64 am] TPrice).cell j
  rw [hu] at this
  exact this
section
variable {w : World} {c bm n : Nat} {tv : Value} {V : Int → Option Pv} {K : List Int}
theorem repriceM_no {k : Int} {y : Pr} (hbad : (findM y.okB V k).2 ≠ 0) : repriceM (mdl V) k y = (mdl V, (findM y.okB V k).2) := by
  unfold repriceM findM at *
  cases hd : y.okB with
  | false => rw [if_pos rfl, if_neg (by decide)]
  | true =>
    rw [hd] at hbad
    rw [if_neg (by decide), if_pos rfl]
    rw [if_pos rfl] at hbad
    cases hv : V k with
    | none =>
      have : mdl V k = none := by unfold mdl; rw [hv]; rfl
      rw [this]
    | some p =>
      rw [hv] at hbad
      exact absurd rfl hbad
/-- A plan that has one more price. -/
theorem after_more {w3 : World} {k : Int} {p p' : Pv} (h : At w c bm tv n V K) (hp : V k = some p) (hm : ∃ D : DataW Unit, w3.ownsMap Try.prog TU plR bm (n + 1) D ∧ Ag D (upd V k p')) (kb : Keeps (fun j => p.g = some j ∨ j = bm) w w3) (hrow : w3.ownsRow 0 TPrice 2 p'.sl p'.x.ps.length (flatP p'.x.ps)) (hgb : ∀ j, p'.g = some j → p.g = some j ∨ w.heap.size ≤ j) (hok : p'.x.okB = true) (hid : p'.x.id = p.x.id) : After c bm tv n V w w3 (upd (mdl V) k p'.x) K := by
  obtain ⟨n1, n2, n3⟩ := h.ne
  obtain ⟨g1, g2, g3⟩ := h.nep hp
  have hlt (q : Int) (r : Pv) (hr : V q = some r) (j : Nat) (hj : r.g = some j) : j < w.heap.size := h.lt j (.inr (.inr (.inr ⟨q, r, hr, hj⟩)))
  refine ⟨tv, n + 1, upd V k p', ⟨h.blk.keeps kb (fun hj => hj.elim g1 n1), hm, own_keeps h.own kb (fun j hj e => e.elim (fun e => g3 j hj e) (fun e => n3 (e ▸ hj))), h.ks.old (by rw [hp]; rfl) _, fun q r hr => ?_, fun q q' r r' j hr hr' hj hj' => ?_, fun q r hr => ?_⟩, Nat.le_refl _, mdl_upd V k p', kb.mono fun j hj => .inl (hj.elim (fun e => .inr (.inr (.inr ⟨k, p, hp, e⟩))) (fun e => .inr (.inl e))), fun j hj => ?_⟩
  · by_cases e : q = k
    · subst e
      rw [upd_same] at hr
      injection hr with hr
      subst hr
      exact hrow
    · rw [upd_other _ _ e] at hr
      refine own_keeps (h.row _ _ hr) kb fun j hj e2 => ?_
      rcases e2 with e2 | e2
      · exact e (h.dis _ _ _ _ j hr hp (sl_own hj) e2)
      · exact (h.nep hr).2.1 (e2 ▸ sl_own hj)
  · by_cases e : q = k
    · by_cases e' : q' = k
      · rw [e, e']
      · subst e
        rw [upd_same] at hr
        injection hr with hr
        subst hr
        rw [upd_other _ _ e'] at hr'
        rcases hgb j hj with h1 | h1
        · exact h.dis _ _ _ _ j hp hr' h1 hj'
        · have := hlt _ _ hr' j hj'
          omega
    · rw [upd_other _ _ e] at hr
      by_cases e' : q' = k
      · subst e'
        rw [upd_same] at hr'
        injection hr' with hr'
        subst hr'
        rcases hgb j hj' with h1 | h1
        · exact h.dis _ _ _ _ j hr hp hj h1
        · have := hlt _ _ hr j hj
          omega
      · rw [upd_other _ _ e'] at hr'
        exact h.dis _ _ _ _ j hr hr' hj hj'
  · by_cases e : q = k
    · subst e
      rw [upd_same] at hr
      injection hr with hr
      subst hr
      exact ⟨hok, hid.trans (h.ok _ _ hp).2.1, (h.ok _ _ hp).2.2⟩
    · rw [upd_other _ _ e] at hr
      exact h.ok _ _ hr
  · rcases hj with hj | hj | hj | ⟨q, r, hr, hj⟩
    · exact .inl (.inl hj)
    · exact .inl (.inr (.inl hj))
    · exact .inl (.inr (.inr (.inl hj)))
    · by_cases e : q = k
      · subst e
        rw [upd_same] at hr
        injection hr with hr
        subst hr
        exact (hgb j hj).imp_left fun h1 => .inr (.inr (.inr ⟨_, _, hp, h1⟩))
      · rw [upd_other _ _ e] at hr
        exact .inl (.inr (.inr (.inr ⟨_, _, hr, hj⟩)))
set_option maxRecDepth 100000 in
set_option maxHeartbeats 3200000 in
theorem reprice_c (h : At w c bm tv n V K) (k : Int) (hk : U64 k) (y : Pr) (hn : n < 1000000) : Calls Try.prog 12 #[.pointer (some ⟨c, 0, none⟩), .int .u64 k, y.val] w fun e w' => e = .returned (.int .i64 (repriceM (mdl V) k y).2) ∧ After c bm tv n V w w' (repriceM (mdl V) k y).1 K := by
  have H := Lib.hid h
  have HF : Hid (∀ u, Below w.heap.size w u → Calls Try.prog 29 #[.pointer (some ⟨c, 0, none⟩), .int .u64 k, .bool y.okB] u (FindRes (findM y.okB V k) u)) := fun u hu => find_c (h.later hu) k hk _
  have hkey := key_of hk
  have KV : Hid (∀ u, Calls Try.prog 30 #[y.val] u fun e w' => e = .returned (.bool y.okB) ∧ Below u.heap.size u w') := fun u => price_c y u
  by_cases hbad : (findM y.okB V k).2 = 0
  · obtain ⟨hv, hp⟩ := findM_ok hbad
    rw [hv] at HF KV hp
    obtain ⟨p, hpp⟩ : ∃ p, p = (findM true V k).1 := ⟨_, rfl⟩
    rw [← hpp] at hp
    have e0 : findM true V k = (p, 0) := findM_some hp
    rw [e0] at HF
    have HOK := Lib.hid (h.ok _ _ hp)
    have HL := okB_len HOK.out.1
    have KL : Hid (∀ u, Below w.heap.size w u → Calls Try.prog 31 #[p.x.val (adr p.g) p.cap] u fun e w' => e = .returned p.x.last.val ∧ Below u.heap.size u w') := fun u hu => last_c p.x (adr p.g) p.cap u ((h.prs hp).later hu) (by omega) (by omega)
    have HP := Lib.hid hp
    obtain ⟨R, hR⟩ : ∃ R, R = repriceM (mdl V) k y := ⟨_, rfl⟩
    rw [← hR]
    have hMk : mdl V k = some p.x := by unfold mdl; rw [hp]; rfl
    have HR : Hid (R = if y.frm ≤ p.x.last.frm ∨ (p.x.ret ≠ 0 ∧ p.x.ret ≤ y.frm) then (mdl V, 9) else if 100 ≤ p.x.ps.length then (mdl V, 6) else (upd (mdl V) k (p.x.more y), 0)) := by
      show _ = _
      rw [hR]
      unfold repriceM
      rw [hv, if_neg (by decide), hMk]
    have HV := Lib.hid hv
    have HROW := Lib.hid (h.row _ _ hp)
    clear hR hMk hp hpp e0 hv hbad
    obtain ⟨⟨id, name, every, L, ret⟩, g, cap⟩ := p
    obtain ⟨lst, hlst⟩ : ∃ lst, lst = Pn.last ⟨id, name, every, L, ret⟩ := ⟨_, rfl⟩
    have HLS := Lib.hid hlst
    simp only at HR
    rw [← hlst] at KL HR
    clear hlst
    obtain ⟨lf, la⟩ := lst
    obtain ⟨yf, ya⟩ := y
    unfold FindRes Pv.val at HF
    unfold Pn.val Pr.val at KL
    unfold Pn.val at HF
    unfold Pr.val at KV ⊢
    unfold Pv.sl at HROW
    simp only at HF KL HR HL KV HROW ⊢
    obtain ⟨ad, had⟩ : ∃ ad, ad = adr g := ⟨_, rfl⟩
    rw [← had] at HF KL HROW
    have HAD := Lib.hid had
    clear had h hk
    have HB0 : Hid (Below w.heap.size w (w.alloc (.cells #[.int .i64 yf, .int .i64 ya] TPrice))) := (Below.refl _ w).alloc (Nat.le_refl _) _
    have RY0 : Hid (Rw (w.alloc (.cells #[.int .i64 yf, .int .i64 ya] TPrice)) w.heap.size TPrice [.int .i64 yf, .int .i64 ya]) := Rw.new w [.int .i64 yf, .int .i64 ya] TPrice
    go_enter Try.func12, Try.ntmps12
    go_wp2_with fail
    generalize w.alloc (.cells #[.int .i64 yf, .int .i64 ya] TPrice) = W0 at HB0 RY0 ⊢
    refine (KV.out _).mono ?_
    rintro _ w1 ⟨rfl, hb1⟩
    have HB1 : Hid (Below w.heap.size w w1) := HB0.out.trans (hb1.mono HB0.out.size)
    have RY1 := Lib.hid (RY0.out.later hb1)
    clear hb1
    go_wp2_with fail
    refine (HF.out _ HB1.out).mono ?_
    rintro _ w2 ⟨rfl, hb2⟩
    have HB2 : Hid (Below w.heap.size w w2) := HB1.out.trans (hb2.mono HB1.out.size)
    have RY2 := Lib.hid (RY1.out.later hb2)
    have hs2 := HB2.out.size
    clear hb2 RY1 HB1
    go_upto_region 2 with (fail)
    have HB : Hid (Below w.heap.size w (w2.alloc (.cells #[.int .u64 id, .string name, .int .i64 every, .slice ad L.length cap, .int .i64 ret] TPlan))) := HB2.out.alloc hs2 _
    have hb3 : Below w2.heap.size w2 (w2.alloc (.cells #[.int .u64 id, .string name, .int .i64 every, .slice ad L.length cap, .int .i64 ret] TPlan)) := (Below.refl _ _).alloc (Nat.le_refl _) _
    have RY := Lib.hid (RY2.out.later hb3)
    have RX : Hid (Rw (w2.alloc (.cells #[.int .u64 id, .string name, .int .i64 every, .slice ad L.length cap, .int .i64 ret] TPlan)) w2.heap.size TPlan [.int .u64 id, .string name, .int .i64 every, .slice ad L.length cap, .int .i64 ret]) := Rw.new w2 [.int .u64 id, .string name, .int .i64 every, .slice ad L.length cap, .int .i64 ret] TPlan
    have HBX : Hid (w.heap.size ≤ w2.heap.size) := hs2
    have HYX : Hid (w.heap.size ≠ w2.heap.size) := fun e => by have := RY2.out.lt; omega
    obtain ⟨bx, hbx⟩ : ∃ bx, bx = w2.heap.size := ⟨_, rfl⟩
    rw [← hbx] at RX HBX HYX ⊢
    obtain ⟨by', hby⟩ : ∃ by', by' = w.heap.size := ⟨_, rfl⟩
    rw [← hby] at RY HYX
    have HBY : Hid (by' = w.heap.size) := hby
    generalize w2.alloc (.cells #[.int .u64 id, .string name, .int .i64 every, .slice ad L.length cap, .int .i64 ret] TPlan) = W at HB RX RY ⊢
    rw [← hby]
    clear hb3 hby hbx HF KV HB2 RY2 hs2
    have HS : Hid (∀ u, Below w.heap.size w u → Below W.heap.size W u → u.cell? ⟨by', 0, none⟩ = some (.int .i64 yf) ∧ u.cell? ⟨by', 1, none⟩ = some (.int .i64 ya) ∧ u.cell? ⟨bx, 0, none⟩ = some (.int .u64 id) ∧ u.cell? ⟨bx, 1, none⟩ = some (.string name) ∧ u.cell? ⟨bx, 2, none⟩ = some (.int .i64 every) ∧ u.cell? ⟨bx, 3, none⟩ = some (.slice ad L.length cap) ∧ u.cell? ⟨bx, 4, none⟩ = some (.int .i64 ret)) := fun u _ hu => ⟨(RY.out.later hu).cell 0, (RY.out.later hu).cell 1, (RX.out.later hu).cell 0, (RX.out.later hu).cell 1, (RX.out.later hu).cell 2, (RX.out.later hu).cell 3, (RX.out.later hu).cell 4⟩
    have hfld := fun u => field_frm lf la u
    go_upto_region 4 with (fail)
    by_cases hlt : yf ≤ lf
    · have HFIN : Hid (R = (mdl V, 9)) := by
        show _ = _
        rw [HR.out, if_pos (.inl hlt)]
      clear HR
      refine wp_region_held_drew (S := (fun u => u.cell? ⟨by', 0, none⟩ = some (.int .i64 yf) ∧ u.cell? ⟨bx, 0, none⟩ = some (.int .u64 id) ∧ u.cell? ⟨bx, 1, none⟩ = some (.string name) ∧ u.cell? ⟨bx, 2, none⟩ = some (.int .i64 every) ∧ u.cell? ⟨bx, 3, none⟩ = some (.slice ad L.length cap) ∧ u.cell? ⟨bx, 4, none⟩ = some (.int .i64 ret) ∧ Below w.heap.size w u ∧ Below W.heap.size W u)) (by kernel_rfl) ?_ (fun hHeld => ?_)
      · exact ⟨(HS.out _ HB.out.drew (Below.refl _ W).drew).1, (HS.out _ HB.out.drew (Below.refl _ W).drew).2.2.1, (HS.out _ HB.out.drew (Below.refl _ W).drew).2.2.2.1, (HS.out _ HB.out.drew (Below.refl _ W).drew).2.2.2.2.1, (HS.out _ HB.out.drew (Below.refl _ W).drew).2.2.2.2.2.1, (HS.out _ HB.out.drew (Below.refl _ W).drew).2.2.2.2.2.2, HB.out.drew, (Below.refl _ W).drew⟩
      refine wpAnyH_take (i := 0) (oi := { dst := some 22, op := Op.fieldAddr 33 (Operand.tmp 5) 0, type := 0, pos := "plans.go:113", after := #[], guard := none }) (v := (.pointer (some ⟨by', 0, none⟩))) rfl (by kernel_rfl) (by kernel_rfl) (by kernel_rfl) (fun _ _ _ h => h) (Or.inl ⟨by rfl, ?_⟩) hHeld ?_
      · rintro u ⟨p0, p1, p2, p3, p4, p5, -⟩
        go_simp <;> first | rfl | kernel_rfl
      try simp only [Act.put, List.setIfInBounds_toArray, List.set_cons_zero, List.set_cons_succ]
      refine wpAnyH_take (i := 1) (oi := { dst := some 23, op := Op.load 3 (Operand.tmp 22), type := 3, pos := "plans.go:113", after := #[{ on := 0, ground := Ground.data }], guard := none }) (v := (.int .i64 yf)) rfl (by kernel_rfl) (by kernel_rfl) (by kernel_rfl) (fun _ _ _ h => h) (Or.inl ⟨by rfl, ?_⟩) hHeld ?_
      · rintro u ⟨p0, p1, p2, p3, p4, p5, -⟩
        go_simp <;> first | rfl | kernel_rfl
      try simp only [Act.put, List.setIfInBounds_toArray, List.set_cons_zero, List.set_cons_succ]
      refine wpAnyH_take (i := 2) (oi := { dst := some 24, op := Op.load 31 (Operand.tmp 7), type := 31, pos := "plans.go:113", after := #[], guard := none }) (v := (.agg #[.int .u64 id, .string name, .int .i64 every, .slice ad L.length cap, .int .i64 ret])) rfl (by kernel_rfl) (by kernel_rfl) (by kernel_rfl) (fun _ _ _ h => h) (Or.inl ⟨by rfl, ?_⟩) hHeld ?_
      · rintro u ⟨p0, p1, p2, p3, p4, p5, -⟩
        go_simp <;> first | rfl | kernel_rfl
      try simp only [Act.put, List.setIfInBounds_toArray, List.set_cons_zero, List.set_cons_succ]
      refine wpAnyH_ready (rs := [3]) (by kernel_rfl) (by simp) ?_
      refine AllReadyH.cons (o := { dst := some 25, op := Op.call { callee := Callee.value (Operand.func 31), args := #[Operand.tmp 24], argTypes := #[31] }, type := 33, pos := "plans.go:113", after := #[{ on := 2, ground := Ground.data }], guard := none }) rfl (fun K hK => ?_) AllReadyH.nil
      go_simp
      refine (KL.out _ hHeld.2.2.2.2.2.2.1).mono ?_
      rintro e u3 ⟨rfl, hb3⟩
      have BU := Below.trans hHeld.2.2.2.2.2.2.1 (hb3.mono (Below.size hHeld.2.2.2.2.2.2.1))
      have BV := Below.trans hHeld.2.2.2.2.2.2.2 (hb3.mono (Below.size hHeld.2.2.2.2.2.2.2))
      go_wp2_with fail
      refine hK.out _ _ (⟨(HS.out _ BU BV).1, (HS.out _ BU BV).2.2.1, (HS.out _ BU BV).2.2.2.1, (HS.out _ BU BV).2.2.2.2.1, (HS.out _ BU BV).2.2.2.2.2.1, (HS.out _ BU BV).2.2.2.2.2.2, BU, BV⟩) (fun hHeld3 => ?_)
      clear hK K
      try simp only [Act.put, List.setIfInBounds_toArray, List.set_cons_zero, List.set_cons_succ]
      refine wpAnyH_take (i := 4) (oi := { dst := some 26, op := Op.field 33 (Operand.tmp 25) 0, type := 3, pos := "plans.go:113", after := #[{ on := 3, ground := Ground.data }], guard := none }) (v := (.int .i64 lf)) rfl (by kernel_rfl) (by kernel_rfl) (by kernel_rfl) (fun _ _ _ h => h) (Or.inl ⟨by rfl, ?_⟩) hHeld3 ?_
      · rintro u ⟨p0, p1, p2, p3, p4, p5, -⟩
        go_simp <;> first | rfl | kernel_rfl
      try simp only [Act.put, List.setIfInBounds_toArray, List.set_cons_zero, List.set_cons_succ]
      refine wpAnyH_take (i := 5) (oi := { dst := some 27, op := Op.binOp BinOp.leq 3 (Operand.tmp 23) (Operand.tmp 26) 3, type := 4, pos := "plans.go:113", after := #[{ on := 1, ground := Ground.data }, { on := 4, ground := Ground.data }], guard := none }) (v := (.bool true)) rfl (by kernel_rfl) (by kernel_rfl) (by kernel_rfl) (fun _ _ _ h => h) (Or.inl ⟨by rfl, ?_⟩) hHeld3 ?_
      · rintro u ⟨p0, p1, p2, p3, p4, p5, -⟩
        go_simp <;> first | rfl | kernel_rfl
      try simp only [Act.put, List.setIfInBounds_toArray, List.set_cons_zero, List.set_cons_succ]
      refine wpAnyH_take (i := 6) (oi := { dst := some 21, op := Op.assign (Operand.tmp 27), type := 4, pos := "plans.go:113", after := #[{ on := 5, ground := Ground.data }, { on := 3, ground := Ground.chain }], guard := none }) (v := (.bool true)) rfl (by kernel_rfl) (by kernel_rfl) (by kernel_rfl) (fun _ _ _ h => h) (Or.inl ⟨by rfl, ?_⟩) hHeld3 ?_
      · rintro u ⟨p0, p1, p2, p3, p4, p5, -⟩
        go_simp <;> first | rfl | kernel_rfl
      try simp only [Act.put, List.setIfInBounds_toArray, List.set_cons_zero, List.set_cons_succ]
      refine wpAnyH_done (by kernel_rfl) ?_ _
      have HBW := Lib.hid BU
      clear BU BV
      go_wp2_with fail
      go_ret
      rw [HFIN.out]
      exact ⟨rfl, After.same H.out HBW.out⟩
    · have HR2 : Hid (R = if (ret ≠ 0 ∧ ret ≤ yf) then (mdl V, 9) else if 100 ≤ L.length then (mdl V, 6) else (upd (mdl V) k (Pn.more ⟨id, name, every, L, ret⟩ ⟨yf, ya⟩), 0)) := by
        show _ = _
        rw [HR.out]
        have e : (yf ≤ lf ∨ (ret ≠ 0 ∧ ret ≤ yf)) = (ret ≠ 0 ∧ ret ≤ yf) := propext ⟨fun h => h.elim (fun h => absurd h hlt) (fun h => h), .inr⟩
        simp only [e]
      clear HR
      refine wp_region_held_drew (S := (fun u => u.cell? ⟨by', 0, none⟩ = some (.int .i64 yf) ∧ u.cell? ⟨bx, 0, none⟩ = some (.int .u64 id) ∧ u.cell? ⟨bx, 1, none⟩ = some (.string name) ∧ u.cell? ⟨bx, 2, none⟩ = some (.int .i64 every) ∧ u.cell? ⟨bx, 3, none⟩ = some (.slice ad L.length cap) ∧ u.cell? ⟨bx, 4, none⟩ = some (.int .i64 ret) ∧ Below w.heap.size w u ∧ Below W.heap.size W u)) (by kernel_rfl) ?_ (fun hHeld => ?_)
      · exact ⟨(HS.out _ HB.out.drew (Below.refl _ W).drew).1, (HS.out _ HB.out.drew (Below.refl _ W).drew).2.2.1, (HS.out _ HB.out.drew (Below.refl _ W).drew).2.2.2.1, (HS.out _ HB.out.drew (Below.refl _ W).drew).2.2.2.2.1, (HS.out _ HB.out.drew (Below.refl _ W).drew).2.2.2.2.2.1, (HS.out _ HB.out.drew (Below.refl _ W).drew).2.2.2.2.2.2, HB.out.drew, (Below.refl _ W).drew⟩
      refine wpAnyH_take (i := 0) (oi := { dst := some 22, op := Op.fieldAddr 33 (Operand.tmp 5) 0, type := 0, pos := "plans.go:113", after := #[], guard := none }) (v := (.pointer (some ⟨by', 0, none⟩))) rfl (by kernel_rfl) (by kernel_rfl) (by kernel_rfl) (fun _ _ _ h => h) (Or.inl ⟨by rfl, ?_⟩) hHeld ?_
      · rintro u ⟨p0, p1, p2, p3, p4, p5, -⟩
        go_simp <;> first | rfl | kernel_rfl
      try simp only [Act.put, List.setIfInBounds_toArray, List.set_cons_zero, List.set_cons_succ]
      refine wpAnyH_take (i := 1) (oi := { dst := some 23, op := Op.load 3 (Operand.tmp 22), type := 3, pos := "plans.go:113", after := #[{ on := 0, ground := Ground.data }], guard := none }) (v := (.int .i64 yf)) rfl (by kernel_rfl) (by kernel_rfl) (by kernel_rfl) (fun _ _ _ h => h) (Or.inl ⟨by rfl, ?_⟩) hHeld ?_
      · rintro u ⟨p0, p1, p2, p3, p4, p5, -⟩
        go_simp <;> first | rfl | kernel_rfl
      try simp only [Act.put, List.setIfInBounds_toArray, List.set_cons_zero, List.set_cons_succ]
      refine wpAnyH_take (i := 2) (oi := { dst := some 24, op := Op.load 31 (Operand.tmp 7), type := 31, pos := "plans.go:113", after := #[], guard := none }) (v := (.agg #[.int .u64 id, .string name, .int .i64 every, .slice ad L.length cap, .int .i64 ret])) rfl (by kernel_rfl) (by kernel_rfl) (by kernel_rfl) (fun _ _ _ h => h) (Or.inl ⟨by rfl, ?_⟩) hHeld ?_
      · rintro u ⟨p0, p1, p2, p3, p4, p5, -⟩
        go_simp <;> first | rfl | kernel_rfl
      try simp only [Act.put, List.setIfInBounds_toArray, List.set_cons_zero, List.set_cons_succ]
      refine wpAnyH_ready (rs := [3]) (by kernel_rfl) (by simp) ?_
      refine AllReadyH.cons (o := { dst := some 25, op := Op.call { callee := Callee.value (Operand.func 31), args := #[Operand.tmp 24], argTypes := #[31] }, type := 33, pos := "plans.go:113", after := #[{ on := 2, ground := Ground.data }], guard := none }) rfl (fun K hK => ?_) AllReadyH.nil
      go_simp
      refine (KL.out _ hHeld.2.2.2.2.2.2.1).mono ?_
      rintro e u3 ⟨rfl, hb3⟩
      have BU := Below.trans hHeld.2.2.2.2.2.2.1 (hb3.mono (Below.size hHeld.2.2.2.2.2.2.1))
      have BV := Below.trans hHeld.2.2.2.2.2.2.2 (hb3.mono (Below.size hHeld.2.2.2.2.2.2.2))
      go_wp2_with fail
      refine hK.out _ _ (⟨(HS.out _ BU BV).1, (HS.out _ BU BV).2.2.1, (HS.out _ BU BV).2.2.2.1, (HS.out _ BU BV).2.2.2.2.1, (HS.out _ BU BV).2.2.2.2.2.1, (HS.out _ BU BV).2.2.2.2.2.2, BU, BV⟩) (fun hHeld3 => ?_)
      clear hK K
      try simp only [Act.put, List.setIfInBounds_toArray, List.set_cons_zero, List.set_cons_succ]
      refine wpAnyH_take (i := 4) (oi := { dst := some 26, op := Op.field 33 (Operand.tmp 25) 0, type := 3, pos := "plans.go:113", after := #[{ on := 3, ground := Ground.data }], guard := none }) (v := (.int .i64 lf)) rfl (by kernel_rfl) (by kernel_rfl) (by kernel_rfl) (fun _ _ _ h => h) (Or.inl ⟨by rfl, ?_⟩) hHeld3 ?_
      · rintro u ⟨p0, p1, p2, p3, p4, p5, -⟩
        go_simp <;> first | rfl | kernel_rfl
      try simp only [Act.put, List.setIfInBounds_toArray, List.set_cons_zero, List.set_cons_succ]
      refine wpAnyH_take (i := 5) (oi := { dst := some 27, op := Op.binOp BinOp.leq 3 (Operand.tmp 23) (Operand.tmp 26) 3, type := 4, pos := "plans.go:113", after := #[{ on := 1, ground := Ground.data }, { on := 4, ground := Ground.data }], guard := none }) (v := (.bool false)) rfl (by kernel_rfl) (by kernel_rfl) (by kernel_rfl) (fun _ _ _ h => h) (Or.inl ⟨by rfl, ?_⟩) hHeld3 ?_
      · rintro u ⟨p0, p1, p2, p3, p4, p5, -⟩
        go_simp <;> first | rfl | kernel_rfl
      try simp only [Act.put, List.setIfInBounds_toArray, List.set_cons_zero, List.set_cons_succ]
      refine wpAnyH_take (i := 6) (oi := { dst := some 21, op := Op.assign (Operand.tmp 27), type := 4, pos := "plans.go:113", after := #[{ on := 5, ground := Ground.data }, { on := 3, ground := Ground.chain }], guard := none }) (v := (.bool false)) rfl (by kernel_rfl) (by kernel_rfl) (by kernel_rfl) (fun _ _ _ h => h) (Or.inl ⟨by rfl, ?_⟩) hHeld3 ?_
      · rintro u ⟨p0, p1, p2, p3, p4, p5, -⟩
        go_simp <;> first | rfl | kernel_rfl
      try simp only [Act.put, List.setIfInBounds_toArray, List.set_cons_zero, List.set_cons_succ]
      refine wpAnyH_done (by kernel_rfl) ?_ _
      have HBW := Lib.hid BU
      have RY4 := Lib.hid (RY.out.later BV)
      have RX4 := Lib.hid (RX.out.later BV)
      clear BU BV hHeld hHeld3 HS RX RY HB
      have HLT2 : Hid (lf < yf) := by first | exact hlt | exact Int.not_le.1 hlt
      clear hlt
      have q0 : u3.cell? ⟨bx, 0, none⟩ = some (.int .u64 id) := RX4.out.cell 0
      have q1 : u3.cell? ⟨bx, 1, none⟩ = some (.string name) := RX4.out.cell 1
      have q2 : u3.cell? ⟨bx, 2, none⟩ = some (.int .i64 every) := RX4.out.cell 2
      have q3 : u3.cell? ⟨bx, 3, none⟩ = some (.slice ad L.length cap) := RX4.out.cell 3
      have q4 : u3.cell? ⟨bx, 4, none⟩ = some (.int .i64 ret) := RX4.out.cell 4
      have y0 : u3.cell? ⟨by', 0, none⟩ = some (.int .i64 yf) := RY4.out.cell 0
      have y1 : u3.cell? ⟨by', 1, none⟩ = some (.int .i64 ya) := RY4.out.cell 1
      by_cases hfull : 100 ≤ L.length
      · have hfull' : (100 : Int) ≤ (L.length : Int) := by omega
        by_cases hz : ret = 0
        · subst hz
          have HFIN : Hid (R = (mdl V, 6)) := by
            show _ = _
            rw [HR2.out, if_neg (fun h => h.1 rfl), if_pos hfull]
          clear HR2
          go_wp2_with fail
          go_ret
          rw [HFIN.out]
          exact ⟨rfl, After.same H.out HBW.out⟩
        · have hne : (ret == 0) = false := beq_eq_false_iff_ne.2 hz
          by_cases hy : ret ≤ yf
          · have HFIN : Hid (R = (mdl V, 9)) := by
              show _ = _
              rw [HR2.out, if_pos ⟨hz, hy⟩]
            clear HR2
            go_wp2_with fail
            go_ret
            rw [HFIN.out]
            exact ⟨rfl, After.same H.out HBW.out⟩
          · have HFIN : Hid (R = (mdl V, 6)) := by
              show _ = _
              rw [HR2.out, if_neg (fun h => hy h.2), if_pos hfull]
            clear HR2
            go_wp2_with fail
            go_ret
            rw [HFIN.out]
            exact ⟨rfl, After.same H.out HBW.out⟩
      · have hfull' : ¬ (100 : Int) ≤ (L.length : Int) := by omega
        obtain ⟨i0, z0, hi0, hz0, hz1, hz2, hz3⟩ := info_pr
        by_cases hz : ret = 0
        · subst hz
          have HFIN : Hid (R = (upd (mdl V) k (Pn.more ⟨id, name, every, L, 0⟩ ⟨yf, ya⟩), 0)) := by
            show _ = _
            rw [HR2.out, if_neg (fun h => h.1 rfl), if_neg hfull]
          clear HR2
          have HRT : Hid (0 = 0 ∨ yf < 0) := by first | exact .inl rfl | exact .inr (by omega)
          go_wp2_with (at_builtin; refine wpList_append_any rfl _ _ TPrices rfl 0 TPrice i0 z0 2 16 Try.underlying29 hi0 hz0 hz1 hz2 hz3 (by decide) _ L.length (flatP L) rfl (own_later (own_later HROW.out HBW.out) ((Below.refl _ u3).alloc (Nat.le_refl _) _)) (some ⟨u3.heap.size, 0, none⟩) 1 1 [.int .i64 yf, .int .i64 ya] rfl (.inr ⟨_, rfl, rfl, price_news u3 yf ya⟩) (by simp [Value.oneCell']) (by unfold maxLen; omega) (by omega) (Nat.zero_le _) ?_)
          intro v' w5 hown5 hgrow hat
          clear q0 q1 q2 q3 q4 y0 y1
          obtain ⟨a', cap', rfl⟩ := own_slice hown5
          have hps : (flatP L ++ [Value.int .i64 yf, Value.int .i64 ya]) = flatP (L ++ [Pr.mk yf ya]) := by unfold flatP; rw [List.flatMap_append]; rfl
          rw [hps] at hown5
          have hown5' : w5.ownsRow 0 TPrice 2 (.slice a' (L ++ [Pr.mk yf ya]).length cap') (L ++ [Pr.mk yf ya]).length (flatP (L ++ [Pr.mk yf ya])) := by
            rw [List.length_append]; exact hown5
          obtain ⟨g', rfl, _⟩ := own_pv (x := Pn.more ⟨id, name, every, L, 0⟩ ⟨yf, ya⟩) hown5'
          have KG5 : Keeps (fun j => (Value.slice ad L.length cap).ownBlock = some j) u3 w5 := ((Keeps.refl (fun j => (Value.slice ad L.length cap).ownBlock = some j) u3).alloc _).grown hgrow fun j hj => .inl hj
          have RX5 := Lib.hid (RX4.out.keeps KG5 (own_type (own_later HROW.out HBW.out) RX4.out (by decide)))
          have HSZ3 : Hid (w.heap.size ≤ u3.heap.size) := HBW.out.size
          have HBX3 : Hid (bx < u3.heap.size) := RX4.out.lt
          have HPG : Hid (∀ j, (Value.slice ad L.length cap).ownBlock = some j → g = some j ∧ j < w.heap.size) := fun j hj => ⟨sl_own (p := ⟨⟨id, name, every, L, 0⟩, g, cap⟩) (by unfold Pv.sl; rw [← HAD.out]; exact hj), (HROW.out.lt j hj).2⟩
          have HNG : Hid (∀ j, (Value.slice (adr g') (L.length + 1) cap').ownBlock = some j → (g = some j ∧ j < w.heap.size) ∨ u3.heap.size < j) := fun j hj => by
            rcases hat with ha | ha
            · exact .inl (HPG.out j (ha.symm.trans hj))
            · rw [ha] at hj
              injection hj with hj
              rw [← hj]
              exact .inr (by simp)
          obtain ⟨D, h1, h2⟩ := H.out.mp
          have HA := Lib.hid h2
          have HNE := Lib.hid (H.out.nep HP.out)
          have OM5 := Lib.hid (map_keeps (map_keeps h1 (Keeps.of (fun _ => False) HBW.out) (fun h => h)) KG5 fun hj => HNE.out.2.1 (HPG.out _ hj).1)
          have RC5 := Lib.hid ((H.out.blk.later HBW.out).keeps KG5 fun hj => HNE.out.1 (HPG.out _ hj).1)
          have HLTC : Hid (c < w.heap.size ∧ bm < w.heap.size) := ⟨H.out.blk.lt, h1.lt⟩
          have HO5 := Lib.hid hown5'
          obtain ⟨D2, hD2⟩ : ∃ D2, D2 = D := ⟨_, rfl⟩
          rw [← hD2] at OM5 HA
          clear h1 h2 hD2 hown5 hown5' hps hgrow hat RX4 RY4
          have f3 : w5.frozen? ⟨bx, 3, none⟩ = false := RX5.out.frozen 3
          have q3 : w5.cell? ⟨bx, 3, none⟩ = some (.slice ad L.length cap) := RX5.out.cell 3
          have RX6 : Hid (Rw (w5.setCell ⟨bx, 3, none⟩ (.slice (adr g') (L.length + 1) cap')) bx TPlan [.int .u64 id, .string name, .int .i64 every, .slice (adr g') (L.length + 1) cap', .int .i64 0]) := RX5.out.setCell 3 _
          have KS6 : Hid (Keeps (fun j => j = bx) w5 (w5.setCell ⟨bx, 3, none⟩ (.slice (adr g') (L.length + 1) cap'))) := (Keeps.refl (fun j => j = bx) _).setCell bx 3 _ (.inl rfl)
          have OM6 := Lib.hid (map_keeps OM5.out KS6.out (by have := HLTC.out; have := HBX.out; omega))
          have RC6 := Lib.hid (RC5.out.keeps KS6.out (by have := HLTC.out; have := HBX.out; omega))
          have HO6 := Lib.hid (own_keeps HO5.out KS6.out fun j hj e => by
            have h1 := HNG.out j (by rw [List.length_append] at hj; exact hj)
            have h2 := HBX.out
            have h3 := HBX3.out
            omega)
          have HK6 : Hid (Keeps (fun j => g = some j ∨ j = bm) w (w5.setCell ⟨bx, 3, none⟩ (.slice (adr g') (L.length + 1) cap'))) := by
            have e1 := (Keeps.of (fun j => g = some j ∨ j = bm) HBW.out).then KG5 fun j hj => .inl (.inl (HPG.out j hj).1)
            exact e1.then KS6.out fun j hj => .inr (by rw [hj]; exact HBX.out)
          go_upto_region 10 with (fail)
          generalize w5.setCell ⟨bx, 3, none⟩ (.slice (adr g') (L.length + 1) cap') = W6 at RX6 OM6 RC6 HO6 HK6 ⊢
          clear f3 q3 KG5 RX5 OM5 RC5 HO5 KS6
          obtain ⟨ad2, had2⟩ : ∃ ad2, ad2 = adr g' := ⟨_, rfl⟩
          rw [← had2] at RX6 ⊢
          have HRD : Hid (plR (.agg #[.int .u64 id, .string name, .int .i64 every, .slice ad2 (L.length + 1) cap', .int .i64 0]) = some (Pv.dat ⟨Pn.more ⟨id, name, every, L, 0⟩ ⟨yf, ya⟩, g', cap'⟩, [])) := by
            show _ = _
            rw [had2]
            have := plR_val ⟨Pn.more ⟨id, name, every, L, 0⟩ ⟨yf, ya⟩, g', cap'⟩
            unfold Pv.val Pn.val Pn.more at this
            simp only [List.length_append, List.length_singleton] at this
            exact this
          clear had2
          have d0 : W6.cell? ⟨bx, 0, none⟩ = some (.int .u64 id) := RX6.out.cell 0
          have d1 : W6.cell? ⟨bx, 1, none⟩ = some (.string name) := RX6.out.cell 1
          have d2 : W6.cell? ⟨bx, 2, none⟩ = some (.int .i64 every) := RX6.out.cell 2
          have d3 : W6.cell? ⟨bx, 3, none⟩ = some (.slice ad2 (L.length + 1) cap') := RX6.out.cell 3
          have d4 : W6.cell? ⟨bx, 4, none⟩ = some (.int .i64 0) := RX6.out.cell 4
          have e0 : W6.cell? ⟨c, 0, none⟩ = some (.map (some bm)) := RC6.out.cell 0
          go_still_tail 6, (by kernel_rfl)
          change wpList _ _ _ _ _ W6.drew
          clear d0 d1 d2 d3 d4 e0
          go_wp2_with (at_mapUpdate; refine wpList_mapUpdate_in _ rfl _ _ _ TMap rfl TU TPlan law Try.underlying58 plR bm n D2 rfl (OM6.out.drew) (by unfold maxLen; omega) _ _ _ rfl rfl hkey (Pv.dat ⟨Pn.more ⟨id, name, every, L, 0⟩ ⟨yf, ya⟩, g', cap'⟩) [] HRD.out ?_; intro w7 hown7 hturn7)
          go_ret
          rw [HFIN.out]
          refine ⟨rfl, ?_⟩
          have hg := hturn7.grown
          have KB : Keeps (fun j => j = bm) W6 w7 := ((Keeps.refl (fun j => j = bm) W6).drew).grown hg fun j hj => by cases hj; exact .inl rfl
          refine after_more (p' := ⟨Pn.more ⟨id, name, every, L, 0⟩ ⟨yf, ya⟩, g', cap'⟩) H.out HP.out ⟨_, hown7, HA.out.put k _⟩ (HK6.out.then KB fun j hj => .inl (.inr hj)) (own_keeps HO6.out KB fun j hj e => ?_) (fun j hj => ?_) (okB_more HOK.out.1 HV.out (by rw [← HLS.out]; exact HLT2.out) (by show L.length < 100; omega) (by first | exact HRT.out | exact .inl rfl)) rfl
          · rcases HNG.out j (by have h0 := hj; unfold Pv.sl Pn.more at h0; simpa only [List.length_append, List.length_singleton] using h0) with h1 | h1
            · exact HNE.out.2.1 (by rw [h1.1, e])
            · have h2 := HLTC.out
              have h3 := HSZ3.out
              omega
          · rcases HNG.out j (by simp only at hj; rw [hj]; rfl) with h1 | h1
            · exact .inl h1.1
            · exact .inr (by have h3 := HSZ3.out; omega)
        · have hne : (ret == 0) = false := beq_eq_false_iff_ne.2 hz
          by_cases hy : ret ≤ yf
          · have HFIN : Hid (R = (mdl V, 9)) := by
              show _ = _
              rw [HR2.out, if_pos ⟨hz, hy⟩]
            clear HR2
            go_wp2_with fail
            go_ret
            rw [HFIN.out]
            exact ⟨rfl, After.same H.out HBW.out⟩
          · have HFIN : Hid (R = (upd (mdl V) k (Pn.more ⟨id, name, every, L, ret⟩ ⟨yf, ya⟩), 0)) := by
              show _ = _
              rw [HR2.out, if_neg (fun h => hy h.2), if_neg hfull]
            clear HR2
            have HRT : Hid (ret = 0 ∨ yf < ret) := by first | exact .inl rfl | exact .inr (by omega)
            go_wp2_with (at_builtin; refine wpList_append_any rfl _ _ TPrices rfl 0 TPrice i0 z0 2 16 Try.underlying29 hi0 hz0 hz1 hz2 hz3 (by decide) _ L.length (flatP L) rfl (own_later (own_later HROW.out HBW.out) ((Below.refl _ u3).alloc (Nat.le_refl _) _)) (some ⟨u3.heap.size, 0, none⟩) 1 1 [.int .i64 yf, .int .i64 ya] rfl (.inr ⟨_, rfl, rfl, price_news u3 yf ya⟩) (by simp [Value.oneCell']) (by unfold maxLen; omega) (by omega) (Nat.zero_le _) ?_)
            intro v' w5 hown5 hgrow hat
            clear q0 q1 q2 q3 q4 y0 y1
            obtain ⟨a', cap', rfl⟩ := own_slice hown5
            have hps : (flatP L ++ [Value.int .i64 yf, Value.int .i64 ya]) = flatP (L ++ [Pr.mk yf ya]) := by unfold flatP; rw [List.flatMap_append]; rfl
            rw [hps] at hown5
            have hown5' : w5.ownsRow 0 TPrice 2 (.slice a' (L ++ [Pr.mk yf ya]).length cap') (L ++ [Pr.mk yf ya]).length (flatP (L ++ [Pr.mk yf ya])) := by
              rw [List.length_append]; exact hown5
            obtain ⟨g', rfl, _⟩ := own_pv (x := Pn.more ⟨id, name, every, L, ret⟩ ⟨yf, ya⟩) hown5'
            have KG5 : Keeps (fun j => (Value.slice ad L.length cap).ownBlock = some j) u3 w5 := ((Keeps.refl (fun j => (Value.slice ad L.length cap).ownBlock = some j) u3).alloc _).grown hgrow fun j hj => .inl hj
            have RX5 := Lib.hid (RX4.out.keeps KG5 (own_type (own_later HROW.out HBW.out) RX4.out (by decide)))
            have HSZ3 : Hid (w.heap.size ≤ u3.heap.size) := HBW.out.size
            have HBX3 : Hid (bx < u3.heap.size) := RX4.out.lt
            have HPG : Hid (∀ j, (Value.slice ad L.length cap).ownBlock = some j → g = some j ∧ j < w.heap.size) := fun j hj => ⟨sl_own (p := ⟨⟨id, name, every, L, ret⟩, g, cap⟩) (by unfold Pv.sl; rw [← HAD.out]; exact hj), (HROW.out.lt j hj).2⟩
            have HNG : Hid (∀ j, (Value.slice (adr g') (L.length + 1) cap').ownBlock = some j → (g = some j ∧ j < w.heap.size) ∨ u3.heap.size < j) := fun j hj => by
              rcases hat with ha | ha
              · exact .inl (HPG.out j (ha.symm.trans hj))
              · rw [ha] at hj
                injection hj with hj
                rw [← hj]
                exact .inr (by simp)
            obtain ⟨D, h1, h2⟩ := H.out.mp
            have HA := Lib.hid h2
            have HNE := Lib.hid (H.out.nep HP.out)
            have OM5 := Lib.hid (map_keeps (map_keeps h1 (Keeps.of (fun _ => False) HBW.out) (fun h => h)) KG5 fun hj => HNE.out.2.1 (HPG.out _ hj).1)
            have RC5 := Lib.hid ((H.out.blk.later HBW.out).keeps KG5 fun hj => HNE.out.1 (HPG.out _ hj).1)
            have HLTC : Hid (c < w.heap.size ∧ bm < w.heap.size) := ⟨H.out.blk.lt, h1.lt⟩
            have HO5 := Lib.hid hown5'
            obtain ⟨D2, hD2⟩ : ∃ D2, D2 = D := ⟨_, rfl⟩
            rw [← hD2] at OM5 HA
            clear h1 h2 hD2 hown5 hown5' hps hgrow hat RX4 RY4
            have f3 : w5.frozen? ⟨bx, 3, none⟩ = false := RX5.out.frozen 3
            have q3 : w5.cell? ⟨bx, 3, none⟩ = some (.slice ad L.length cap) := RX5.out.cell 3
            have RX6 : Hid (Rw (w5.setCell ⟨bx, 3, none⟩ (.slice (adr g') (L.length + 1) cap')) bx TPlan [.int .u64 id, .string name, .int .i64 every, .slice (adr g') (L.length + 1) cap', .int .i64 ret]) := RX5.out.setCell 3 _
            have KS6 : Hid (Keeps (fun j => j = bx) w5 (w5.setCell ⟨bx, 3, none⟩ (.slice (adr g') (L.length + 1) cap'))) := (Keeps.refl (fun j => j = bx) _).setCell bx 3 _ (.inl rfl)
            have OM6 := Lib.hid (map_keeps OM5.out KS6.out (by have := HLTC.out; have := HBX.out; omega))
            have RC6 := Lib.hid (RC5.out.keeps KS6.out (by have := HLTC.out; have := HBX.out; omega))
            have HO6 := Lib.hid (own_keeps HO5.out KS6.out fun j hj e => by
              have h1 := HNG.out j (by rw [List.length_append] at hj; exact hj)
              have h2 := HBX.out
              have h3 := HBX3.out
              omega)
            have HK6 : Hid (Keeps (fun j => g = some j ∨ j = bm) w (w5.setCell ⟨bx, 3, none⟩ (.slice (adr g') (L.length + 1) cap'))) := by
              have e1 := (Keeps.of (fun j => g = some j ∨ j = bm) HBW.out).then KG5 fun j hj => .inl (.inl (HPG.out j hj).1)
              exact e1.then KS6.out fun j hj => .inr (by rw [hj]; exact HBX.out)
            go_upto_region 10 with (fail)
            generalize w5.setCell ⟨bx, 3, none⟩ (.slice (adr g') (L.length + 1) cap') = W6 at RX6 OM6 RC6 HO6 HK6 ⊢
            clear f3 q3 KG5 RX5 OM5 RC5 HO5 KS6
            obtain ⟨ad2, had2⟩ : ∃ ad2, ad2 = adr g' := ⟨_, rfl⟩
            rw [← had2] at RX6 ⊢
            have HRD : Hid (plR (.agg #[.int .u64 id, .string name, .int .i64 every, .slice ad2 (L.length + 1) cap', .int .i64 ret]) = some (Pv.dat ⟨Pn.more ⟨id, name, every, L, ret⟩ ⟨yf, ya⟩, g', cap'⟩, [])) := by
              show _ = _
              rw [had2]
              have := plR_val ⟨Pn.more ⟨id, name, every, L, ret⟩ ⟨yf, ya⟩, g', cap'⟩
              unfold Pv.val Pn.val Pn.more at this
              simp only [List.length_append, List.length_singleton] at this
              exact this
            clear had2
            have d0 : W6.cell? ⟨bx, 0, none⟩ = some (.int .u64 id) := RX6.out.cell 0
            have d1 : W6.cell? ⟨bx, 1, none⟩ = some (.string name) := RX6.out.cell 1
            have d2 : W6.cell? ⟨bx, 2, none⟩ = some (.int .i64 every) := RX6.out.cell 2
            have d3 : W6.cell? ⟨bx, 3, none⟩ = some (.slice ad2 (L.length + 1) cap') := RX6.out.cell 3
            have d4 : W6.cell? ⟨bx, 4, none⟩ = some (.int .i64 ret) := RX6.out.cell 4
            have e0 : W6.cell? ⟨c, 0, none⟩ = some (.map (some bm)) := RC6.out.cell 0
            go_still_tail 6, (by kernel_rfl)
            change wpList _ _ _ _ _ W6.drew
            clear d0 d1 d2 d3 d4 e0
            go_wp2_with (at_mapUpdate; refine wpList_mapUpdate_in _ rfl _ _ _ TMap rfl TU TPlan law Try.underlying58 plR bm n D2 rfl (OM6.out.drew) (by unfold maxLen; omega) _ _ _ rfl rfl hkey (Pv.dat ⟨Pn.more ⟨id, name, every, L, ret⟩ ⟨yf, ya⟩, g', cap'⟩) [] HRD.out ?_; intro w7 hown7 hturn7)
            go_ret
            rw [HFIN.out]
            refine ⟨rfl, ?_⟩
            have hg := hturn7.grown
            have KB : Keeps (fun j => j = bm) W6 w7 := ((Keeps.refl (fun j => j = bm) W6).drew).grown hg fun j hj => by cases hj; exact .inl rfl
            refine after_more (p' := ⟨Pn.more ⟨id, name, every, L, ret⟩ ⟨yf, ya⟩, g', cap'⟩) H.out HP.out ⟨_, hown7, HA.out.put k _⟩ (HK6.out.then KB fun j hj => .inl (.inr hj)) (own_keeps HO6.out KB fun j hj e => ?_) (fun j hj => ?_) (okB_more HOK.out.1 HV.out (by rw [← HLS.out]; exact HLT2.out) (by show L.length < 100; omega) (by first | exact HRT.out | exact .inl rfl)) rfl
            · rcases HNG.out j (by have h0 := hj; unfold Pv.sl Pn.more at h0; simpa only [List.length_append, List.length_singleton] using h0) with h1 | h1
              · exact HNE.out.2.1 (by rw [h1.1, e])
              · have h2 := HLTC.out
                have h3 := HSZ3.out
                omega
            · rcases HNG.out j (by simp only at hj; rw [hj]; rfl) with h1 | h1
              · exact .inl h1.1
              · exact .inr (by have h3 := HSZ3.out; omega)
  · rw [repriceM_no hbad]
    obtain ⟨r, hr⟩ : ∃ r, r = findM y.okB V k := ⟨_, rfl⟩
    rw [← hr] at hbad HF ⊢
    obtain ⟨ok, hok⟩ : ∃ ok, ok = y.okB := ⟨_, rfl⟩
    rw [← hok] at KV HF
    clear hr h hk hok
    obtain ⟨yf, ya⟩ := y
    obtain ⟨⟨⟨id, name, every, L, ret⟩, g, cap⟩, e⟩ := r
    simp only at hbad ⊢
    have hne : (e == 0) = false := beq_eq_false_iff_ne.2 hbad
    unfold FindRes Pv.val Pn.val at HF
    unfold Pr.val at KV ⊢
    simp only at HF KV ⊢
    have HB0 : Hid (Below w.heap.size w (w.alloc (.cells #[.int .i64 yf, .int .i64 ya] TPrice))) := (Below.refl _ w).alloc (Nat.le_refl _) _
    have RY0 : Hid (Rw (w.alloc (.cells #[.int .i64 yf, .int .i64 ya] TPrice)) w.heap.size TPrice [.int .i64 yf, .int .i64 ya]) := Rw.new w [.int .i64 yf, .int .i64 ya] TPrice
    go_enter Try.func12, Try.ntmps12
    go_wp2_with fail
    generalize w.alloc (.cells #[.int .i64 yf, .int .i64 ya] TPrice) = W0 at HB0 RY0 ⊢
    refine (KV.out _).mono ?_
    rintro _ w1 ⟨rfl, hb1⟩
    have HB1 : Hid (Below w.heap.size w w1) := HB0.out.trans (hb1.mono HB0.out.size)
    have RY1 := Lib.hid (RY0.out.later hb1)
    clear hb1
    go_wp2_with fail
    refine (HF.out _ HB1.out).mono ?_
    rintro _ w2 ⟨rfl, hb2⟩
    have HB2 : Hid (Below w.heap.size w w2) := HB1.out.trans (hb2.mono HB1.out.size)
    have RY2 := Lib.hid (RY1.out.later hb2)
    have hs2 := HB2.out.size
    clear hb2 RY1 HB1
    go_wp2_with fail
    go_ret
    exact ⟨rfl, After.same H.out (HB2.out.alloc hs2 _)⟩
end
end Go.Proofs.Ytakpoabpgdmneaa.Pl
