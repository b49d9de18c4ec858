/- Package plans: Retire. -/
import Derived.Test.YtakpoabpgdmneaaPlOk
import Derived.StillTailTactics
namespace Go.Proofs.Ytakpoabpgdmneaa.Pl
open Go Go.RowKit Ck Go.Maps
theorem field_frm (f am : Int) (w : World) : (Instr.field TPrice (.agg #[.int .i64 f, .int .i64 am]) 0).run Try.prog w = .ok (.int .i64 f) w := by kernel_rfl
theorem ret_no (cv : Value) (k day : Int) {w : World} (his : zeroIs w cv) : Calls Try.prog 14 #[cv, .int .u64 k, .int .i64 day] w fun e w' => e = .returned (.int .i64 1) ∧ Below w.heap.size w w' := by
  have KD : Hid (∀ u, Calls Try.prog 33 #[.int .i64 day] u fun e w' => e = .returned (.bool (dayB day)) ∧ u = w') := fun u => day_c day u
  have HF : Hid (∀ valid, Calls Try.prog 29 #[cv, .int .u64 k, .bool valid] w (FindRes (Pv.zero, 1) w)) := fun valid => find_no cv k valid his
  unfold FindRes Pv.val Pn.val Pv.zero Pn.zero at HF
  simp only at HF
  clear his
  go_enter Try.func14, Try.ntmps14
  go_wp2_with fail
  refine (KD.out _).mono ?_
  rintro _ _ ⟨rfl, rfl⟩
  go_wp2_with fail
  refine (HF.out _).mono ?_
  rintro _ w1 ⟨rfl, hb1⟩
  have hs1 := hb1.size
  go_wp2_with fail
  go_ret
  exact ⟨rfl, hb1.alloc hs1 _⟩
section
variable {w : World} {c bm n : Nat} {tv : Value} {V : Int → Option Pv} {K : List Int}
theorem findM_none {V : Int → Option Pv} {k : Int} (h : V k = none) : findM true V k = (Pv.zero, 7) := by
  unfold findM
  rw [if_pos rfl, h]
/-- A plan that is put in place of one that is there; its prices stay. -/
theorem after_put {w2 w3 : World} {k : Int} {p p' : Pv} {M' : Int → Option Pn} (h2 : At w2 c bm tv n V K) (hb : Below w.heap.size w w2) (hp : V k = some p) (hm : ∃ D : DataW Unit, w3.ownsMap Try.prog TU plR bm (n + 1) D ∧ Ag D (upd V k p')) (kb : Keeps (fun j => j = bm) w2 w3) (hg : p'.g = p.g) (hc : p'.cap = p.cap) (hps : p'.x.ps = p.x.ps) (hok : p'.x.okB = true) (hid : p'.x.id = p.x.id) (hM : upd (mdl V) k p'.x = M' := by rfl) : After c bm tv n V w w3 M' K := by
  obtain ⟨n1, n2, n3⟩ := h2.ne
  obtain ⟨g1, g2, g3⟩ := h2.nep hp
  have hsl : p'.sl = p.sl := by unfold Pv.sl; rw [hg, hc, hps]
  refine ⟨tv, n + 1, upd V k p', ⟨h2.blk.keeps kb n1, hm, own_keeps h2.own kb fun j hj e => n3 (e ▸ hj), h2.ks.old (by rw [hp]; rfl) _, fun q r hr => ?_, fun q q' r r' j hr hr' hj hj' => ?_, fun q r hr => ?_⟩, Nat.le_refl _, (mdl_upd V k p').trans hM, (Keeps.of _ hb).then (S := fun j => j = bm) kb fun j hj => .inl (.inr (.inl hj)), fun j hj => ?_⟩
  · by_cases e : q = k
    · subst e
      rw [upd_same] at hr
      injection hr with hr
      subst hr
      rw [hsl, hps]
      exact own_keeps (h2.row _ _ hp) kb fun j hj e => g2 (e ▸ sl_own hj)
    · rw [upd_other _ _ e] at hr
      exact own_keeps (h2.row _ _ hr) kb fun j hj e => (h2.nep hr).2.1 (e ▸ sl_own hj)
  · have e1 : ∀ {q r}, upd V k p' q = some r → ∃ r0, V q = some r0 ∧ r0.g = r.g := fun {q r} hr => by
      by_cases e : q = k
      · subst e
        rw [upd_same] at hr
        injection hr with hr
        subst hr
        exact ⟨p, hp, hg.symm⟩
      · rw [upd_other _ _ e] at hr
        exact ⟨r, hr, rfl⟩
    obtain ⟨r0, a1, a2⟩ := e1 hr
    obtain ⟨r1, b1, b2⟩ := e1 hr'
    exact h2.dis _ _ _ _ j a1 b1 (a2.trans hj) (b2.trans hj')
  · by_cases e : q = k
    · subst e
      rw [upd_same] at hr
      injection hr with hr
      subst hr
      exact ⟨hok, hid.trans (h2.ok _ _ hp).2.1, (h2.ok _ _ hp).2.2⟩
    · rw [upd_other _ _ e] at hr
      exact h2.ok _ _ hr
  · rcases hj with hj | hj | hj | ⟨q, r, hr, hj⟩
    · exact .inl (.inl hj)
    · exact .inl (.inr (.inl hj))
    · exact .inl (.inr (.inr (.inl hj)))
    · by_cases e : q = k
      · subst e
        rw [upd_same] at hr
        injection hr with hr
        subst hr
        exact .inl (.inr (.inr (.inr ⟨_, _, hp, hg.symm.trans hj⟩)))
      · rw [upd_other _ _ e] at hr
        exact .inl (.inr (.inr (.inr ⟨_, _, hr, hj⟩)))
set_option maxRecDepth 100000 in
set_option maxHeartbeats 1600000 in
theorem retire_c (h : At w c bm tv n V K) (k : Int) (hk : U64 k) (day : Int) (hn : n < 1000000) : Calls Try.prog 14 #[.pointer (some ⟨c, 0, none⟩), .int .u64 k, .int .i64 day] w fun e w' => e = .returned (.int .i64 (retireM (mdl V) k day).2) ∧ After c bm tv n V w w' (retireM (mdl V) k day).1 K := by
  have H := Lib.hid h
  have HF := Lib.hid (find_c h k hk (dayB day))
  have hkey := key_of hk
  have KD : Hid (∀ u, Calls Try.prog 33 #[.int .i64 day] u fun e w' => e = .returned (.bool (dayB day)) ∧ u = w') := fun u => day_c day u
  by_cases hbad : (findM (dayB day) V k).2 = 0
  · obtain ⟨hv, hp⟩ := findM_ok hbad
    have hp' := findM_some hp
    rw [hv] at HF KD hp
    obtain ⟨p, hpp⟩ : ∃ p, p = (findM true V k).1 := ⟨_, rfl⟩
    rw [← hpp] at hp
    have e0 : findM true V k = (p, 0) := findM_some hp
    rw [e0] at HF
    have HOK := Lib.hid (h.ok _ _ hp)
    have HL := okB_len HOK.out.1
    have KL : Hid (∀ u, Below w.heap.size w u → Calls Try.prog 31 #[p.x.val (adr p.g) p.cap] u fun e w' => e = .returned p.x.last.val ∧ Below u.heap.size u w') := fun u hu => last_c p.x (adr p.g) p.cap u ((h.prs hp).later hu) (by omega) (by omega)
    have HP := Lib.hid hp
    obtain ⟨R, hR⟩ : ∃ R, R = retireM (mdl V) k day := ⟨_, rfl⟩
    rw [← hR]
    have hMk : mdl V k = some p.x := by unfold mdl; rw [hp]; rfl
    have HR : Hid (R = if p.x.ret ≠ 0 ∨ day ≤ p.x.last.frm then (mdl V, 9) else (upd (mdl V) k (p.x.end' day), 0)) := by
      show _ = _
      rw [hR]
      unfold retireM
      rw [hv, if_neg (by decide), hMk]
    have HV := Lib.hid hv
    have HE : Hid (∀ u, Rw u (u.heap.size) TPlan [] → True) := fun _ _ => trivial
    clear hR hMk hp hp' hpp e0 hv hbad HE
    obtain ⟨⟨id, name, every, L, ret⟩, g, cap⟩ := p
    obtain ⟨lst, hlst⟩ : ∃ lst, lst = Pn.last ⟨id, name, every, L, ret⟩ := ⟨_, rfl⟩
    have HLS := Lib.hid hlst
    simp only at HR
    rw [← hlst] at KL HR
    clear hlst
    obtain ⟨lf, la⟩ := lst
    unfold FindRes Pv.val at HF
    unfold Pn.val Pr.val at KL
    unfold Pn.val at HF
    simp only at HF KL HR HL
    obtain ⟨ad, had⟩ : ∃ ad, ad = adr g := ⟨_, rfl⟩
    rw [← had] at HF KL
    have HAD := Lib.hid had
    have HINF : Hid ((Try.prog.info? TPlan).map (·.size) = some 5) := by show _ = _; kernel_rfl
    clear had h hk
    go_enter Try.func14, Try.ntmps14
    go_wp2_with fail
    refine (KD.out _).mono ?_
    rintro _ _ ⟨rfl, rfl⟩
    go_wp2_with fail
    refine HF.out.mono ?_
    rintro _ w1 ⟨rfl, hb1⟩
    go_upto_region 2 with (fail)
    have HB : Hid (Below w.heap.size w (w1.alloc (.cells #[.int .u64 id, .string name, .int .i64 every, .slice ad L.length cap, .int .i64 ret] TPlan))) := hb1.alloc hb1.size _
    have RX : Hid (Rw (w1.alloc (.cells #[.int .u64 id, .string name, .int .i64 every, .slice ad L.length cap, .int .i64 ret] TPlan)) w1.heap.size TPlan [.int .u64 id, .string name, .int .i64 every, .slice ad L.length cap, .int .i64 ret]) := Rw.new w1 [.int .u64 id, .string name, .int .i64 every, .slice ad L.length cap, .int .i64 ret] TPlan
    have HBX : Hid (w.heap.size ≤ w1.heap.size) := hb1.size
    obtain ⟨bx, hbx⟩ : ∃ bx, bx = w1.heap.size := ⟨_, rfl⟩
    rw [← hbx] at RX HBX ⊢
    generalize w1.alloc (.cells #[.int .u64 id, .string name, .int .i64 every, .slice ad L.length cap, .int .i64 ret] TPlan) = W at HB RX ⊢
    clear hb1 hbx HF KD
    have q0 : W.cell? ⟨bx, 0, none⟩ = some (.int .u64 id) := RX.out.cell 0
    have q1 : W.cell? ⟨bx, 1, none⟩ = some (.string name) := RX.out.cell 1
    have q2 : W.cell? ⟨bx, 2, none⟩ = some (.int .i64 every) := RX.out.cell 2
    have q3 : W.cell? ⟨bx, 3, none⟩ = some (.slice ad L.length cap) := RX.out.cell 3
    have q4 : W.cell? ⟨bx, 4, none⟩ = some (.int .i64 ret) := RX.out.cell 4
    by_cases hz : ret = 0
    · subst hz
      have HR2 : Hid (R = if day ≤ lf then (mdl V, 9) else (upd (mdl V) k (Pn.end' ⟨id, name, every, L, 0⟩ day), 0)) := by
        show _ = _
        rw [HR.out]
        simp
      have hfld := fun u => field_frm lf la u
      go_upto_region 6 with (fail)
      refine (KL.out _ HB.out).mono ?_
      rintro _ w2 ⟨rfl, hb2⟩
      have RX2 := Lib.hid (RX.out.later hb2)
      have HB2 : Hid (Below w.heap.size w w2) := HB.out.trans (hb2.mono HB.out.size)
      clear hb2 q0 q1 q2 q3 q4 HR KL RX HB
      by_cases hd : day ≤ lf
      · have HF : Hid (R = (mdl V, 9)) := by
          show _ = _
          rw [HR2.out, if_pos hd]
        clear HR2
        go_wp2_with fail
        go_ret
        rw [HF.out]
        exact ⟨rfl, After.same H.out HB2.out⟩
      · have HF : Hid (R = (upd (mdl V) k (Pn.end' ⟨id, name, every, L, 0⟩ day), 0)) := by
          show _ = _
          rw [HR2.out, if_neg hd]
        have f4 := RX2.out.frozen 4
        have q4 : w2.cell? ⟨bx, 4, none⟩ = some (.int .i64 0) := RX2.out.cell 4
        clear HR2
        go_upto_region 8 with (fail)
        clear f4 q4
        have RX3 : Hid (Rw (w2.setCell ⟨bx, 4, none⟩ (.int .i64 day)) bx TPlan [.int .u64 id, .string name, .int .i64 every, .slice ad L.length cap, .int .i64 day]) := RX2.out.setCell 4 _
        have HB3 : Hid (Below w.heap.size w (w2.setCell ⟨bx, 4, none⟩ (.int .i64 day))) := Keeps.belowT HB2.out ((Keeps.refl (fun j => j = bx) _).setCell bx 4 _ (.inl rfl)) (fun j hj => by rw [hj]; exact HBX.out) HB2.out.size
        generalize w2.setCell ⟨bx, 4, none⟩ (.int .i64 day) = W3 at RX3 HB3 ⊢
        have H3 := Lib.hid (H.out.later HB3.out)
        obtain ⟨D, h1, h2⟩ := H3.out.mp
        have hown := Lib.hid h1
        have HA := Lib.hid h2
        clear h1 h2 RX2 HB2
        have d0 : W3.cell? ⟨bx, 0, none⟩ = some (.int .u64 id) := RX3.out.cell 0
        have d1 : W3.cell? ⟨bx, 1, none⟩ = some (.string name) := RX3.out.cell 1
        have d2 : W3.cell? ⟨bx, 2, none⟩ = some (.int .i64 every) := RX3.out.cell 2
        have d3 : W3.cell? ⟨bx, 3, none⟩ = some (.slice ad L.length cap) := RX3.out.cell 3
        have d4 : W3.cell? ⟨bx, 4, none⟩ = some (.int .i64 day) := RX3.out.cell 4
        have e0 : W3.cell? ⟨c, 0, none⟩ = some (.map (some bm)) := H3.out.blk.cell 0
        obtain ⟨D2, hD2⟩ : ∃ D2, D2 = D := ⟨_, rfl⟩
        rw [← hD2] at hown HA
        clear hD2
        have HRD : Hid (plR (.agg #[.int .u64 id, .string name, .int .i64 every, .slice ad L.length cap, .int .i64 day]) = some (Pv.dat ⟨Pn.end' ⟨id, name, every, L, 0⟩ day, g, cap⟩, [])) := by
          show _ = _
          rw [HAD.out]
          exact plR_val ⟨Pn.end' ⟨id, name, every, L, 0⟩ day, g, cap⟩
        go_still_tail 6, (by kernel_rfl)
        change wpList _ _ _ _ _ W3.drew
        clear d0 d1 d2 d3 d4 e0
        go_wp2_with (at_mapUpdate; refine wpList_mapUpdate_in _ rfl _ _ _ TMap rfl TU TPlan law Try.underlying58 plR bm n D2 rfl (hown.out.drew) (by unfold maxLen; omega) _ _ _ rfl rfl hkey (Pv.dat ⟨Pn.end' ⟨id, name, every, L, 0⟩ day, g, cap⟩) [] HRD.out ?_; intro w4 hown1 hturn1)
        go_ret
        rw [HF.out]
        refine ⟨rfl, ?_⟩
        have hg := hturn1.grown
        have KB : Keeps (fun j => j = bm) W3 w4 := ((Keeps.refl (fun j => j = bm) W3).drew).grown hg fun j hj => by cases hj; exact .inl rfl
        exact after_put H3.out HB3.out HP.out ⟨_, hown1, HA.out.put k ⟨Pn.end' ⟨id, name, every, L, 0⟩ day, g, cap⟩⟩ KB rfl rfl rfl (okB_end HOK.out.1 HV.out (by rw [← HLS.out]; first | exact hd | exact Int.not_le.1 hd)) rfl
    · have hne : (ret == 0) = false := beq_eq_false_iff_ne.2 hz
      have HF : Hid (R = (mdl V, 9)) := by
        show _ = _
        rw [HR.out, if_pos (.inl hz)]
      clear HR KL
      go_wp2_with fail
      go_ret
      rw [HF.out]
      exact ⟨rfl, After.same H.out HB.out⟩
  · obtain ⟨r, hr⟩ : ∃ r, r = findM (dayB day) V k := ⟨_, rfl⟩
    rw [← hr] at hbad HF
    have HR : Hid (retireM (mdl V) k day = (mdl V, r.2)) := by
      show _ = _
      unfold retireM
      unfold findM at hr
      cases hd : dayB day with
      | false =>
        rw [hd, if_neg (by decide)] at hr
        rw [if_pos rfl, hr]
      | true =>
        rw [hd, if_pos rfl] at hr
        rw [if_neg (by decide)]
        cases hv : V k with
        | none =>
          have : mdl V k = none := by unfold mdl; rw [hv]; rfl
          rw [hv] at hr
          rw [this, hr]
        | some p =>
          rw [hv] at hr
          rw [hr] at hbad
          exact absurd rfl hbad
    rw [HR.out]
    clear hr h hk HR
    obtain ⟨⟨⟨id, name, every, L, ret⟩, g, cap⟩, e⟩ := r
    simp only at hbad ⊢
    have hne : (e == 0) = false := beq_eq_false_iff_ne.2 hbad
    unfold FindRes Pv.val Pn.val at HF
    simp only at HF
    obtain ⟨valid, hv⟩ : ∃ valid, valid = dayB day := ⟨_, rfl⟩
    rw [← hv] at HF KD
    clear hv
    go_enter Try.func14, Try.ntmps14
    go_wp2_with fail
    refine (KD.out _).mono ?_
    rintro _ _ ⟨rfl, rfl⟩
    go_wp2_with fail
    refine HF.out.mono ?_
    rintro _ w1 ⟨rfl, hb1⟩
    have hs1 := hb1.size
    go_wp2_with fail
    go_ret
    exact ⟨rfl, After.same H.out (hb1.alloc hs1 _)⟩
end
end Go.Proofs.Ytakpoabpgdmneaa.Pl
