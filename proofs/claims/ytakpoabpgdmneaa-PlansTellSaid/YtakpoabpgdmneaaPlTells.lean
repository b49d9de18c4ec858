/- The statements of plans: PlansTell. -/
import Derived.Test.YtakpoabpgdmneaaPlSy
namespace Go.Proofs.Ytakpoabpgdmneaa.Pl
open Go Go.RowKit Ck Go.Maps
set_option maxRecDepth 100000 in
set_option maxHeartbeats 12800000 in
theorem tells_law (l : List Ac) (a : Option Addr) (cap : Nat) (w : World) (h : Acs w a l) (hf : ∀ x ∈ l, Ac.Fits x) (hl : l.length ≤ maxLen) : Calls Try.prog 3 #[.slice a l.length cap] w fun e w' => e = .returned (.bool true) ∧ Below w.heap.size w w' := by
  have H := Lib.hid h
  have HFT := Lib.hid hf
  have KG := Lib.hid (great_c l a cap w h hl hf)
  have KH : Hid (∀ u, Calls Try.prog 7 #[] u fun e w' => e = .returned (.bool true) ∧ Below u.heap.size u w') := fun u => head_c u
  obtain ⟨gr, hgr⟩ : ∃ gr, gr = greatB l := ⟨_, rfl⟩
  rw [← hgr] at KG
  have HGR := Lib.hid hgr
  clear h hf hl hgr
  go_enter Try.func3, Try.ntmps3
  go_wp2_with fail
  refine KG.out.mono ?_
  rintro _ _ ⟨rfl, rfl⟩
  cases gr with
  | true =>
    go_wp2_with fail
    refine (KH.out _).mono ?_
    rintro _ w1 ⟨rfl, hb⟩
    go_wp2_with fail
    go_ret
    exact ⟨rfl, hb⟩
  | false =>
    obtain ⟨hl, hsm⟩ := not_great HGR.out.symm
    have HSM := Lib.hid hsm
    clear hsm HGR KG
    go_wp2_with fail
    refine (ct_new w).mono ?_
    rintro _ w1 ⟨c, F0, rfl, hc, hb, hF⟩
    have S0 := Lib.hid (Sy.new hc hF hb)
    clear hc hb hF
    go_upto_region 6 with (fail)
    go_loopg [4, 5] l.length (fun kx s4 s5 wr => ∃ (i : Nat) (F : Nat → Prop) (M : Int → Option Pn) (K : List Int) (va : Option Addr) (vc : Nat) (Q : List Pf), s5 = .int .i64 (i : Int) ∧ s4 = .slice va Q.length vc ∧ i ≤ l.length ∧ Hid (Sy w wr c i F M K va vc Q) ∧ l.length ≤ i + kx)
    case atStart => exact ⟨0, F0, _, _, none, 0, [], rfl, rfl, Nat.zero_le _, S0, by omega⟩
    case round =>
      clear S0
      obtain ⟨i, F, M, K, va, vc, Q, rfl, rfl, hi9, HSY, hkx⟩ := hrel
      by_cases hlt : i < l.length
      · obtain ⟨ab, ao, rfl, hblt, hcell, hprs⟩ := H.out i hlt
        have hfit := HFT.out _ (List.getElem_mem hlt)
        have hsml := HSM.out _ (List.getElem_mem hlt)
        obtain ⟨x, hx⟩ : ∃ x, x = l[i] := ⟨_, rfl⟩
        rw [← hx] at hcell hprs hfit hsml
        have hwr (k : Nat) (u : Value) (hu : x.cells[k]? = some u) : wr.cell? ⟨ab, ao + i * 9 + k, none⟩ = some u := by rw [HSY.out.b.cell (by simpa using hblt)]; exact hcell k u hu
        have j0 : (0 : Int) ≤ (i : Int) := by omega
        have j1 : (i : Int) < (l.length : Int) := by omega
        have HLT := Lib.hid hlt
        have HKX := Lib.hid hkx
        have HPR := Lib.hid hprs
        obtain ⟨wh, ⟨id, name, every, L, ret⟩, pa, pc, ⟨yf, ya⟩, day⟩ := x
        have x0 := hwr 0 _ rfl
        have x1 := hwr 1 _ rfl
        have x2 := hwr 2 _ rfl
        have x3 := hwr 3 _ rfl
        have x4 := hwr 4 _ rfl
        have x5 := hwr 5 _ rfl
        have x6 := hwr 6 _ rfl
        have x7 := hwr 7 _ rfl
        have x8 := hwr 8 _ rfl
        have HU : Hid (U64 id) := hfit.id
        have HW : Hid (0 ≤ wh ∧ wh ≤ 255) := hfit.w
        have HLL : Hid (L.length ≤ 110) := hsml.1
        simp only at x0 x1 x2 x3 x4 x5 x6 x7 x8 HPR
        rw [Nat.add_zero] at x0
        clear hcell hprs hfit hsml hwr hblt hx hlt hkx
        go_upto_region 9 with (fail)
        have hb1 : Below wr.heap.size wr (wr.alloc (.cells #[.int .u8 wh, .int .u64 id, .string name, .int .i64 every, .slice pa L.length pc, .int .i64 ret, .int .i64 yf, .int .i64 ya, .int .i64 day] TAct)) := (Below.refl _ _).alloc (Nat.le_refl _) _
        have SY := Lib.hid (HSY.out.later hb1)
        have RX : Hid (Rw (wr.alloc (.cells #[.int .u8 wh, .int .u64 id, .string name, .int .i64 every, .slice pa L.length pc, .int .i64 ret, .int .i64 yf, .int .i64 ya, .int .i64 day] TAct)) wr.heap.size TAct [.int .u8 wh, .int .u64 id, .string name, .int .i64 every, .slice pa L.length pc, .int .i64 ret, .int .i64 yf, .int .i64 ya, .int .i64 day]) := Rw.new wr [.int .u8 wh, .int .u64 id, .string name, .int .i64 every, .slice pa L.length pc, .int .i64 ret, .int .i64 yf, .int .i64 ya, .int .i64 day] TAct
        obtain ⟨b6, hb6⟩ : ∃ b6, b6 = wr.heap.size := ⟨_, rfl⟩
        rw [← hb6] at RX ⊢
        generalize wr.alloc (.cells #[.int .u8 wh, .int .u64 id, .string name, .int .i64 every, .slice pa L.length pc, .int .i64 ret, .int .i64 yf, .int .i64 ya, .int .i64 day] TAct) = W at SY RX ⊢
        clear x0 x1 x2 x3 x4 x5 x6 x7 x8 hb1 hb6 HSY
        go_cut [7] (fun s7 wx => s7 = .int .i64 0 ∧ W = wx)
        case first =>
          go_wp2_with fail
          go_meet
          exact ⟨rfl, rfl⟩
        obtain ⟨rfl, rfl⟩ := hcut
        rename_i hKK
        apply hKK
        refine wp_seq_k (fun K5 hK5 => ?_)
        go_cut [4] (fun s4 wx => ∃ (F' : Nat → Prop) (M' : Int → Option Pn) (K' : List Int) (va' : Option Addr) (vc' : Nat) (Q' : List Pf), s4 = .slice va' Q'.length vc' ∧ Hid (Sy w wx c (i + 1) F' M' K' va' vc' Q') ∧ Hid (Rw wx b6 TAct [.int .u8 wh, .int .u64 id, .string name, .int .i64 every, .slice pa L.length pc, .int .i64 ret, .int .i64 yf, .int .i64 ya, .int .i64 day]))
        case first =>
          have HB6 : Hid (∀ j, F j → j ≠ b6) := fun j hj e => by
            obtain ⟨bm, tv, n, V, q1, _, _, rfl⟩ := SY.out.ct
            subst e
            exact act_ne q1 RX.out hj
          have hr3 : wh.tmod 3 = 0 ∨ wh.tmod 3 = 1 ∨ wh.tmod 3 = 2 := by
            have := HW.out
            rw [Int.tmod_eq_emod_of_nonneg this.1]; omega
          have hc : K.length = Q.length := SY.out.tied.len.symm
          have hq : Q.length ≤ 1000000 := by have := SY.out.len; omega
          have hn : i < 1000000 := by omega
          have hk9 : K.length ≤ 1000000 := by omega
          rcases hr3 with hr3 | hr3 | hr3
          · have KR := Lib.hid (radd_c SY.out.tied SY.out.doc ⟨id, name, every, L, ret⟩ pa pc (SY.out.prs HPR.out) HU.out hq SY.out.hS)
            obtain ⟨R, hR⟩ : ∃ R, R = addM M ⟨id, name, every, L, ret⟩ := ⟨_, rfl⟩
            rw [← hR] at KR
            have HR := Lib.hid hR
            clear hR hc
            unfold Pn.val at KR
            have x0 : W.cell? ⟨b6, 0, none⟩ = some (.int .u8 wh) := RX.out.cell 0
            have x1 : W.cell? ⟨b6, 1, none⟩ = some (.int .u64 id) := RX.out.cell 1
            have x2 : W.cell? ⟨b6, 2, none⟩ = some (.string name) := RX.out.cell 2
            have x3 : W.cell? ⟨b6, 3, none⟩ = some (.int .i64 every) := RX.out.cell 3
            have x4 : W.cell? ⟨b6, 4, none⟩ = some (.slice pa L.length pc) := RX.out.cell 4
            have x5 : W.cell? ⟨b6, 5, none⟩ = some (.int .i64 ret) := RX.out.cell 5
            go_wp2_with fail
            refine KR.out.mono ?_
            rintro _ w2 ⟨va', vc', Q', K', rfl, ht, hd, hb2, hq2⟩
            have RX2 := Lib.hid (RX.out.later hb2)
            have KC := Lib.hid (ct_add (SY.out.ct.later hb2) ⟨id, name, every, L, ret⟩ pa pc ((SY.out.prs HPR.out).1.later hb2) HU.out hn hk9)
            rw [← HR.out] at KC
            unfold Pn.val at KC
            clear x0 x1 x2 x3 x4 x5
            have x1 : w2.cell? ⟨b6, 1, none⟩ = some (.int .u64 id) := RX2.out.cell 1
            have x2 : w2.cell? ⟨b6, 2, none⟩ = some (.string name) := RX2.out.cell 2
            have x3 : w2.cell? ⟨b6, 3, none⟩ = some (.int .i64 every) := RX2.out.cell 3
            have x4 : w2.cell? ⟨b6, 4, none⟩ = some (.slice pa L.length pc) := RX2.out.cell 4
            have x5 : w2.cell? ⟨b6, 5, none⟩ = some (.int .i64 ret) := RX2.out.cell 5
            go_wp2_with fail
            refine KC.out.mono ?_
            rintro _ w3 ⟨rfl, hg⟩
            clear x1 x2 x3 x4 x5
            obtain ⟨F3, S3⟩ := SY.out.step ht hd hb2 hq2 hg (Nat.le_refl _)
            have RX3 := RX2.out.keeps (let ⟨_, _, _, _, hk, _⟩ := hg; hk) (fun hj => HB6.out _ hj rfl)
            go_wp2_with fail
            go_meet
            exact ⟨F3, _, K', va', vc', Q', rfl, S3, RX3⟩
          · have KR := Lib.hid (rreprice_c SY.out.tied SY.out.doc id ⟨yf, ya⟩ hq SY.out.hS)
            obtain ⟨R, hR⟩ : ∃ R, R = repriceM M id ⟨yf, ya⟩ := ⟨_, rfl⟩
            rw [← hR] at KR
            have HR := Lib.hid hR
            clear hR hc
            unfold Pr.val at KR
            have x0 : W.cell? ⟨b6, 0, none⟩ = some (.int .u8 wh) := RX.out.cell 0
            have x1 : W.cell? ⟨b6, 1, none⟩ = some (.int .u64 id) := RX.out.cell 1
            have x6 : W.cell? ⟨b6, 6, none⟩ = some (.int .i64 yf) := RX.out.cell 6
            have x7 : W.cell? ⟨b6, 7, none⟩ = some (.int .i64 ya) := RX.out.cell 7
            go_wp2_with fail
            refine KR.out.mono ?_
            rintro _ w2 ⟨va', vc', Q', K', rfl, ht, hd, hb2, hq2⟩
            have RX2 := Lib.hid (RX.out.later hb2)
            have KC := Lib.hid (ct_reprice (SY.out.ct.later hb2) id HU.out ⟨yf, ya⟩ hn)
            rw [← HR.out] at KC
            unfold Pr.val at KC
            clear x0 x1 x6 x7
            have x1 : w2.cell? ⟨b6, 1, none⟩ = some (.int .u64 id) := RX2.out.cell 1
            have x6 : w2.cell? ⟨b6, 6, none⟩ = some (.int .i64 yf) := RX2.out.cell 6
            have x7 : w2.cell? ⟨b6, 7, none⟩ = some (.int .i64 ya) := RX2.out.cell 7
            go_wp2_with fail
            refine KC.out.mono ?_
            rintro _ w3 ⟨rfl, hg⟩
            clear x1 x6 x7
            obtain ⟨F3, S3⟩ := SY.out.step ht hd hb2 hq2 hg (Nat.le_refl _)
            have RX3 := RX2.out.keeps (let ⟨_, _, _, _, hk, _⟩ := hg; hk) (fun hj => HB6.out _ hj rfl)
            go_wp2_with fail
            go_meet
            exact ⟨F3, _, K', va', vc', Q', rfl, S3, RX3⟩
          · have KR := Lib.hid (rretire_c SY.out.tied SY.out.doc id day hq SY.out.hS)
            obtain ⟨R, hR⟩ : ∃ R, R = retireM M id day := ⟨_, rfl⟩
            rw [← hR] at KR
            have HR := Lib.hid hR
            clear hR hc
            have x0 : W.cell? ⟨b6, 0, none⟩ = some (.int .u8 wh) := RX.out.cell 0
            have x1 : W.cell? ⟨b6, 1, none⟩ = some (.int .u64 id) := RX.out.cell 1
            have x8 : W.cell? ⟨b6, 8, none⟩ = some (.int .i64 day) := RX.out.cell 8
            go_wp2_with fail
            refine KR.out.mono ?_
            rintro _ w2 ⟨va', vc', Q', K', rfl, ht, hd, hb2, hq2⟩
            have RX2 := Lib.hid (RX.out.later hb2)
            have KC := Lib.hid (ct_retire (SY.out.ct.later hb2) id HU.out day hn)
            rw [← HR.out] at KC
            skip
            clear x0 x1 x8
            have x1 : w2.cell? ⟨b6, 1, none⟩ = some (.int .u64 id) := RX2.out.cell 1
            have x8 : w2.cell? ⟨b6, 8, none⟩ = some (.int .i64 day) := RX2.out.cell 8
            go_wp2_with fail
            refine KC.out.mono ?_
            rintro _ w3 ⟨rfl, hg⟩
            clear x1 x8
            obtain ⟨F3, S3⟩ := SY.out.step ht hd hb2 hq2 hg (Nat.le_refl _)
            have RX3 := RX2.out.keeps (let ⟨_, _, _, _, hk, _⟩ := hg; hk) (fun hj => HB6.out _ hj rfl)
            go_wp2_with fail
            go_meet
            exact ⟨F3, _, K', va', vc', Q', rfl, S3, RX3⟩
        obtain ⟨F', M', K', va', vc', Q', rfl, S1, RX1⟩ := hcut
        apply hK5
        clear hK5 hKK SY RX HW
        obtain ⟨r, hr⟩ : ∃ r, r = priceT M' id day := ⟨_, rfl⟩
        have hq : Q'.length ≤ 1000000 := by have := S1.out.len; omega
        have hk9 : K'.length ≤ 1000000 := by have := S1.out.tied.len; omega
        have KP := Lib.hid (ct_price S1.out.ct id HU.out day)
        unfold PriceRes at KP
        rw [← hr] at KP
        have KRP : Hid (∀ u, Below wc.heap.size wc u → Calls Try.prog 16 #[.slice va' Q'.length vc', .int .u64 id, .int .i64 day] u fun e w' => e = .returned (.tuple #[.int .i64 r.1, .int .i64 r.2]) ∧ u = w') := fun u hu => by rw [hr]; exact rprice_c S1.out.tied (S1.out.doc.later hu) id day hq
        clear hr
        obtain ⟨rn, re⟩ := r
        simp only at KP KRP
        obtain ⟨W1, rfl⟩ : ∃ W1, W1 = wc := ⟨_, rfl⟩
        have x1 : W1.cell? ⟨b6, 1, none⟩ = some (.int .u64 id) := RX1.out.cell 1
        have x8 : W1.cell? ⟨b6, 8, none⟩ = some (.int .i64 day) := RX1.out.cell 8
        go_wp2_with fail
        refine KP.out.mono ?_
        rintro _ w4 ⟨rfl, hb4⟩
        have S4 := Lib.hid (S1.out.later hb4)
        have RX4 := Lib.hid (RX1.out.later hb4)
        have KRP4 := Lib.hid (KRP.out _ hb4)
        clear hb4 S1 RX1 KP KRP x1 x8
        have x1 : w4.cell? ⟨b6, 1, none⟩ = some (.int .u64 id) := RX4.out.cell 1
        have x8 : w4.cell? ⟨b6, 8, none⟩ = some (.int .i64 day) := RX4.out.cell 8
        go_wp2_with fail
        refine KRP4.out.mono ?_
        rintro _ _ ⟨rfl, rfl⟩
        clear KRP4 x1 x8
        go_upto_region 25 with (fail)
        obtain ⟨sd, hsd⟩ : ∃ sd, sd = soldT M' id day := ⟨_, rfl⟩
        have KS : Hid (∀ u, Below w4.heap.size w4 u → Calls Try.prog 17 #[.pointer (some ⟨c, 0, none⟩), .int .u64 id, .int .i64 day] u fun e w' => e = .returned (.bool sd) ∧ Below u.heap.size u w') := fun u hu => by rw [hsd]; exact ct_sold (S4.out.ct.later hu) id HU.out day
        have KRS : Hid (∀ u, Below w4.heap.size w4 u → Calls Try.prog 18 #[.slice va' Q'.length vc', .int .u64 id, .int .i64 day] u fun e w' => e = .returned (.bool sd) ∧ u = w') := fun u hu => by rw [hsd]; exact rsold_c S4.out.tied (S4.out.doc.later hu) id day hq
        obtain ⟨ck, hck⟩ : ∃ ck : Int, ck = if Pn.okB ⟨id, name, every, L, ret⟩ = true then 0 else 2 := ⟨_, rfl⟩
        have KK : Hid (∀ u, Below w4.heap.size w4 u → Calls Try.prog 19 #[.agg #[.int .u64 id, .string name, .int .i64 every, .slice pa L.length pc, .int .i64 ret]] u fun e w' => e = .returned (.int .i64 ck) ∧ Below u.heap.size u w') := fun u hu => by rw [hck]; exact check_c ⟨id, name, every, L, ret⟩ pa pc u ((S4.out.later hu).prs HPR.out).1
        have KRK : Hid (∀ u, Below w4.heap.size w4 u → Calls Try.prog 20 #[.agg #[.int .u64 id, .string name, .int .i64 every, .slice pa L.length pc, .int .i64 ret]] u fun e w' => e = .returned (.int .i64 ck) ∧ Below u.heap.size u w') := fun u hu => by rw [hck]; exact rcheck_c ⟨id, name, every, L, ret⟩ pa pc u ((S4.out.later hu).prs HPR.out).1 HU.out.1
        have KA : Hid (∀ u, Below w4.heap.size w4 u → Calls Try.prog 22 #[.pointer (some ⟨c, 0, none⟩)] u fun e w' => ∃ (ua : Option Addr) (um uc : Nat), e = .returned (.slice ua um uc) ∧ Below u.heap.size u w' ∧ ∀ u', Below w'.heap.size w' u' → Calls Try.prog 21 #[.slice ua um uc, .slice va' Q'.length vc'] u' fun e w'' => e = .returned (.bool true) ∧ Below u'.heap.size u' w'') := fun u hu => (ct_all (S4.out.ct.later hu) hk9).mono fun e w' ⟨ua, uc, P, h1, h2, h3, h4, h5⟩ => ⟨ua, P.length, uc, h1, h5, fun u' hu' => by
          have hd := S4.out.doc.later (hu.trans ((h5.trans (hu'.mono h5.size)).mono hu.size))
          have he : P.map (·.x) = Q'.map (·.x) := by
            have e1 := h4.trans S4.out.tied.eq.symm
            have e2 := congrArg (List.map (fun o : Option Pn => o.getD Pn.zero)) e1
            simpa [List.map_map, Function.comp_def] using e2
          have hlen : P.length ≤ 1000000 := by
            have := congrArg List.length he
            simp at this
            omega
          refine same_c ((all_doc h2 h3).later hu') hd he (fun p hp => ?_) hlen
          have : some p.x ∈ K'.map M' := by rw [← h4]; exact List.mem_map.2 ⟨p, hp, rfl⟩
          obtain ⟨k, _, hk⟩ := List.mem_map.1 this
          have := okB_len (S4.out.ct.ok k p.x hk).2.1
          omega⟩
        clear hsd hck
        refine wp_region_held_drew (S := (fun u => u.cell? ⟨b6, 1, none⟩ = some (.int .u64 id) ∧ u.cell? ⟨b6, 2, none⟩ = some (.string name) ∧ u.cell? ⟨b6, 3, none⟩ = some (.int .i64 every) ∧ u.cell? ⟨b6, 4, none⟩ = some (.slice pa L.length pc) ∧ u.cell? ⟨b6, 5, none⟩ = some (.int .i64 ret) ∧ u.cell? ⟨b6, 8, none⟩ = some (.int .i64 day) ∧ Below w4.heap.size w4 u)) (by kernel_rfl) ?_ (fun hHeld => ?_)
        · exact ⟨(RX4.out.later ((Below.refl _ w4).drew)).cell 1, (RX4.out.later ((Below.refl _ w4).drew)).cell 2, (RX4.out.later ((Below.refl _ w4).drew)).cell 3, (RX4.out.later ((Below.refl _ w4).drew)).cell 4, (RX4.out.later ((Below.refl _ w4).drew)).cell 5, (RX4.out.later ((Below.refl _ w4).drew)).cell 8, (Below.refl _ w4).drew⟩
        refine wpAnyH_take (i := 0) (oi := { dst := some 109, op := Op.move (Operand.tmp 8), type := 2, pos := "law.go:71", after := #[], guard := none }) (v := (.int .i64 rn)) rfl (by kernel_rfl) (by kernel_rfl) (by kernel_rfl) (fun _ _ _ h => h) (Or.inl ⟨by rfl, ?_⟩) hHeld ?_
        · rintro u ⟨p1, p2, p3, p4, p5, p8, -⟩
          go_simp <;> first | rfl | kernel_rfl
        try simp only [Act.put, List.setIfInBounds_toArray, List.set_cons_zero, List.set_cons_succ]
        refine wpAnyH_take (i := 1) (oi := { dst := some 110, op := Op.move (Operand.tmp 10), type := 2, pos := "law.go:71", after := #[], guard := none }) (v := (.int .i64 rn)) rfl (by kernel_rfl) (by kernel_rfl) (by kernel_rfl) (fun _ _ _ h => h) (Or.inl ⟨by rfl, ?_⟩) hHeld ?_
        · rintro u ⟨p1, p2, p3, p4, p5, p8, -⟩
          go_simp <;> first | rfl | kernel_rfl
        try simp only [Act.put, List.setIfInBounds_toArray, List.set_cons_zero, List.set_cons_succ]
        refine wpAnyH_take (i := 2) (oi := { dst := some 111, op := Op.binOp BinOp.neq 2 (Operand.tmp 109) (Operand.tmp 110) 2, type := 4, pos := "law.go:71", after := #[{ on := 0, ground := Ground.data }, { on := 1, ground := Ground.data }], guard := none }) (v := (.bool false)) rfl (by kernel_rfl) (by kernel_rfl) (by kernel_rfl) (fun _ _ _ h => h) (Or.inl ⟨by rfl, ?_⟩) hHeld ?_
        · rintro u ⟨p1, p2, p3, p4, p5, p8, -⟩
          go_simp <;> first | rfl | kernel_rfl
        try simp only [Act.put, List.setIfInBounds_toArray, List.set_cons_zero, List.set_cons_succ]
        refine wpAnyH_take (i := 3) (oi := { dst := some 112, op := Op.move (Operand.tmp 111), type := 4, pos := "law.go:71", after := #[{ on := 2, ground := Ground.data }], guard := none }) (v := (.bool false)) rfl (by kernel_rfl) (by kernel_rfl) (by kernel_rfl) (fun _ _ _ h => h) (Or.inl ⟨by rfl, ?_⟩) hHeld ?_
        · rintro u ⟨p1, p2, p3, p4, p5, p8, -⟩
          go_simp <;> first | rfl | kernel_rfl
        try simp only [Act.put, List.setIfInBounds_toArray, List.set_cons_zero, List.set_cons_succ]
        refine wpAnyH_take (i := 4) (oi := { dst := some 113, op := Op.move (Operand.tmp 9), type := 38, pos := "law.go:71", after := #[{ on := 3, ground := Ground.guard }], guard := some (3, false) }) (v := (.int .i64 re)) rfl (by kernel_rfl) (by kernel_rfl) (by kernel_rfl) (fun _ _ _ h => h) (Or.inl ⟨by rfl, ?_⟩) hHeld ?_
        · rintro u ⟨p1, p2, p3, p4, p5, p8, -⟩
          go_simp <;> first | rfl | kernel_rfl
        try simp only [Act.put, List.setIfInBounds_toArray, List.set_cons_zero, List.set_cons_succ]
        refine wpAnyH_take (i := 5) (oi := { dst := some 114, op := Op.move (Operand.tmp 11), type := 3, pos := "law.go:71", after := #[{ on := 3, ground := Ground.guard }], guard := some (3, false) }) (v := (.int .i64 re)) rfl (by kernel_rfl) (by kernel_rfl) (by kernel_rfl) (fun _ _ _ h => h) (Or.inl ⟨by rfl, ?_⟩) hHeld ?_
        · rintro u ⟨p1, p2, p3, p4, p5, p8, -⟩
          go_simp <;> first | rfl | kernel_rfl
        try simp only [Act.put, List.setIfInBounds_toArray, List.set_cons_zero, List.set_cons_succ]
        refine wpAnyH_take (i := 6) (oi := { dst := some 115, op := Op.binOp BinOp.neq 3 (Operand.tmp 113) (Operand.tmp 114) 3, type := 4, pos := "law.go:71", after := #[{ on := 4, ground := Ground.data }, { on := 5, ground := Ground.data }, { on := 3, ground := Ground.guard }], guard := some (3, false) }) (v := (.bool false)) rfl (by kernel_rfl) (by kernel_rfl) (by kernel_rfl) (fun _ _ _ h => h) (Or.inl ⟨by rfl, ?_⟩) hHeld ?_
        · rintro u ⟨p1, p2, p3, p4, p5, p8, -⟩
          go_simp <;> first | rfl | kernel_rfl
        try simp only [Act.put, List.setIfInBounds_toArray, List.set_cons_zero, List.set_cons_succ]
        refine wpAnyH_take (i := 7) (oi := { dst := some 116, op := Op.pick (Operand.tmp 112) (Operand.const (Value.bool true)) (Operand.tmp 115), type := 4, pos := "law.go:71", after := #[{ on := 3, ground := Ground.data }, { on := 6, ground := Ground.data }], guard := none }) (v := (.bool false)) rfl (by kernel_rfl) (by kernel_rfl) (by kernel_rfl) (fun _ _ _ h => h) (Or.inl ⟨by rfl, ?_⟩) hHeld ?_
        · rintro u ⟨p1, p2, p3, p4, p5, p8, -⟩
          go_simp <;> first | rfl | kernel_rfl
        try simp only [Act.put, List.setIfInBounds_toArray, List.set_cons_zero, List.set_cons_succ]
        refine wpAnyH_take (i := 8) (oi := { dst := some 117, op := Op.move (Operand.tmp 116), type := 4, pos := "law.go:71", after := #[{ on := 7, ground := Ground.data }, { on := 3, ground := Ground.chain }], guard := none }) (v := (.bool false)) rfl (by kernel_rfl) (by kernel_rfl) (by kernel_rfl) (fun _ _ _ h => h) (Or.inl ⟨by rfl, ?_⟩) hHeld ?_
        · rintro u ⟨p1, p2, p3, p4, p5, p8, -⟩
          go_simp <;> first | rfl | kernel_rfl
        try simp only [Act.put, List.setIfInBounds_toArray, List.set_cons_zero, List.set_cons_succ]
        refine wpAnyH_take (i := 9) (oi := { dst := some 118, op := Op.move (Operand.tmp 3), type := 25, pos := "law.go:71", after := #[{ on := 8, ground := Ground.guard }], guard := some (8, false) }) (v := (.pointer (some ⟨c, 0, none⟩))) rfl (by kernel_rfl) (by kernel_rfl) (by kernel_rfl) (fun _ _ _ h => h) (Or.inl ⟨by rfl, ?_⟩) hHeld ?_
        · rintro u ⟨p1, p2, p3, p4, p5, p8, -⟩
          go_simp <;> first | rfl | kernel_rfl
        try simp only [Act.put, List.setIfInBounds_toArray, List.set_cons_zero, List.set_cons_succ]
        refine wpAnyH_take (i := 10) (oi := { dst := some 119, op := Op.fieldAddr 35 (Operand.tmp 6) 1, type := 0, pos := "law.go:71", after := #[{ on := 8, ground := Ground.guard }], guard := some (8, false) }) (v := (.pointer (some ⟨b6, 1, none⟩))) rfl (by kernel_rfl) (by kernel_rfl) (by kernel_rfl) (fun _ _ _ h => h) (Or.inl ⟨by rfl, ?_⟩) hHeld ?_
        · rintro u ⟨p1, p2, p3, p4, p5, p8, -⟩
          go_simp <;> first | rfl | kernel_rfl
        try simp only [Act.put, List.setIfInBounds_toArray, List.set_cons_zero, List.set_cons_succ]
        refine wpAnyH_take (i := 11) (oi := { dst := some 120, op := Op.fieldAddr 31 (Operand.tmp 119) 0, type := 0, pos := "law.go:71", after := #[{ on := 10, ground := Ground.data }, { on := 8, ground := Ground.guard }], guard := some (8, false) }) (v := (.pointer (some ⟨b6, 1, none⟩))) rfl (by kernel_rfl) (by kernel_rfl) (by kernel_rfl) (fun _ _ _ h => h) (Or.inl ⟨by rfl, ?_⟩) hHeld ?_
        · rintro u ⟨p1, p2, p3, p4, p5, p8, -⟩
          go_simp <;> first | rfl | kernel_rfl
        try simp only [Act.put, List.setIfInBounds_toArray, List.set_cons_zero, List.set_cons_succ]
        refine wpAnyH_take (i := 12) (oi := { dst := some 121, op := Op.load 28 (Operand.tmp 120), type := 28, pos := "law.go:71", after := #[{ on := 11, ground := Ground.data }, { on := 8, ground := Ground.guard }], guard := some (8, false) }) (v := (.int .u64 id)) rfl (by kernel_rfl) (by kernel_rfl) (by kernel_rfl) (fun _ _ _ h => h) (Or.inl ⟨by rfl, ?_⟩) hHeld ?_
        · rintro u ⟨p1, p2, p3, p4, p5, p8, -⟩
          go_simp <;> first | rfl | kernel_rfl
        try simp only [Act.put, List.setIfInBounds_toArray, List.set_cons_zero, List.set_cons_succ]
        refine wpAnyH_take (i := 13) (oi := { dst := some 122, op := Op.fieldAddr 35 (Operand.tmp 6) 3, type := 0, pos := "law.go:71", after := #[{ on := 8, ground := Ground.guard }], guard := some (8, false) }) (v := (.pointer (some ⟨b6, 8, none⟩))) rfl (by kernel_rfl) (by kernel_rfl) (by kernel_rfl) (fun _ _ _ h => h) (Or.inl ⟨by rfl, ?_⟩) hHeld ?_
        · rintro u ⟨p1, p2, p3, p4, p5, p8, -⟩
          go_simp <;> first | rfl | kernel_rfl
        try simp only [Act.put, List.setIfInBounds_toArray, List.set_cons_zero, List.set_cons_succ]
        refine wpAnyH_take (i := 14) (oi := { dst := some 123, op := Op.load 3 (Operand.tmp 122), type := 3, pos := "law.go:71", after := #[{ on := 13, ground := Ground.data }, { on := 8, ground := Ground.guard }], guard := some (8, false) }) (v := (.int .i64 day)) rfl (by kernel_rfl) (by kernel_rfl) (by kernel_rfl) (fun _ _ _ h => h) (Or.inl ⟨by rfl, ?_⟩) hHeld ?_
        · rintro u ⟨p1, p2, p3, p4, p5, p8, -⟩
          go_simp <;> first | rfl | kernel_rfl
        try simp only [Act.put, List.setIfInBounds_toArray, List.set_cons_zero, List.set_cons_succ]
        refine wpAnyH_take (i := 16) (oi := { dst := some 125, op := Op.move (Operand.tmp 4), type := 27, pos := "law.go:71", after := #[{ on := 8, ground := Ground.guard }], guard := some (8, false) }) (v := (.slice va' Q'.length vc')) rfl (by kernel_rfl) (by kernel_rfl) (by kernel_rfl) (fun _ _ _ h => h) (Or.inl ⟨by rfl, ?_⟩) hHeld ?_
        · rintro u ⟨p1, p2, p3, p4, p5, p8, -⟩
          go_simp <;> first | rfl | kernel_rfl
        try simp only [Act.put, List.setIfInBounds_toArray, List.set_cons_zero, List.set_cons_succ]
        refine wpAnyH_take (i := 17) (oi := { dst := some 126, op := Op.fieldAddr 35 (Operand.tmp 6) 1, type := 0, pos := "law.go:71", after := #[{ on := 8, ground := Ground.guard }], guard := some (8, false) }) (v := (.pointer (some ⟨b6, 1, none⟩))) rfl (by kernel_rfl) (by kernel_rfl) (by kernel_rfl) (fun _ _ _ h => h) (Or.inl ⟨by rfl, ?_⟩) hHeld ?_
        · rintro u ⟨p1, p2, p3, p4, p5, p8, -⟩
          go_simp <;> first | rfl | kernel_rfl
        try simp only [Act.put, List.setIfInBounds_toArray, List.set_cons_zero, List.set_cons_succ]
        refine wpAnyH_take (i := 18) (oi := { dst := some 127, op := Op.fieldAddr 31 (Operand.tmp 126) 0, type := 0, pos := "law.go:71", after := #[{ on := 17, ground := Ground.data }, { on := 8, ground := Ground.guard }], guard := some (8, false) }) (v := (.pointer (some ⟨b6, 1, none⟩))) rfl (by kernel_rfl) (by kernel_rfl) (by kernel_rfl) (fun _ _ _ h => h) (Or.inl ⟨by rfl, ?_⟩) hHeld ?_
        · rintro u ⟨p1, p2, p3, p4, p5, p8, -⟩
          go_simp <;> first | rfl | kernel_rfl
        try simp only [Act.put, List.setIfInBounds_toArray, List.set_cons_zero, List.set_cons_succ]
        refine wpAnyH_take (i := 19) (oi := { dst := some 128, op := Op.load 28 (Operand.tmp 127), type := 28, pos := "law.go:71", after := #[{ on := 18, ground := Ground.data }, { on := 8, ground := Ground.guard }], guard := some (8, false) }) (v := (.int .u64 id)) rfl (by kernel_rfl) (by kernel_rfl) (by kernel_rfl) (fun _ _ _ h => h) (Or.inl ⟨by rfl, ?_⟩) hHeld ?_
        · rintro u ⟨p1, p2, p3, p4, p5, p8, -⟩
          go_simp <;> first | rfl | kernel_rfl
        try simp only [Act.put, List.setIfInBounds_toArray, List.set_cons_zero, List.set_cons_succ]
        refine wpAnyH_take (i := 20) (oi := { dst := some 129, op := Op.fieldAddr 35 (Operand.tmp 6) 3, type := 0, pos := "law.go:71", after := #[{ on := 8, ground := Ground.guard }], guard := some (8, false) }) (v := (.pointer (some ⟨b6, 8, none⟩))) rfl (by kernel_rfl) (by kernel_rfl) (by kernel_rfl) (fun _ _ _ h => h) (Or.inl ⟨by rfl, ?_⟩) hHeld ?_
        · rintro u ⟨p1, p2, p3, p4, p5, p8, -⟩
          go_simp <;> first | rfl | kernel_rfl
        try simp only [Act.put, List.setIfInBounds_toArray, List.set_cons_zero, List.set_cons_succ]
        refine wpAnyH_take (i := 21) (oi := { dst := some 130, op := Op.load 3 (Operand.tmp 129), type := 3, pos := "law.go:71", after := #[{ on := 20, ground := Ground.data }, { on := 8, ground := Ground.guard }], guard := some (8, false) }) (v := (.int .i64 day)) rfl (by kernel_rfl) (by kernel_rfl) (by kernel_rfl) (fun _ _ _ h => h) (Or.inl ⟨by rfl, ?_⟩) hHeld ?_
        · rintro u ⟨p1, p2, p3, p4, p5, p8, -⟩
          go_simp <;> first | rfl | kernel_rfl
        try simp only [Act.put, List.setIfInBounds_toArray, List.set_cons_zero, List.set_cons_succ]
        refine wpAnyH_ready (rs := [15]) (by kernel_rfl) (by simp) ?_
        refine AllReadyH.cons (o := { dst := some 124, op := Op.call { callee := Callee.value (Operand.func 17), args := #[Operand.tmp 118, Operand.tmp 121, Operand.tmp 123], argTypes := #[25, 28, 3] }, type := 4, pos := "law.go:71", after := #[{ on := 9, ground := Ground.data }, { on := 12, ground := Ground.data }, { on := 14, ground := Ground.data }, { on := 8, ground := Ground.chain }, { on := 8, ground := Ground.guard }], guard := some (8, false) }) rfl (fun Kq hKq => ?_) AllReadyH.nil
        go_simp
        refine (KS.out _ (hHeld.2.2.2.2.2.2)).mono ?_
        rintro e u15 ⟨rfl, hb15⟩
        have B15 := Below.trans hHeld.2.2.2.2.2.2 (hb15.mono (Below.size hHeld.2.2.2.2.2.2))
        go_wp2_with fail
        refine hKq.out _ _ (⟨(RX4.out.later (B15)).cell 1, (RX4.out.later (B15)).cell 2, (RX4.out.later (B15)).cell 3, (RX4.out.later (B15)).cell 4, (RX4.out.later (B15)).cell 5, (RX4.out.later (B15)).cell 8, B15⟩) (fun hHeld15 => ?_)
        clear hKq Kq
        try simp only [Act.put, List.setIfInBounds_toArray, List.set_cons_zero, List.set_cons_succ]
        refine wpAnyH_ready (rs := [22]) (by kernel_rfl) (by simp) ?_
        refine AllReadyH.cons (o := { dst := some 131, op := Op.call { callee := Callee.value (Operand.func 18), args := #[Operand.tmp 125, Operand.tmp 128, Operand.tmp 130], argTypes := #[27, 28, 3] }, type := 4, pos := "law.go:71", after := #[{ on := 16, ground := Ground.data }, { on := 19, ground := Ground.data }, { on := 21, ground := Ground.data }, { on := 15, ground := Ground.chain }, { on := 8, ground := Ground.guard }], guard := some (8, false) }) rfl (fun Kq hKq => ?_) AllReadyH.nil
        go_simp
        refine (KRS.out _ (hHeld15.2.2.2.2.2.2)).mono ?_
        rintro e u5 ⟨rfl, rfl⟩
        have B22 := hHeld15.2.2.2.2.2.2
        go_wp2_with fail
        refine hKq.out _ _ (⟨(RX4.out.later (B22)).cell 1, (RX4.out.later (B22)).cell 2, (RX4.out.later (B22)).cell 3, (RX4.out.later (B22)).cell 4, (RX4.out.later (B22)).cell 5, (RX4.out.later (B22)).cell 8, B22⟩) (fun hHeld22 => ?_)
        clear hKq Kq
        try simp only [Act.put, List.setIfInBounds_toArray, List.set_cons_zero, List.set_cons_succ]
        refine wpAnyH_take (i := 23) (oi := { dst := some 132, op := Op.binOp BinOp.neq 4 (Operand.tmp 124) (Operand.tmp 131) 4, type := 4, pos := "law.go:71", after := #[{ on := 15, ground := Ground.data }, { on := 22, ground := Ground.data }, { on := 8, ground := Ground.guard }], guard := some (8, false) }) (v := (.bool false)) rfl (by kernel_rfl) (by kernel_rfl) (by kernel_rfl) (fun _ _ _ h => h) (Or.inl ⟨by rfl, ?_⟩) hHeld22 ?_
        · rintro u ⟨p1, p2, p3, p4, p5, p8, -⟩
          go_simp <;> first | rfl | kernel_rfl
        try simp only [Act.put, List.setIfInBounds_toArray, List.set_cons_zero, List.set_cons_succ]
        refine wpAnyH_take (i := 24) (oi := { dst := some 133, op := Op.pick (Operand.tmp 117) (Operand.const (Value.bool true)) (Operand.tmp 132), type := 4, pos := "law.go:71", after := #[{ on := 8, ground := Ground.data }, { on := 23, ground := Ground.data }], guard := none }) (v := (.bool false)) rfl (by kernel_rfl) (by kernel_rfl) (by kernel_rfl) (fun _ _ _ h => h) (Or.inl ⟨by rfl, ?_⟩) hHeld22 ?_
        · rintro u ⟨p1, p2, p3, p4, p5, p8, -⟩
          go_simp <;> first | rfl | kernel_rfl
        try simp only [Act.put, List.setIfInBounds_toArray, List.set_cons_zero, List.set_cons_succ]
        refine wpAnyH_take (i := 25) (oi := { dst := some 134, op := Op.move (Operand.tmp 133), type := 4, pos := "law.go:71", after := #[{ on := 24, ground := Ground.data }, { on := 22, ground := Ground.chain }], guard := none }) (v := (.bool false)) rfl (by kernel_rfl) (by kernel_rfl) (by kernel_rfl) (fun _ _ _ h => h) (Or.inl ⟨by rfl, ?_⟩) hHeld22 ?_
        · rintro u ⟨p1, p2, p3, p4, p5, p8, -⟩
          go_simp <;> first | rfl | kernel_rfl
        try simp only [Act.put, List.setIfInBounds_toArray, List.set_cons_zero, List.set_cons_succ]
        refine wpAnyH_take (i := 26) (oi := { dst := some 135, op := Op.fieldAddr 35 (Operand.tmp 6) 1, type := 0, pos := "law.go:71", after := #[{ on := 25, ground := Ground.guard }], guard := some (25, false) }) (v := (.pointer (some ⟨b6, 1, none⟩))) rfl (by kernel_rfl) (by kernel_rfl) (by kernel_rfl) (fun _ _ _ h => h) (Or.inl ⟨by rfl, ?_⟩) hHeld22 ?_
        · rintro u ⟨p1, p2, p3, p4, p5, p8, -⟩
          go_simp <;> first | rfl | kernel_rfl
        try simp only [Act.put, List.setIfInBounds_toArray, List.set_cons_zero, List.set_cons_succ]
        refine wpAnyH_take (i := 27) (oi := { dst := some 136, op := Op.load 31 (Operand.tmp 135), type := 31, pos := "law.go:71", after := #[{ on := 26, ground := Ground.data }, { on := 25, ground := Ground.guard }], guard := some (25, false) }) (v := (.agg #[.int .u64 id, .string name, .int .i64 every, .slice pa L.length pc, .int .i64 ret])) rfl (by kernel_rfl) (by kernel_rfl) (by kernel_rfl) (fun _ _ _ h => h) (Or.inl ⟨by rfl, ?_⟩) hHeld22 ?_
        · rintro u ⟨p1, p2, p3, p4, p5, p8, -⟩
          go_simp <;> first | rfl | kernel_rfl
        try simp only [Act.put, List.setIfInBounds_toArray, List.set_cons_zero, List.set_cons_succ]
        refine wpAnyH_take (i := 29) (oi := { dst := some 138, op := Op.fieldAddr 35 (Operand.tmp 6) 1, type := 0, pos := "law.go:71", after := #[{ on := 25, ground := Ground.guard }], guard := some (25, false) }) (v := (.pointer (some ⟨b6, 1, none⟩))) rfl (by kernel_rfl) (by kernel_rfl) (by kernel_rfl) (fun _ _ _ h => h) (Or.inl ⟨by rfl, ?_⟩) hHeld22 ?_
        · rintro u ⟨p1, p2, p3, p4, p5, p8, -⟩
          go_simp <;> first | rfl | kernel_rfl
        try simp only [Act.put, List.setIfInBounds_toArray, List.set_cons_zero, List.set_cons_succ]
        refine wpAnyH_take (i := 30) (oi := { dst := some 139, op := Op.load 31 (Operand.tmp 138), type := 31, pos := "law.go:71", after := #[{ on := 29, ground := Ground.data }, { on := 25, ground := Ground.guard }], guard := some (25, false) }) (v := (.agg #[.int .u64 id, .string name, .int .i64 every, .slice pa L.length pc, .int .i64 ret])) rfl (by kernel_rfl) (by kernel_rfl) (by kernel_rfl) (fun _ _ _ h => h) (Or.inl ⟨by rfl, ?_⟩) hHeld22 ?_
        · rintro u ⟨p1, p2, p3, p4, p5, p8, -⟩
          go_simp <;> first | rfl | kernel_rfl
        try simp only [Act.put, List.setIfInBounds_toArray, List.set_cons_zero, List.set_cons_succ]
        refine wpAnyH_ready (rs := [28]) (by kernel_rfl) (by simp) ?_
        refine AllReadyH.cons (o := { dst := some 137, op := Op.call { callee := Callee.value (Operand.func 19), args := #[Operand.tmp 136], argTypes := #[31] }, type := 38, pos := "law.go:71", after := #[{ on := 27, ground := Ground.data }, { on := 25, ground := Ground.chain }, { on := 25, ground := Ground.guard }], guard := some (25, false) }) rfl (fun Kq hKq => ?_) AllReadyH.nil
        go_simp
        refine (KK.out _ (hHeld22.2.2.2.2.2.2)).mono ?_
        rintro e u28 ⟨rfl, hb28⟩
        have B28 := Below.trans hHeld22.2.2.2.2.2.2 (hb28.mono (Below.size hHeld22.2.2.2.2.2.2))
        go_wp2_with fail
        refine hKq.out _ _ (⟨(RX4.out.later (B28)).cell 1, (RX4.out.later (B28)).cell 2, (RX4.out.later (B28)).cell 3, (RX4.out.later (B28)).cell 4, (RX4.out.later (B28)).cell 5, (RX4.out.later (B28)).cell 8, B28⟩) (fun hHeld28 => ?_)
        clear hKq Kq
        try simp only [Act.put, List.setIfInBounds_toArray, List.set_cons_zero, List.set_cons_succ]
        refine wpAnyH_ready (rs := [31]) (by kernel_rfl) (by simp) ?_
        refine AllReadyH.cons (o := { dst := some 140, op := Op.call { callee := Callee.value (Operand.func 20), args := #[Operand.tmp 139], argTypes := #[31] }, type := 3, pos := "law.go:71", after := #[{ on := 30, ground := Ground.data }, { on := 28, ground := Ground.chain }, { on := 25, ground := Ground.guard }], guard := some (25, false) }) rfl (fun Kq hKq => ?_) AllReadyH.nil
        go_simp
        refine (KRK.out _ (hHeld28.2.2.2.2.2.2)).mono ?_
        rintro e u31 ⟨rfl, hb31⟩
        have B31 := Below.trans hHeld28.2.2.2.2.2.2 (hb31.mono (Below.size hHeld28.2.2.2.2.2.2))
        go_wp2_with fail
        refine hKq.out _ _ (⟨(RX4.out.later (B31)).cell 1, (RX4.out.later (B31)).cell 2, (RX4.out.later (B31)).cell 3, (RX4.out.later (B31)).cell 4, (RX4.out.later (B31)).cell 5, (RX4.out.later (B31)).cell 8, B31⟩) (fun hHeld31 => ?_)
        clear hKq Kq
        try simp only [Act.put, List.setIfInBounds_toArray, List.set_cons_zero, List.set_cons_succ]
        refine wpAnyH_take (i := 32) (oi := { dst := some 141, op := Op.binOp BinOp.neq 3 (Operand.tmp 137) (Operand.tmp 140) 3, type := 4, pos := "law.go:71", after := #[{ on := 28, ground := Ground.data }, { on := 31, ground := Ground.data }, { on := 25, ground := Ground.guard }], guard := some (25, false) }) (v := (.bool false)) rfl (by kernel_rfl) (by kernel_rfl) (by kernel_rfl) (fun _ _ _ h => h) (Or.inl ⟨by rfl, ?_⟩) hHeld31 ?_
        · rintro u ⟨p1, p2, p3, p4, p5, p8, -⟩
          go_simp <;> first | rfl | kernel_rfl
        try simp only [Act.put, List.setIfInBounds_toArray, List.set_cons_zero, List.set_cons_succ]
        refine wpAnyH_take (i := 33) (oi := { dst := some 142, op := Op.pick (Operand.tmp 134) (Operand.const (Value.bool true)) (Operand.tmp 141), type := 4, pos := "law.go:71", after := #[{ on := 25, ground := Ground.data }, { on := 32, ground := Ground.data }], guard := none }) (v := (.bool false)) rfl (by kernel_rfl) (by kernel_rfl) (by kernel_rfl) (fun _ _ _ h => h) (Or.inl ⟨by rfl, ?_⟩) hHeld31 ?_
        · rintro u ⟨p1, p2, p3, p4, p5, p8, -⟩
          go_simp <;> first | rfl | kernel_rfl
        try simp only [Act.put, List.setIfInBounds_toArray, List.set_cons_zero, List.set_cons_succ]
        refine wpAnyH_take (i := 34) (oi := { dst := some 143, op := Op.move (Operand.tmp 142), type := 4, pos := "law.go:71", after := #[{ on := 33, ground := Ground.data }, { on := 31, ground := Ground.chain }], guard := none }) (v := (.bool false)) rfl (by kernel_rfl) (by kernel_rfl) (by kernel_rfl) (fun _ _ _ h => h) (Or.inl ⟨by rfl, ?_⟩) hHeld31 ?_
        · rintro u ⟨p1, p2, p3, p4, p5, p8, -⟩
          go_simp <;> first | rfl | kernel_rfl
        try simp only [Act.put, List.setIfInBounds_toArray, List.set_cons_zero, List.set_cons_succ]
        refine wpAnyH_take (i := 35) (oi := { dst := some 144, op := Op.move (Operand.tmp 3), type := 25, pos := "law.go:71", after := #[{ on := 34, ground := Ground.guard }], guard := some (34, false) }) (v := (.pointer (some ⟨c, 0, none⟩))) rfl (by kernel_rfl) (by kernel_rfl) (by kernel_rfl) (fun _ _ _ h => h) (Or.inl ⟨by rfl, ?_⟩) hHeld31 ?_
        · rintro u ⟨p1, p2, p3, p4, p5, p8, -⟩
          go_simp <;> first | rfl | kernel_rfl
        try simp only [Act.put, List.setIfInBounds_toArray, List.set_cons_zero, List.set_cons_succ]
        refine wpAnyH_take (i := 37) (oi := { dst := some 146, op := Op.move (Operand.tmp 4), type := 27, pos := "law.go:71", after := #[{ on := 34, ground := Ground.guard }], guard := some (34, false) }) (v := (.slice va' Q'.length vc')) rfl (by kernel_rfl) (by kernel_rfl) (by kernel_rfl) (fun _ _ _ h => h) (Or.inl ⟨by rfl, ?_⟩) hHeld31 ?_
        · rintro u ⟨p1, p2, p3, p4, p5, p8, -⟩
          go_simp <;> first | rfl | kernel_rfl
        try simp only [Act.put, List.setIfInBounds_toArray, List.set_cons_zero, List.set_cons_succ]
        refine wpAnyH_ready (rs := [36]) (by kernel_rfl) (by simp) ?_
        refine AllReadyH.cons (o := { dst := some 145, op := Op.call { callee := Callee.value (Operand.func 22), args := #[Operand.tmp 144], argTypes := #[25] }, type := 27, pos := "law.go:71", after := #[{ on := 35, ground := Ground.data }, { on := 34, ground := Ground.chain }, { on := 34, ground := Ground.guard }], guard := some (34, false) }) rfl (fun Kq hKq => ?_) AllReadyH.nil
        go_simp
        refine (KA.out _ (hHeld31.2.2.2.2.2.2)).mono ?_
        rintro e u36 ⟨ua, um, uc, rfl, hb36, hsame⟩
        have B36 := Below.trans hHeld31.2.2.2.2.2.2 (hb36.mono (Below.size hHeld31.2.2.2.2.2.2))
        have HSM2 := Lib.hid hsame
        clear hsame hb36
        go_wp2_with fail
        refine hKq.out _ _ (⟨(RX4.out.later (B36)).cell 1, (RX4.out.later (B36)).cell 2, (RX4.out.later (B36)).cell 3, (RX4.out.later (B36)).cell 4, (RX4.out.later (B36)).cell 5, (RX4.out.later (B36)).cell 8, B36⟩) (fun hHeld36 => ?_)
        clear hKq Kq
        try simp only [Act.put, List.setIfInBounds_toArray, List.set_cons_zero, List.set_cons_succ]
        refine wpAnyH_ready (rs := [38]) (by kernel_rfl) (by simp) ?_
        refine AllReadyH.cons (o := { dst := some 147, op := Op.call { callee := Callee.value (Operand.func 21), args := #[Operand.tmp 145, Operand.tmp 146], argTypes := #[27, 27] }, type := 4, pos := "law.go:71", after := #[{ on := 36, ground := Ground.data }, { on := 37, ground := Ground.data }, { on := 36, ground := Ground.chain }, { on := 34, ground := Ground.guard }], guard := some (34, false) }) rfl (fun Kq hKq => ?_) AllReadyH.nil
        go_simp
        refine (HSM2.out _ (Below.refl _ _)).mono ?_
        rintro e u38 ⟨rfl, hb38⟩
        have B38 := Below.trans hHeld36.2.2.2.2.2.2 (hb38.mono (Below.size hHeld36.2.2.2.2.2.2))
        go_wp2_with fail
        refine hKq.out _ _ (⟨(RX4.out.later (B38)).cell 1, (RX4.out.later (B38)).cell 2, (RX4.out.later (B38)).cell 3, (RX4.out.later (B38)).cell 4, (RX4.out.later (B38)).cell 5, (RX4.out.later (B38)).cell 8, B38⟩) (fun hHeld38 => ?_)
        clear hKq Kq
        try simp only [Act.put, List.setIfInBounds_toArray, List.set_cons_zero, List.set_cons_succ]
        refine wpAnyH_take (i := 39) (oi := { dst := some 148, op := Op.unOp UnOp.not 4 (Operand.tmp 147), type := 4, pos := "law.go:71", after := #[{ on := 38, ground := Ground.data }, { on := 34, ground := Ground.guard }], guard := some (34, false) }) (v := (.bool false)) rfl (by kernel_rfl) (by kernel_rfl) (by kernel_rfl) (fun _ _ _ h => h) (Or.inl ⟨by rfl, ?_⟩) hHeld38 ?_
        · rintro u ⟨p1, p2, p3, p4, p5, p8, -⟩
          go_simp <;> first | rfl | kernel_rfl
        try simp only [Act.put, List.setIfInBounds_toArray, List.set_cons_zero, List.set_cons_succ]
        refine wpAnyH_take (i := 40) (oi := { dst := some 149, op := Op.pick (Operand.tmp 143) (Operand.const (Value.bool true)) (Operand.tmp 148), type := 4, pos := "law.go:71", after := #[{ on := 34, ground := Ground.data }, { on := 39, ground := Ground.data }], guard := none }) (v := (.bool false)) rfl (by kernel_rfl) (by kernel_rfl) (by kernel_rfl) (fun _ _ _ h => h) (Or.inl ⟨by rfl, ?_⟩) hHeld38 ?_
        · rintro u ⟨p1, p2, p3, p4, p5, p8, -⟩
          go_simp <;> first | rfl | kernel_rfl
        try simp only [Act.put, List.setIfInBounds_toArray, List.set_cons_zero, List.set_cons_succ]
        refine wpAnyH_done (by kernel_rfl) ?_ _
        have S5 := Lib.hid (S4.out.later B38)
        have RX5 := Lib.hid (RX4.out.later B38)
        clear S4 RX4 KS KRS KK KRK KA HSM2

        go_upto_region 27 with (fail)
        obtain ⟨g, hg⟩ : ∃ g, g = getT M' id := ⟨_, rfl⟩
        have KGT := Lib.hid (ct_get S5.out.ct id HU.out)
        unfold GetT at KGT
        rw [← hg] at KGT
        have HG := Lib.hid hg
        have KAT : Hid (∀ u, Below u38.heap.size u38 u → Calls Try.prog 24 #[.slice va' Q'.length vc', .int .u64 id] u (AtRes M' Q' id u)) := fun u hu => at_c S5.out.tied (S5.out.doc.later hu) id hq
        clear hg
        have x1 : u38.cell? ⟨b6, 1, none⟩ = some (.int .u64 id) := RX5.out.cell 1
        go_wp2_with fail
        refine KGT.out.mono ?_
        rintro _ w6 ⟨pv, hpv, rfl, ho6, hb6⟩
        obtain ⟨⟨gid, gn, ge, gl, gr⟩, gg, gc⟩ := pv
        unfold Pv.val Pn.val
        unfold Pv.sl at ho6
        simp only at hpv ho6 ⊢
        have HO6 := Lib.hid ho6
        obtain ⟨gx, gz⟩ := g
        simp only at hpv
        have HPV := Lib.hid hpv
        clear hpv ho6 KGT x1
        go_upto_region 28 with (fail)
        have B6 : Hid (Below u38.heap.size u38 (w6.alloc (.cells #[.int .u64 gid, .string gn, .int .i64 ge, .slice (adr gg) gl.length gc, .int .i64 gr] TPlan))) := hb6.alloc hb6.size _
        have hb7 : Below w6.heap.size w6 (w6.alloc (.cells #[.int .u64 gid, .string gn, .int .i64 ge, .slice (adr gg) gl.length gc, .int .i64 gr] TPlan)) := (Below.refl _ _).alloc (Nat.le_refl _) _
        have HO7 := Lib.hid (own_later HO6.out hb7)
        have RG : Hid (Rw (w6.alloc (.cells #[.int .u64 gid, .string gn, .int .i64 ge, .slice (adr gg) gl.length gc, .int .i64 gr] TPlan)) w6.heap.size TPlan [.int .u64 gid, .string gn, .int .i64 ge, .slice (adr gg) gl.length gc, .int .i64 gr]) := Rw.new w6 [.int .u64 gid, .string gn, .int .i64 ge, .slice (adr gg) gl.length gc, .int .i64 gr] TPlan
        have RX6 := Lib.hid (RX5.out.later B6.out)
        have S6 := Lib.hid (S5.out.later B6.out)
        obtain ⟨bg, hbg⟩ : ∃ bg, bg = w6.heap.size := ⟨_, rfl⟩
        rw [← hbg] at RG ⊢
        generalize w6.alloc (.cells #[.int .u64 gid, .string gn, .int .i64 ge, .slice (adr gg) gl.length gc, .int .i64 gr] TPlan) = W7 at B6 HO7 RG RX6 S6 ⊢
        clear hb6 hb7 hbg HO6 RX5 S5
        have x1 : W7.cell? ⟨b6, 1, none⟩ = some (.int .u64 id) := RX6.out.cell 1
        go_wp2_with fail
        refine (KAT.out _ B6.out).mono ?_
        rintro _ _ ⟨rfl, z, rfl, hz⟩
        clear x1 KAT B6 RX6
        have HKX2 := HKX.out
        have HLT2 := HLT.out
        rcases hz with ⟨rfl, hm⟩ | ⟨k, hk, hm, hid, rfl⟩
        · have HG7 : Hid (gz = 7) := by
            have := HG.out
            unfold getT at this
            rw [hm] at this
            injection this
          obtain rfl := HG7.out
          clear hm
          go_upto_region 29 with (fail)
          refine wp_region_held_drew (S := (fun _ => True)) (by kernel_rfl) ?_ (fun hHeld => ?_)
          · exact trivial
          refine wpAnyH_take (i := 0) (oi := { dst := some 163, op := Op.move (Operand.tmp 14), type := 3, pos := "law.go:76", after := #[], guard := none }) (v := (.int .i64 (-1))) rfl (by kernel_rfl) (by kernel_rfl) (by kernel_rfl) (fun _ _ _ h => h) (Or.inl ⟨by rfl, ?_⟩) hHeld ?_
          · rintro u -
            go_simp <;> first | rfl | kernel_rfl
          try simp only [Act.put, List.setIfInBounds_toArray, List.set_cons_zero, List.set_cons_succ]
          refine wpAnyH_take (i := 1) (oi := { dst := some 164, op := Op.binOp BinOp.lss 3 (Operand.tmp 163) (Operand.const (Value.int IntKind.i64 0)) 3, type := 4, pos := "law.go:76", after := #[{ on := 0, ground := Ground.data }], guard := none }) (v := (.bool true)) rfl (by kernel_rfl) (by kernel_rfl) (by kernel_rfl) (fun _ _ _ h => h) (Or.inl ⟨by rfl, ?_⟩) hHeld ?_
          · rintro u -
            go_simp <;> first | rfl | kernel_rfl
          try simp only [Act.put, List.setIfInBounds_toArray, List.set_cons_zero, List.set_cons_succ]
          refine wpAnyH_take (i := 2) (oi := { dst := some 165, op := Op.move (Operand.tmp 164), type := 4, pos := "law.go:76", after := #[{ on := 1, ground := Ground.data }], guard := none }) (v := (.bool true)) rfl (by kernel_rfl) (by kernel_rfl) (by kernel_rfl) (fun _ _ _ h => h) (Or.inl ⟨by rfl, ?_⟩) hHeld ?_
          · rintro u -
            go_simp <;> first | rfl | kernel_rfl
          try simp only [Act.put, List.setIfInBounds_toArray, List.set_cons_zero, List.set_cons_succ]
          refine wpAnyH_take (i := 3) (oi := { dst := some 166, op := Op.move (Operand.tmp 13), type := 38, pos := "law.go:76", after := #[{ on := 2, ground := Ground.guard }], guard := some (2, true) }) (v := (.int .i64 7)) rfl (by kernel_rfl) (by kernel_rfl) (by kernel_rfl) (fun _ _ _ h => h) (Or.inl ⟨by rfl, ?_⟩) hHeld ?_
          · rintro u -
            go_simp <;> first | rfl | kernel_rfl
          try simp only [Act.put, List.setIfInBounds_toArray, List.set_cons_zero, List.set_cons_succ]
          refine wpAnyH_take (i := 4) (oi := { dst := some 167, op := Op.binOp BinOp.neq 38 (Operand.tmp 166) (Operand.const (Value.int IntKind.i64 7)) 38, type := 4, pos := "law.go:76", after := #[{ on := 3, ground := Ground.data }, { on := 2, ground := Ground.guard }], guard := some (2, true) }) (v := (.bool false)) rfl (by kernel_rfl) (by kernel_rfl) (by kernel_rfl) (fun _ _ _ h => h) (Or.inl ⟨by rfl, ?_⟩) hHeld ?_
          · rintro u -
            go_simp <;> first | rfl | kernel_rfl
          try simp only [Act.put, List.setIfInBounds_toArray, List.set_cons_zero, List.set_cons_succ]
          refine wpAnyH_take (i := 5) (oi := { dst := some 168, op := Op.pick (Operand.tmp 165) (Operand.tmp 167) (Operand.const (Value.bool false)), type := 4, pos := "law.go:76", after := #[{ on := 2, ground := Ground.data }, { on := 4, ground := Ground.data }], guard := none }) (v := (.bool false)) rfl (by kernel_rfl) (by kernel_rfl) (by kernel_rfl) (fun _ _ _ h => h) (Or.inl ⟨by rfl, ?_⟩) hHeld ?_
          · rintro u -
            go_simp <;> first | rfl | kernel_rfl
          try simp only [Act.put, List.setIfInBounds_toArray, List.set_cons_zero, List.set_cons_succ]
          refine wpAnyH_take (i := 6) (oi := { dst := some 169, op := Op.move (Operand.tmp 168), type := 4, pos := "law.go:76", after := #[{ on := 5, ground := Ground.data }, { on := 2, ground := Ground.chain }], guard := none }) (v := (.bool false)) rfl (by kernel_rfl) (by kernel_rfl) (by kernel_rfl) (fun _ _ _ h => h) (Or.inl ⟨by rfl, ?_⟩) hHeld ?_
          · rintro u -
            go_simp <;> first | rfl | kernel_rfl
          try simp only [Act.put, List.setIfInBounds_toArray, List.set_cons_zero, List.set_cons_succ]
          refine wpAnyH_take (i := 7) (oi := { dst := some 170, op := Op.move (Operand.tmp 14), type := 3, pos := "law.go:76", after := #[{ on := 6, ground := Ground.guard }], guard := some (6, false) }) (v := (.int .i64 (-1))) rfl (by kernel_rfl) (by kernel_rfl) (by kernel_rfl) (fun _ _ _ h => h) (Or.inl ⟨by rfl, ?_⟩) hHeld ?_
          · rintro u -
            go_simp <;> first | rfl | kernel_rfl
          try simp only [Act.put, List.setIfInBounds_toArray, List.set_cons_zero, List.set_cons_succ]
          refine wpAnyH_take (i := 8) (oi := { dst := some 171, op := Op.binOp BinOp.geq 3 (Operand.tmp 170) (Operand.const (Value.int IntKind.i64 0)) 3, type := 4, pos := "law.go:76", after := #[{ on := 7, ground := Ground.data }, { on := 6, ground := Ground.guard }], guard := some (6, false) }) (v := (.bool false)) rfl (by kernel_rfl) (by kernel_rfl) (by kernel_rfl) (fun _ _ _ h => h) (Or.inl ⟨by rfl, ?_⟩) hHeld ?_
          · rintro u -
            go_simp <;> first | rfl | kernel_rfl
          try simp only [Act.put, List.setIfInBounds_toArray, List.set_cons_zero, List.set_cons_succ]
          refine wpAnyH_take (i := 9) (oi := { dst := some 172, op := Op.move (Operand.tmp 171), type := 4, pos := "law.go:76", after := #[{ on := 8, ground := Ground.data }, { on := 6, ground := Ground.chain }, { on := 6, ground := Ground.guard }], guard := some (6, false) }) (v := (.bool false)) rfl (by kernel_rfl) (by kernel_rfl) (by kernel_rfl) (fun _ _ _ h => h) (Or.inl ⟨by rfl, ?_⟩) hHeld ?_
          · rintro u -
            go_simp <;> first | rfl | kernel_rfl
          try simp only [Act.put, List.setIfInBounds_toArray, List.set_cons_zero, List.set_cons_succ]
          refine wpAnyH_take (i := 10) (oi := { dst := some 173, op := Op.move (Operand.tmp 13), type := 38, pos := "law.go:76", after := #[{ on := 9, ground := Ground.guard }], guard := some (9, true) }) (v := undef) rfl (by kernel_rfl) (by kernel_rfl) (by kernel_rfl) (fun _ _ _ h => h) (Or.inr ⟨by rfl, rfl⟩) hHeld ?_
          try simp only [Act.put, List.setIfInBounds_toArray, List.set_cons_zero, List.set_cons_succ]
          refine wpAnyH_take (i := 11) (oi := { dst := some 174, op := Op.binOp BinOp.neq 38 (Operand.tmp 173) (Operand.const (Value.int IntKind.i64 0)) 38, type := 4, pos := "law.go:76", after := #[{ on := 10, ground := Ground.data }, { on := 9, ground := Ground.guard }], guard := some (9, true) }) (v := undef) rfl (by kernel_rfl) (by kernel_rfl) (by kernel_rfl) (fun _ _ _ h => h) (Or.inr ⟨by rfl, rfl⟩) hHeld ?_
          try simp only [Act.put, List.setIfInBounds_toArray, List.set_cons_zero, List.set_cons_succ]
          refine wpAnyH_take (i := 12) (oi := { dst := some 175, op := Op.move (Operand.tmp 174), type := 4, pos := "law.go:76", after := #[{ on := 11, ground := Ground.data }, { on := 9, ground := Ground.chain }, { on := 9, ground := Ground.guard }], guard := some (9, true) }) (v := undef) rfl (by kernel_rfl) (by kernel_rfl) (by kernel_rfl) (fun _ _ _ h => h) (Or.inr ⟨by rfl, rfl⟩) hHeld ?_
          try simp only [Act.put, List.setIfInBounds_toArray, List.set_cons_zero, List.set_cons_succ]
          refine wpAnyH_take (i := 13) (oi := { dst := some 176, op := Op.load 31 (Operand.tmp 12), type := 31, pos := "law.go:76", after := #[{ on := 12, ground := Ground.guard }], guard := some (12, false) }) (v := undef) rfl (by kernel_rfl) (by kernel_rfl) (by kernel_rfl) (fun _ _ _ h => h) (Or.inr ⟨by rfl, rfl⟩) hHeld ?_
          try simp only [Act.put, List.setIfInBounds_toArray, List.set_cons_zero, List.set_cons_succ]
          refine wpAnyH_take (i := 14) (oi := { dst := some 177, op := Op.move (Operand.tmp 4), type := 27, pos := "law.go:76", after := #[{ on := 12, ground := Ground.guard }], guard := some (12, false) }) (v := undef) rfl (by kernel_rfl) (by kernel_rfl) (by kernel_rfl) (fun _ _ _ h => h) (Or.inr ⟨by rfl, rfl⟩) hHeld ?_
          try simp only [Act.put, List.setIfInBounds_toArray, List.set_cons_zero, List.set_cons_succ]
          refine wpAnyH_take (i := 15) (oi := { dst := some 178, op := Op.move (Operand.tmp 14), type := 3, pos := "law.go:76", after := #[{ on := 12, ground := Ground.guard }], guard := some (12, false) }) (v := undef) rfl (by kernel_rfl) (by kernel_rfl) (by kernel_rfl) (fun _ _ _ h => h) (Or.inr ⟨by rfl, rfl⟩) hHeld ?_
          try simp only [Act.put, List.setIfInBounds_toArray, List.set_cons_zero, List.set_cons_succ]
          refine wpAnyH_take (i := 16) (oi := { dst := some 179, op := Op.indexAddr 27 (Operand.tmp 177) (Operand.tmp 178), type := 0, pos := "law.go:76", after := #[{ on := 14, ground := Ground.data }, { on := 15, ground := Ground.data }, { on := 12, ground := Ground.guard }], guard := some (12, false) }) (v := undef) rfl (by kernel_rfl) (by kernel_rfl) (by kernel_rfl) (fun _ _ _ h => h) (Or.inr ⟨by rfl, rfl⟩) hHeld ?_
          try simp only [Act.put, List.setIfInBounds_toArray, List.set_cons_zero, List.set_cons_succ]
          refine wpAnyH_take (i := 17) (oi := { dst := some 180, op := Op.load 31 (Operand.tmp 179), type := 31, pos := "law.go:76", after := #[{ on := 16, ground := Ground.data }, { on := 12, ground := Ground.guard }], guard := some (12, false) }) (v := undef) rfl (by kernel_rfl) (by kernel_rfl) (by kernel_rfl) (fun _ _ _ h => h) (Or.inr ⟨by rfl, rfl⟩) hHeld ?_
          try simp only [Act.put, List.setIfInBounds_toArray, List.set_cons_zero, List.set_cons_succ]
          refine wpAnyH_take (i := 18) (oi := { dst := some 181, op := Op.call { callee := Callee.value (Operand.func 25), args := #[Operand.tmp 176, Operand.tmp 180], argTypes := #[31, 31] }, type := 4, pos := "law.go:76", after := #[{ on := 13, ground := Ground.data }, { on := 17, ground := Ground.data }, { on := 12, ground := Ground.chain }, { on := 12, ground := Ground.guard }], guard := some (12, false) }) (v := undef) rfl (by kernel_rfl) (by kernel_rfl) (by kernel_rfl) (fun _ _ _ h => h) (Or.inr ⟨by rfl, rfl⟩) hHeld ?_
          try simp only [Act.put, List.setIfInBounds_toArray, List.set_cons_zero, List.set_cons_succ]
          refine wpAnyH_take (i := 19) (oi := { dst := some 182, op := Op.unOp UnOp.not 4 (Operand.tmp 181), type := 4, pos := "law.go:76", after := #[{ on := 18, ground := Ground.data }, { on := 12, ground := Ground.guard }], guard := some (12, false) }) (v := undef) rfl (by kernel_rfl) (by kernel_rfl) (by kernel_rfl) (fun _ _ _ h => h) (Or.inr ⟨by rfl, rfl⟩) hHeld ?_
          try simp only [Act.put, List.setIfInBounds_toArray, List.set_cons_zero, List.set_cons_succ]
          refine wpAnyH_take (i := 20) (oi := { dst := some 183, op := Op.pick (Operand.tmp 175) (Operand.const (Value.bool true)) (Operand.tmp 182), type := 4, pos := "law.go:76", after := #[{ on := 12, ground := Ground.data }, { on := 19, ground := Ground.data }, { on := 9, ground := Ground.guard }], guard := some (9, true) }) (v := undef) rfl (by kernel_rfl) (by kernel_rfl) (by kernel_rfl) (fun _ _ _ h => h) (Or.inr ⟨by rfl, rfl⟩) hHeld ?_
          try simp only [Act.put, List.setIfInBounds_toArray, List.set_cons_zero, List.set_cons_succ]
          refine wpAnyH_take (i := 21) (oi := { dst := some 184, op := Op.pick (Operand.tmp 172) (Operand.tmp 183) (Operand.const (Value.bool false)), type := 4, pos := "law.go:76", after := #[{ on := 9, ground := Ground.data }, { on := 20, ground := Ground.data }, { on := 6, ground := Ground.guard }], guard := some (6, false) }) (v := (.bool false)) rfl (by kernel_rfl) (by kernel_rfl) (by kernel_rfl) (fun _ _ _ h => h) (Or.inl ⟨by rfl, ?_⟩) hHeld ?_
          · rintro u -
            go_simp <;> first | rfl | kernel_rfl
          try simp only [Act.put, List.setIfInBounds_toArray, List.set_cons_zero, List.set_cons_succ]
          refine wpAnyH_take (i := 22) (oi := { dst := some 185, op := Op.pick (Operand.tmp 169) (Operand.const (Value.bool true)) (Operand.tmp 184), type := 4, pos := "law.go:76", after := #[{ on := 6, ground := Ground.data }, { on := 21, ground := Ground.data }], guard := none }) (v := (.bool false)) rfl (by kernel_rfl) (by kernel_rfl) (by kernel_rfl) (fun _ _ _ h => h) (Or.inl ⟨by rfl, ?_⟩) hHeld ?_
          · rintro u -
            go_simp <;> first | rfl | kernel_rfl
          try simp only [Act.put, List.setIfInBounds_toArray, List.set_cons_zero, List.set_cons_succ]
          refine wpAnyH_done (by kernel_rfl) ?_ _
          go_wp2_with fail
          go_roundg (l.length - (i + 1))
          case measure => omega
          case rel => exact ⟨i + 1, F', M', K', va', vc', Q', by simp, rfl, by omega, S6.out.later (Below.refl _ W7).drew, by omega⟩
        · have HG0 : Hid ((gx, gz) = (Q'[k].x, 0)) := by
            show _ = _
            rw [HG.out]
            unfold getT
            rw [hm]
          have HGX : Hid (gx = Q'[k].x ∧ gz = 0) := by
            have := HG0.out
            injection this with h1 h2
            exact ⟨h1, h2⟩
          obtain rfl := HGX.out.2
          obtain ⟨g2, gcap, hv, hfv⟩ := S6.out.doc.five hk
          obtain ⟨rfl, rfl⟩ : va' = some ⟨g2, 0, none⟩ ∧ vc' = gcap := by simpa using hv
          have HFV : Hid (∀ u, Below W7.heap.size W7 u → Five u g2 (k * 5) Q'[k]) := fun u hu => by
            obtain ⟨g1, c1, hv1, hf1⟩ := (S6.out.doc.later hu).five hk
            cases hv1
            exact hf1
          have KS1 : Hid (∀ u, Below W7.heap.size W7 u → Calls Try.prog 25 #[.agg #[.int .u64 gid, .string gn, .int .i64 ge, .slice (adr gg) gl.length gc, .int .i64 gr], Q'[k].val] u fun e w' => e = .returned (.bool true) ∧ Below u.heap.size u w') := fun u hu => by
            have a2 := ((S6.out.doc.later hu).prs _ (List.getElem_mem hk)).1
            have hx : Q'[k].x = ⟨gid, gn, ge, gl, gr⟩ := HGX.out.1.symm.trans HPV.out.symm
            have hl := okB_len (S6.out.tied.ok hk)
            have a1 := prs_own (own_later HO7.out hu)
            rw [hx] at a2 hl
            have := one_c ⟨gid, gn, ge, gl, gr⟩ (adr gg) Q'[k].a gc Q'[k].cap u a1 a2 (by omega)
            unfold Pf.val
            rw [hx]
            exact this
          obtain ⟨q, hqq⟩ : ∃ q, q = Q'[k] := ⟨_, rfl⟩
          rw [← hqq] at HFV KS1
          obtain ⟨ad, had⟩ : ∃ ad, ad = adr gg := ⟨_, rfl⟩
          rw [← had] at KS1 RG ⊢
          have z0 : (0 : Int) ≤ (k : Int) := by omega
          have z1 : (k : Int) < (Q'.length : Int) := by omega
          have zn : ¬ (k : Int) < 0 := by omega
          clear hfv hv hqq had hm hid HG0 HGX hk
          obtain ⟨⟨qid, qn, qe, ql, qr⟩, qa, qc⟩ := q
          unfold Pf.val Pn.val at KS1
          simp only at KS1
          go_upto_region 29 with (fail)
          refine wp_region_held_drew (S := (fun u => u.cell? ⟨bg, 0, none⟩ = some (.int .u64 gid) ∧ u.cell? ⟨bg, 1, none⟩ = some (.string gn) ∧ u.cell? ⟨bg, 2, none⟩ = some (.int .i64 ge) ∧ u.cell? ⟨bg, 3, none⟩ = some (.slice ad gl.length gc) ∧ u.cell? ⟨bg, 4, none⟩ = some (.int .i64 gr) ∧ u.cell? ⟨g2, k * 5, none⟩ = some (.int .u64 qid) ∧ u.cell? ⟨g2, k * 5 + 1, none⟩ = some (.string qn) ∧ u.cell? ⟨g2, k * 5 + 2, none⟩ = some (.int .i64 qe) ∧ u.cell? ⟨g2, k * 5 + 3, none⟩ = some (.slice qa ql.length qc) ∧ u.cell? ⟨g2, k * 5 + 4, none⟩ = some (.int .i64 qr) ∧ Below W7.heap.size W7 u)) (by kernel_rfl) ?_ (fun hHeld => ?_)
          · exact ⟨(RG.out.later ((Below.refl _ W7).drew)).cell 0, (RG.out.later ((Below.refl _ W7).drew)).cell 1, (RG.out.later ((Below.refl _ W7).drew)).cell 2, (RG.out.later ((Below.refl _ W7).drew)).cell 3, (RG.out.later ((Below.refl _ W7).drew)).cell 4, (HFV.out _ ((Below.refl _ W7).drew)).c0, (HFV.out _ ((Below.refl _ W7).drew)).c1, (HFV.out _ ((Below.refl _ W7).drew)).c2, (HFV.out _ ((Below.refl _ W7).drew)).c3, (HFV.out _ ((Below.refl _ W7).drew)).c4, (Below.refl _ W7).drew⟩
          refine wpAnyH_take (i := 0) (oi := { dst := some 163, op := Op.move (Operand.tmp 14), type := 3, pos := "law.go:76", after := #[], guard := none }) (v := (.int .i64 (k : Int))) rfl (by kernel_rfl) (by kernel_rfl) (by kernel_rfl) (fun _ _ _ h => h) (Or.inl ⟨by rfl, ?_⟩) hHeld ?_
          · rintro u ⟨p0, p1, p2, p3, p4, r0, r1, r2, r3, r4, -⟩
            go_simp <;> first | rfl | kernel_rfl
          try simp only [Act.put, List.setIfInBounds_toArray, List.set_cons_zero, List.set_cons_succ]
          refine wpAnyH_take (i := 1) (oi := { dst := some 164, op := Op.binOp BinOp.lss 3 (Operand.tmp 163) (Operand.const (Value.int IntKind.i64 0)) 3, type := 4, pos := "law.go:76", after := #[{ on := 0, ground := Ground.data }], guard := none }) (v := (.bool false)) rfl (by kernel_rfl) (by kernel_rfl) (by kernel_rfl) (fun _ _ _ h => h) (Or.inl ⟨by rfl, ?_⟩) hHeld ?_
          · rintro u ⟨p0, p1, p2, p3, p4, r0, r1, r2, r3, r4, -⟩
            go_simp <;> first | rfl | kernel_rfl
          try simp only [Act.put, List.setIfInBounds_toArray, List.set_cons_zero, List.set_cons_succ]
          refine wpAnyH_take (i := 2) (oi := { dst := some 165, op := Op.move (Operand.tmp 164), type := 4, pos := "law.go:76", after := #[{ on := 1, ground := Ground.data }], guard := none }) (v := (.bool false)) rfl (by kernel_rfl) (by kernel_rfl) (by kernel_rfl) (fun _ _ _ h => h) (Or.inl ⟨by rfl, ?_⟩) hHeld ?_
          · rintro u ⟨p0, p1, p2, p3, p4, r0, r1, r2, r3, r4, -⟩
            go_simp <;> first | rfl | kernel_rfl
          try simp only [Act.put, List.setIfInBounds_toArray, List.set_cons_zero, List.set_cons_succ]
          refine wpAnyH_take (i := 3) (oi := { dst := some 166, op := Op.move (Operand.tmp 13), type := 38, pos := "law.go:76", after := #[{ on := 2, ground := Ground.guard }], guard := some (2, true) }) (v := undef) rfl (by kernel_rfl) (by kernel_rfl) (by kernel_rfl) (fun _ _ _ h => h) (Or.inr ⟨by rfl, rfl⟩) hHeld ?_
          try simp only [Act.put, List.setIfInBounds_toArray, List.set_cons_zero, List.set_cons_succ]
          refine wpAnyH_take (i := 4) (oi := { dst := some 167, op := Op.binOp BinOp.neq 38 (Operand.tmp 166) (Operand.const (Value.int IntKind.i64 7)) 38, type := 4, pos := "law.go:76", after := #[{ on := 3, ground := Ground.data }, { on := 2, ground := Ground.guard }], guard := some (2, true) }) (v := undef) rfl (by kernel_rfl) (by kernel_rfl) (by kernel_rfl) (fun _ _ _ h => h) (Or.inr ⟨by rfl, rfl⟩) hHeld ?_
          try simp only [Act.put, List.setIfInBounds_toArray, List.set_cons_zero, List.set_cons_succ]
          refine wpAnyH_take (i := 5) (oi := { dst := some 168, op := Op.pick (Operand.tmp 165) (Operand.tmp 167) (Operand.const (Value.bool false)), type := 4, pos := "law.go:76", after := #[{ on := 2, ground := Ground.data }, { on := 4, ground := Ground.data }], guard := none }) (v := (.bool false)) rfl (by kernel_rfl) (by kernel_rfl) (by kernel_rfl) (fun _ _ _ h => h) (Or.inl ⟨by rfl, ?_⟩) hHeld ?_
          · rintro u ⟨p0, p1, p2, p3, p4, r0, r1, r2, r3, r4, -⟩
            go_simp <;> first | rfl | kernel_rfl
          try simp only [Act.put, List.setIfInBounds_toArray, List.set_cons_zero, List.set_cons_succ]
          refine wpAnyH_take (i := 6) (oi := { dst := some 169, op := Op.move (Operand.tmp 168), type := 4, pos := "law.go:76", after := #[{ on := 5, ground := Ground.data }, { on := 2, ground := Ground.chain }], guard := none }) (v := (.bool false)) rfl (by kernel_rfl) (by kernel_rfl) (by kernel_rfl) (fun _ _ _ h => h) (Or.inl ⟨by rfl, ?_⟩) hHeld ?_
          · rintro u ⟨p0, p1, p2, p3, p4, r0, r1, r2, r3, r4, -⟩
            go_simp <;> first | rfl | kernel_rfl
          try simp only [Act.put, List.setIfInBounds_toArray, List.set_cons_zero, List.set_cons_succ]
          refine wpAnyH_take (i := 7) (oi := { dst := some 170, op := Op.move (Operand.tmp 14), type := 3, pos := "law.go:76", after := #[{ on := 6, ground := Ground.guard }], guard := some (6, false) }) (v := (.int .i64 (k : Int))) rfl (by kernel_rfl) (by kernel_rfl) (by kernel_rfl) (fun _ _ _ h => h) (Or.inl ⟨by rfl, ?_⟩) hHeld ?_
          · rintro u ⟨p0, p1, p2, p3, p4, r0, r1, r2, r3, r4, -⟩
            go_simp <;> first | rfl | kernel_rfl
          try simp only [Act.put, List.setIfInBounds_toArray, List.set_cons_zero, List.set_cons_succ]
          refine wpAnyH_take (i := 8) (oi := { dst := some 171, op := Op.binOp BinOp.geq 3 (Operand.tmp 170) (Operand.const (Value.int IntKind.i64 0)) 3, type := 4, pos := "law.go:76", after := #[{ on := 7, ground := Ground.data }, { on := 6, ground := Ground.guard }], guard := some (6, false) }) (v := (.bool true)) rfl (by kernel_rfl) (by kernel_rfl) (by kernel_rfl) (fun _ _ _ h => h) (Or.inl ⟨by rfl, ?_⟩) hHeld ?_
          · rintro u ⟨p0, p1, p2, p3, p4, r0, r1, r2, r3, r4, -⟩
            go_simp <;> first | rfl | kernel_rfl
          try simp only [Act.put, List.setIfInBounds_toArray, List.set_cons_zero, List.set_cons_succ]
          refine wpAnyH_take (i := 9) (oi := { dst := some 172, op := Op.move (Operand.tmp 171), type := 4, pos := "law.go:76", after := #[{ on := 8, ground := Ground.data }, { on := 6, ground := Ground.chain }, { on := 6, ground := Ground.guard }], guard := some (6, false) }) (v := (.bool true)) rfl (by kernel_rfl) (by kernel_rfl) (by kernel_rfl) (fun _ _ _ h => h) (Or.inl ⟨by rfl, ?_⟩) hHeld ?_
          · rintro u ⟨p0, p1, p2, p3, p4, r0, r1, r2, r3, r4, -⟩
            go_simp <;> first | rfl | kernel_rfl
          try simp only [Act.put, List.setIfInBounds_toArray, List.set_cons_zero, List.set_cons_succ]
          refine wpAnyH_take (i := 10) (oi := { dst := some 173, op := Op.move (Operand.tmp 13), type := 38, pos := "law.go:76", after := #[{ on := 9, ground := Ground.guard }], guard := some (9, true) }) (v := (.int .i64 0)) rfl (by kernel_rfl) (by kernel_rfl) (by kernel_rfl) (fun _ _ _ h => h) (Or.inl ⟨by rfl, ?_⟩) hHeld ?_
          · rintro u ⟨p0, p1, p2, p3, p4, r0, r1, r2, r3, r4, -⟩
            go_simp <;> first | rfl | kernel_rfl
          try simp only [Act.put, List.setIfInBounds_toArray, List.set_cons_zero, List.set_cons_succ]
          refine wpAnyH_take (i := 11) (oi := { dst := some 174, op := Op.binOp BinOp.neq 38 (Operand.tmp 173) (Operand.const (Value.int IntKind.i64 0)) 38, type := 4, pos := "law.go:76", after := #[{ on := 10, ground := Ground.data }, { on := 9, ground := Ground.guard }], guard := some (9, true) }) (v := (.bool false)) rfl (by kernel_rfl) (by kernel_rfl) (by kernel_rfl) (fun _ _ _ h => h) (Or.inl ⟨by rfl, ?_⟩) hHeld ?_
          · rintro u ⟨p0, p1, p2, p3, p4, r0, r1, r2, r3, r4, -⟩
            go_simp <;> first | rfl | kernel_rfl
          try simp only [Act.put, List.setIfInBounds_toArray, List.set_cons_zero, List.set_cons_succ]
          refine wpAnyH_take (i := 12) (oi := { dst := some 175, op := Op.move (Operand.tmp 174), type := 4, pos := "law.go:76", after := #[{ on := 11, ground := Ground.data }, { on := 9, ground := Ground.chain }, { on := 9, ground := Ground.guard }], guard := some (9, true) }) (v := (.bool false)) rfl (by kernel_rfl) (by kernel_rfl) (by kernel_rfl) (fun _ _ _ h => h) (Or.inl ⟨by rfl, ?_⟩) hHeld ?_
          · rintro u ⟨p0, p1, p2, p3, p4, r0, r1, r2, r3, r4, -⟩
            go_simp <;> first | rfl | kernel_rfl
          try simp only [Act.put, List.setIfInBounds_toArray, List.set_cons_zero, List.set_cons_succ]
          refine wpAnyH_take (i := 13) (oi := { dst := some 176, op := Op.load 31 (Operand.tmp 12), type := 31, pos := "law.go:76", after := #[{ on := 12, ground := Ground.guard }], guard := some (12, false) }) (v := (.agg #[.int .u64 gid, .string gn, .int .i64 ge, .slice ad gl.length gc, .int .i64 gr])) rfl (by kernel_rfl) (by kernel_rfl) (by kernel_rfl) (fun _ _ _ h => h) (Or.inl ⟨by rfl, ?_⟩) hHeld ?_
          · rintro u ⟨p0, p1, p2, p3, p4, r0, r1, r2, r3, r4, -⟩
            go_simp <;> first | rfl | kernel_rfl
          try simp only [Act.put, List.setIfInBounds_toArray, List.set_cons_zero, List.set_cons_succ]
          refine wpAnyH_take (i := 14) (oi := { dst := some 177, op := Op.move (Operand.tmp 4), type := 27, pos := "law.go:76", after := #[{ on := 12, ground := Ground.guard }], guard := some (12, false) }) (v := (.slice (some ⟨g2, 0, none⟩) Q'.length vc')) rfl (by kernel_rfl) (by kernel_rfl) (by kernel_rfl) (fun _ _ _ h => h) (Or.inl ⟨by rfl, ?_⟩) hHeld ?_
          · rintro u ⟨p0, p1, p2, p3, p4, r0, r1, r2, r3, r4, -⟩
            go_simp <;> first | rfl | kernel_rfl
          try simp only [Act.put, List.setIfInBounds_toArray, List.set_cons_zero, List.set_cons_succ]
          refine wpAnyH_take (i := 15) (oi := { dst := some 178, op := Op.move (Operand.tmp 14), type := 3, pos := "law.go:76", after := #[{ on := 12, ground := Ground.guard }], guard := some (12, false) }) (v := (.int .i64 (k : Int))) rfl (by kernel_rfl) (by kernel_rfl) (by kernel_rfl) (fun _ _ _ h => h) (Or.inl ⟨by rfl, ?_⟩) hHeld ?_
          · rintro u ⟨p0, p1, p2, p3, p4, r0, r1, r2, r3, r4, -⟩
            go_simp <;> first | rfl | kernel_rfl
          try simp only [Act.put, List.setIfInBounds_toArray, List.set_cons_zero, List.set_cons_succ]
          refine wpAnyH_take (i := 16) (oi := { dst := some 179, op := Op.indexAddr 27 (Operand.tmp 177) (Operand.tmp 178), type := 0, pos := "law.go:76", after := #[{ on := 14, ground := Ground.data }, { on := 15, ground := Ground.data }, { on := 12, ground := Ground.guard }], guard := some (12, false) }) (v := (.pointer (some ⟨g2, k * 5, none⟩))) rfl (by kernel_rfl) (by kernel_rfl) (by kernel_rfl) (fun _ _ _ h => h) (Or.inl ⟨by rfl, ?_⟩) hHeld ?_
          · rintro u ⟨p0, p1, p2, p3, p4, r0, r1, r2, r3, r4, -⟩
            go_simp <;> first | rfl | kernel_rfl
          try simp only [Act.put, List.setIfInBounds_toArray, List.set_cons_zero, List.set_cons_succ]
          refine wpAnyH_take (i := 17) (oi := { dst := some 180, op := Op.load 31 (Operand.tmp 179), type := 31, pos := "law.go:76", after := #[{ on := 16, ground := Ground.data }, { on := 12, ground := Ground.guard }], guard := some (12, false) }) (v := (.agg #[.int .u64 qid, .string qn, .int .i64 qe, .slice qa ql.length qc, .int .i64 qr])) rfl (by kernel_rfl) (by kernel_rfl) (by kernel_rfl) (fun _ _ _ h => h) (Or.inl ⟨by rfl, ?_⟩) hHeld ?_
          · rintro u ⟨p0, p1, p2, p3, p4, r0, r1, r2, r3, r4, -⟩
            go_simp <;> first | rfl | kernel_rfl
          try simp only [Act.put, List.setIfInBounds_toArray, List.set_cons_zero, List.set_cons_succ]
          refine wpAnyH_ready (rs := [18]) (by kernel_rfl) (by simp) ?_
          refine AllReadyH.cons (o := { dst := some 181, op := Op.call { callee := Callee.value (Operand.func 25), args := #[Operand.tmp 176, Operand.tmp 180], argTypes := #[31, 31] }, type := 4, pos := "law.go:76", after := #[{ on := 13, ground := Ground.data }, { on := 17, ground := Ground.data }, { on := 12, ground := Ground.chain }, { on := 12, ground := Ground.guard }], guard := some (12, false) }) rfl (fun Kq hKq => ?_) AllReadyH.nil
          go_simp
          refine (KS1.out _ (hHeld.2.2.2.2.2.2.2.2.2.2)).mono ?_
          rintro e u9 ⟨rfl, hb9⟩
          have B9 := Below.trans hHeld.2.2.2.2.2.2.2.2.2.2 (hb9.mono (Below.size hHeld.2.2.2.2.2.2.2.2.2.2))
          go_wp2_with fail
          refine hKq.out _ _ (⟨(RG.out.later (B9)).cell 0, (RG.out.later (B9)).cell 1, (RG.out.later (B9)).cell 2, (RG.out.later (B9)).cell 3, (RG.out.later (B9)).cell 4, (HFV.out _ (B9)).c0, (HFV.out _ (B9)).c1, (HFV.out _ (B9)).c2, (HFV.out _ (B9)).c3, (HFV.out _ (B9)).c4, B9⟩) (fun hHeld18 => ?_)
          clear hKq Kq
          try simp only [Act.put, List.setIfInBounds_toArray, List.set_cons_zero, List.set_cons_succ]
          refine wpAnyH_take (i := 19) (oi := { dst := some 182, op := Op.unOp UnOp.not 4 (Operand.tmp 181), type := 4, pos := "law.go:76", after := #[{ on := 18, ground := Ground.data }, { on := 12, ground := Ground.guard }], guard := some (12, false) }) (v := (.bool false)) rfl (by kernel_rfl) (by kernel_rfl) (by kernel_rfl) (fun _ _ _ h => h) (Or.inl ⟨by rfl, ?_⟩) hHeld18 ?_
          · rintro u ⟨p0, p1, p2, p3, p4, r0, r1, r2, r3, r4, -⟩
            go_simp <;> first | rfl | kernel_rfl
          try simp only [Act.put, List.setIfInBounds_toArray, List.set_cons_zero, List.set_cons_succ]
          refine wpAnyH_take (i := 20) (oi := { dst := some 183, op := Op.pick (Operand.tmp 175) (Operand.const (Value.bool true)) (Operand.tmp 182), type := 4, pos := "law.go:76", after := #[{ on := 12, ground := Ground.data }, { on := 19, ground := Ground.data }, { on := 9, ground := Ground.guard }], guard := some (9, true) }) (v := (.bool false)) rfl (by kernel_rfl) (by kernel_rfl) (by kernel_rfl) (fun _ _ _ h => h) (Or.inl ⟨by rfl, ?_⟩) hHeld18 ?_
          · rintro u ⟨p0, p1, p2, p3, p4, r0, r1, r2, r3, r4, -⟩
            go_simp <;> first | rfl | kernel_rfl
          try simp only [Act.put, List.setIfInBounds_toArray, List.set_cons_zero, List.set_cons_succ]
          refine wpAnyH_take (i := 21) (oi := { dst := some 184, op := Op.pick (Operand.tmp 172) (Operand.tmp 183) (Operand.const (Value.bool false)), type := 4, pos := "law.go:76", after := #[{ on := 9, ground := Ground.data }, { on := 20, ground := Ground.data }, { on := 6, ground := Ground.guard }], guard := some (6, false) }) (v := (.bool false)) rfl (by kernel_rfl) (by kernel_rfl) (by kernel_rfl) (fun _ _ _ h => h) (Or.inl ⟨by rfl, ?_⟩) hHeld18 ?_
          · rintro u ⟨p0, p1, p2, p3, p4, r0, r1, r2, r3, r4, -⟩
            go_simp <;> first | rfl | kernel_rfl
          try simp only [Act.put, List.setIfInBounds_toArray, List.set_cons_zero, List.set_cons_succ]
          refine wpAnyH_take (i := 22) (oi := { dst := some 185, op := Op.pick (Operand.tmp 169) (Operand.const (Value.bool true)) (Operand.tmp 184), type := 4, pos := "law.go:76", after := #[{ on := 6, ground := Ground.data }, { on := 21, ground := Ground.data }], guard := none }) (v := (.bool false)) rfl (by kernel_rfl) (by kernel_rfl) (by kernel_rfl) (fun _ _ _ h => h) (Or.inl ⟨by rfl, ?_⟩) hHeld18 ?_
          · rintro u ⟨p0, p1, p2, p3, p4, r0, r1, r2, r3, r4, -⟩
            go_simp <;> first | rfl | kernel_rfl
          try simp only [Act.put, List.setIfInBounds_toArray, List.set_cons_zero, List.set_cons_succ]
          refine wpAnyH_done (by kernel_rfl) ?_ _
          go_wp2_with fail
          go_roundg (l.length - (i + 1))
          case measure => omega
          case rel => exact ⟨i + 1, F', M', K', _, vc', Q', by simp, rfl, by omega, S6.out.later B9, by omega⟩
      · obtain rfl : i = l.length := by omega
        clear hkx hlt hi9
        go_wp2_with fail
        refine (KH.out _).mono ?_
        rintro _ w9 ⟨rfl, hb9⟩
        go_wp2_with fail
        go_ret
        exact ⟨rfl, HSY.out.b.trans (hb9.mono HSY.out.b.size)⟩
end Go.Proofs.Ytakpoabpgdmneaa.Pl
