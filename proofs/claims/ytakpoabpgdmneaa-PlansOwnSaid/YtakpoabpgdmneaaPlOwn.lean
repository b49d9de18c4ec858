/- The statements of plans: PlansOwn. -/
import Derived.Test.YtakpoabpgdmneaaPlOwn0
namespace Go.Proofs.Ytakpoabpgdmneaa.Pl
open Go Go.RowKit Ck Go.Maps
set_option maxRecDepth 100000 in
set_option maxHeartbeats 12800000 in
theorem own_law (l : List Ac) (a : Option Addr) (cap : Nat) (w : World) (h : Acs w a l) (hf2 : ∀ x ∈ l, Ac.Fits2 x) (hl : l.length ≤ maxLen) : Calls Try.prog 5 #[.slice a l.length cap] w fun e w' => e = .returned (.bool true) ∧ Below w.heap.size w w' := by
  have hf : ∀ x ∈ l, Ac.Fits x := fun x hx => (hf2 x hx).f
  have H := Lib.hid h
  have HFT := Lib.hid hf2
  have KG := Lib.hid (great_c l a cap w h hl hf)
  have KH : Hid (∀ u, Calls Try.prog 7 #[] u fun e w' => e = .returned (.bool true) ∧ Below u.heap.size u w') := fun u => head_c u
  obtain ⟨gr, hgr⟩ : ∃ gr, gr = greatB l := ⟨_, rfl⟩
  rw [← hgr] at KG
  have HGR := Lib.hid hgr
  clear h hf hf2 hl hgr
  obtain ⟨i1, z1, hi1, hy0, hy1, hy2, hy3⟩ := info_pr
  have HINF : Hid ((Try.prog.info? TPrice).map (·.size) = some 2) := by show _ = _; kernel_rfl
  go_enter Try.func5, Try.ntmps5
  go_wp2_with fail
  refine KG.out.mono ?_
  rintro _ _ ⟨rfl, rfl⟩
  cases gr with
  | true =>
    go_wp2_with fail
    refine (KH.out _).mono ?_
    rintro _ w1 ⟨rfl, hb⟩
    go_wp2_with fail
    go_ret
    exact ⟨rfl, hb⟩
  | false =>
    obtain ⟨hl, hsm⟩ := not_great HGR.out.symm
    have HSM := Lib.hid hsm
    clear hsm HGR KG
    go_wp2_with fail
    refine (ct_new w).mono ?_
    rintro _ w1 ⟨c, F0, rfl, hc, hb, hF⟩
    have S0 : Hid (Sc w w1 c 0 F0 (fun _ => none) []) := ⟨hc, hF, hb, Nat.le_refl _⟩
    clear hc hb hF
    go_upto_region 4 with (fail)
    go_cut [4] (fun s4 wx => s4 = .int .i64 0 ∧ w1 = wx)
    case first =>
      go_wp2_with fail
      go_meet
      exact ⟨rfl, rfl⟩
    obtain ⟨rfl, rfl⟩ := hcut
    rename_i hKK
    apply hKK
    clear hKK
    go_cut [3] (fun s3 wx => s3 = .pointer (some ⟨c, 0, none⟩) ∧ ∃ (N : Nat) (F : Nat → Prop) (M : Int → Option Pn) (K : List Int), N ≤ 240 ∧ Hid (Sc w wx c N F M K))
    case first =>
      go_wp2_with fail
      go_loopg [4] l.length (fun kx s4 wr => ∃ (i N : Nat) (F : Nat → Prop) (M : Int → Option Pn) (K : List Int), s4 = .int .i64 (i : Int) ∧ i ≤ l.length ∧ N ≤ 2 * i ∧ Hid (Sc w wr c N F M K) ∧ l.length ≤ i + kx)
      case atStart => exact ⟨0, 0, F0, _, [], rfl, Nat.zero_le _, Nat.le_refl _, S0, by omega⟩
      case round =>
        clear S0
        obtain ⟨i, N, F, M, K, rfl, hi9, hN9, HSY, hkx⟩ := hrel
        by_cases hlt : i < l.length
        · by_cases h30 : i < 30
          · obtain ⟨ab, ao, rfl, hblt, hcell, hprs⟩ := H.out i hlt
            have hfit := HFT.out _ (List.getElem_mem hlt)
            have hsml := HSM.out _ (List.getElem_mem hlt)
            obtain ⟨x, hx⟩ : ∃ x, x = l[i] := ⟨_, rfl⟩
            rw [← hx] at hcell hprs hfit hsml
            have HX : Hid (∀ u, Below w.heap.size w u → ∀ (k : Nat) (v : Value), x.cells[k]? = some v → u.cell? ⟨ab, ao + i * 9 + k, none⟩ = some v) := fun u hu k v hv => by rw [hu.cell (by simpa using hblt)]; exact hcell k v hv
            have j0 : (0 : Int) ≤ (i : Int) := by omega
            have j1 : (i : Int) < (l.length : Int) := by omega
            have j2 : (i : Int) < 30 := by omega
            have HLT := Lib.hid hlt
            have HKX := Lib.hid hkx
            have HPR := Lib.hid hprs
            obtain ⟨wh, ⟨pid, name, every, L, ret⟩, pa, pc, ⟨yf, ya⟩, dd⟩ := x
            have hb0 := HSY.out.b
            have x1 := HX.out _ hb0 1 _ rfl
            have x2 := HX.out _ hb0 2 _ rfl
            have x3 := HX.out _ hb0 3 _ rfl
            have x4 := HX.out _ hb0 4 _ rfl
            have x5 := HX.out _ hb0 5 _ rfl
            have HU : Hid (U64 pid) := hfit.f.id
            have HNIL : Hid (pa = none → pc = 0) := hfit.nil
            have HLL : Hid (L.length ≤ 110) := hsml.1
            simp only at x1 x2 x3 x4 x5 HPR
            clear hcell hprs hfit hsml hblt hx hlt hkx h30 hb0
            go_upto_region 8 with (fail)
            have hb1 : Below wr.heap.size wr (wr.alloc (.cells #[.int .u64 pid, .string name, .int .i64 every, .slice pa L.length pc, .int .i64 ret] TPlan)) := (Below.refl _ _).alloc (Nat.le_refl _) _
            have SY := Lib.hid (HSY.out.later hb1)
            have RX : Hid (Rw (wr.alloc (.cells #[.int .u64 pid, .string name, .int .i64 every, .slice pa L.length pc, .int .i64 ret] TPlan)) wr.heap.size TPlan [.int .u64 pid, .string name, .int .i64 every, .slice pa L.length pc, .int .i64 ret]) := Rw.new wr [.int .u64 pid, .string name, .int .i64 every, .slice pa L.length pc, .int .i64 ret] TPlan
            have HFB : Hid (∀ j, F j → j < wr.heap.size) := HSY.out.ct.lt
            obtain ⟨b5, hb5⟩ : ∃ b5, b5 = wr.heap.size := ⟨_, rfl⟩
            rw [← hb5] at RX HFB ⊢
            have HB5W : Hid (w.heap.size ≤ b5) := by show _ ≤ _; rw [hb5]; exact HSY.out.b.size
            generalize wr.alloc (.cells #[.int .u64 pid, .string name, .int .i64 every, .slice pa L.length pc, .int .i64 ret] TPlan) = W at SY RX ⊢
            clear x1 x2 x3 x4 x5 hb1 hb5 HSY
            have x4 : (W.alloc (.cells #[] TPrice)).cell? ⟨ab, ao + i * 9 + 1 + 3, none⟩ = some (.slice pa L.length pc) := HX.out _ (SY.out.b.alloc SY.out.b.size _) 4 _ rfl
            have hA : (pa = none ∧ L.length = 0 ∧ pc = 0 ∧ flatP L = []) ∨ ∃ ad, pa = some ad ∧ (flatP L).length = L.length * 2 ∧ ∀ j y, (flatP L)[j]? = some y → (W.alloc (.cells #[] TPrice)).cell? (ad.add j) = some y := by
              have hpr := (SY.out.prs HPR.out).later ((Below.refl _ W).alloc (Nat.le_refl _) (.cells #[] TPrice))
              rcases Nat.eq_zero_or_pos L.length with h0 | h0
              · have hL : L = [] := List.length_eq_zero_iff.1 h0
                cases hpa : pa with
                | none => exact .inl ⟨rfl, h0, HNIL.out hpa, by rw [hL]; rfl⟩
                | some ad => exact .inr ⟨ad, rfl, flatP_len L, fun j y hy => by rw [hL] at hy; cases hy⟩
              · obtain ⟨bb, off, hpa, _⟩ := hpr 0 h0
                rw [hpa] at hpr
                exact .inr ⟨_, hpa, flatP_len L, hpr.news⟩
            have HA := Lib.hid hA
            clear hA
            have hll := HLL.out
            go_wp2_with (at_builtin; refine wpList_append_any rfl _ _ TPrices rfl W.heap.size TPrice i1 z1 2 16 Try.underlying29 hi1 hy0 hy1 hy2 hy3 (by decide) _ 0 [] rfl (own_zero _ _ _ _ (Nat.le_refl _)) pa L.length pc (flatP L) rfl HA.out (flatP_one L) (by unfold maxLen; omega) (by omega) (by simp) ?_)
            intro v1 w2 hown hgrow hat
            obtain ⟨a1, c1, rfl⟩ := own_slice hown
            try simp only [List.nil_append, Nat.zero_add] at hown
            have hk2 : Below W.heap.size W w2 := ((Below.refl _ W).alloc (Nat.le_refl _) _).grown hgrow (by simp) (fun j hj => by cases hj; exact Nat.le_refl _)
            have S2 := Lib.hid (SY.out.later hk2)
            have RX2 := Lib.hid (RX.out.later hk2)
            have HO2 := Lib.hid hown
            have HBW : Hid (b5 < W.heap.size) := RX.out.lt
            clear hk2 hown hgrow hat x4 SY RX HA
            have f3 : w2.frozen? ⟨b5, 3, none⟩ = false := RX2.out.frozen 3
            have q3 : w2.cell? ⟨b5, 3, none⟩ = some (.slice pa L.length pc) := RX2.out.cell 3
            go_upto_region 9 with (fail)
            have RX3 : Hid (Rw (w2.setCell ⟨b5, 3, none⟩ (.slice a1 L.length c1)) b5 TPlan [.int .u64 pid, .string name, .int .i64 every, .slice a1 L.length c1, .int .i64 ret]) := RX2.out.setCell 3 _
            have kp3 : Keeps (fun j => j = b5) w2 (w2.setCell ⟨b5, 3, none⟩ (.slice a1 L.length c1)) := (Keeps.refl (fun j => j = b5) w2).setCell b5 3 _ (.inl rfl)
            have S3 : Hid (Sc w (w2.setCell ⟨b5, 3, none⟩ (.slice a1 L.length c1)) c N F M K) := ⟨S2.out.ct.keeps kp3 (fun j hj e => by have := HFB.out j hj; omega), S2.out.lo, Keeps.belowT S2.out.b kp3 (fun j hj => by rw [hj]; exact HB5W.out) S2.out.b.size, S2.out.len⟩
            have HO3 := Lib.hid (own_keeps HO2.out kp3 fun j hj e => own_type HO2.out RX2.out (by decide) (e ▸ hj))
            generalize w2.setCell ⟨b5, 3, none⟩ (.slice a1 L.length c1) = w3 at RX3 S3 HO3 ⊢
            clear f3 q3 kp3 S2 RX2 HO2
            obtain ⟨g1, hg1, _⟩ := own_pv (x := ⟨pid, name, every, L, ret⟩) HO3.out
            have KA := Lib.hid (ct_add S3.out.ct ⟨pid, name, every, L, ret⟩ a1 c1 (by have := HO3.out; rw [hg1] at this ⊢; exact prs_own this) HU.out (by omega) (by have := S3.out.len; omega))
            unfold Pn.val at KA
            have x0 : w3.cell? ⟨b5, 0, none⟩ = some (.int .u64 pid) := RX3.out.cell 0
            have x1 : w3.cell? ⟨b5, 1, none⟩ = some (.string name) := RX3.out.cell 1
            have x2 : w3.cell? ⟨b5, 2, none⟩ = some (.int .i64 every) := RX3.out.cell 2
            have x3 : w3.cell? ⟨b5, 3, none⟩ = some (.slice a1 L.length c1) := RX3.out.cell 3
            have x5 : w3.cell? ⟨b5, 4, none⟩ = some (.int .i64 ret) := RX3.out.cell 4
            clear hg1
            go_wp2_with fail
            refine KA.out.mono ?_
            rintro _ w4 ⟨rfl, hg4⟩
            have HF3 : Hid (∀ j, (Value.slice a1 L.length c1).ownBlock = some j → ¬ F j ∧ j < w3.heap.size) := fun j hj => ⟨fun hF => by have h1 := (HO3.out.lt j hj).1; have h2 := HFB.out j hF; have h3 := HBW.out; omega, (HO3.out.lt j hj).2⟩
            have HB53 : Hid (b5 < w3.heap.size) := RX3.out.lt
            obtain ⟨F4, K4, s4, k4, e4⟩ : ∃ F4 K4, Sc w w4 c (N + 1) F4 (addM M ⟨pid, name, every, L, ret⟩).1 K4 ∧ Keeps F w3 w4 ∧ ∀ j, F4 j → F j ∨ w3.heap.size ≤ j := by
              obtain ⟨F', K', c', l', k', f'⟩ := hg4
              exact ⟨F', K', ⟨c', fun j hj => (f' j hj).elim (S3.out.lo j) (Nat.le_trans S3.out.b.size), Keeps.belowT S3.out.b k' S3.out.lo S3.out.b.size, by have := S3.out.len; omega⟩, k', f'⟩
            have S4 := Lib.hid s4
            have RX4 := Lib.hid (RX3.out.keeps k4 (fun hj => by have := HFB.out _ hj; omega))
            have HO4 := Lib.hid (own_keeps HO3.out k4 fun j hj hF => (HF3.out j hj).1 hF)
            have HF4 : Hid (∀ j, (j = b5 ∨ (Value.slice a1 L.length c1).ownBlock = some j) → ¬ F4 j ∧ j < w4.heap.size) := fun j hj => by
              have h1 : ¬ F j ∧ j < w3.heap.size := by
                rcases hj with rfl | hj
                · exact ⟨fun hF => by have := HFB.out _ hF; omega, HB53.out⟩
                · exact HF3.out j hj
              exact ⟨fun hF => (e4 j hF).elim h1.1 (fun h => by omega), Nat.lt_of_lt_of_le h1.2 k4.size⟩
            clear hg4 s4 k4 e4 x0 x1 x2 x3 x5 KA S3 RX3 HO3 HF3 HB53
            have KR : Hid (∀ u, Below w4.heap.size w4 u → Calls Try.prog 12 #[.pointer (some ⟨c, 0, none⟩), .int .u64 pid, .agg #[.int .i64 yf, .int .i64 ya]] u fun e w' => e = .returned (.int .i64 (repriceM (addM M ⟨pid, name, every, L, ret⟩).1 pid ⟨yf, ya⟩).2) ∧ Goes F4 u w' c (repriceM (addM M ⟨pid, name, every, L, ret⟩).1 pid ⟨yf, ya⟩).1 (K4.length + 1) (N + 2)) := fun u hu => ct_reprice (S4.out.ct.later hu) pid HU.out ⟨yf, ya⟩ (by omega)
            have HC4 : Hid (w4.drew.cell? ⟨b5, 0, none⟩ = some (.int .u64 pid) ∧ w4.drew.cell? ⟨ab, ao + i * 9 + 6, none⟩ = some (.int .i64 yf) ∧ w4.drew.cell? ⟨ab, ao + i * 9 + 6 + 1, none⟩ = some (.int .i64 ya)) := ⟨RX4.out.cell 0, HX.out _ S4.out.b 6 _ rfl, HX.out _ S4.out.b 7 _ rfl⟩
            have HCK : Hid (∀ u {M' n' N'}, Goes F4 w4.drew u c M' n' N' → u.cell? ⟨b5, 0, none⟩ = some (.int .u64 pid) ∧ u.cell? ⟨ab, ao + i * 9 + 6, none⟩ = some (.int .i64 yf) ∧ u.cell? ⟨ab, ao + i * 9 + 6 + 1, none⟩ = some (.int .i64 ya)) := fun u {M' n' N'} hg => by
              obtain ⟨F', K', c', l', k', f'⟩ := hg
              have hbu : Below w.heap.size w u := Keeps.belowT S4.out.b.drew k' S4.out.lo S4.out.b.size
              have hr := Rw.keeps (w := w4.drew) RX4.out k' (fun hj => (HF4.out b5 (.inl rfl)).1 hj)
              exact ⟨hr.cell 0, HX.out _ hbu 6 _ rfl, HX.out _ hbu 7 _ rfl⟩
            go_upto_region 10 with (fail)
            refine wp_region_held_drew (S := (fun u => u.cell? ⟨b5, 0, none⟩ = some (.int .u64 pid) ∧ u.cell? ⟨ab, ao + i * 9 + 6, none⟩ = some (.int .i64 yf) ∧ u.cell? ⟨ab, ao + i * 9 + 6 + 1, none⟩ = some (.int .i64 ya))) (by kernel_rfl) ?_ (fun hHeld => ?_)
            · exact HC4.out
            refine wpAnyH_take (i := 0) (oi := { dst := some 51, op := Op.move (Operand.tmp 3), type := 25, pos := "law.go:131", after := #[], guard := none }) (v := (.pointer (some ⟨c, 0, none⟩))) rfl (by kernel_rfl) (by kernel_rfl) (by kernel_rfl) (fun _ _ _ h => h) (Or.inl ⟨by rfl, ?_⟩) hHeld ?_
            · rintro u ⟨p0, p1, p2⟩
              go_simp <;> first | rfl | kernel_rfl
            try simp only [Act.put, List.setIfInBounds_toArray, List.set_cons_zero, List.set_cons_succ]
            refine wpAnyH_take (i := 1) (oi := { dst := some 52, op := Op.fieldAddr 31 (Operand.tmp 5) 0, type := 0, pos := "law.go:131", after := #[], guard := none }) (v := (.pointer (some ⟨b5, 0, none⟩))) rfl (by kernel_rfl) (by kernel_rfl) (by kernel_rfl) (fun _ _ _ h => h) (Or.inl ⟨by rfl, ?_⟩) hHeld ?_
            · rintro u ⟨p0, p1, p2⟩
              go_simp <;> first | rfl | kernel_rfl
            try simp only [Act.put, List.setIfInBounds_toArray, List.set_cons_zero, List.set_cons_succ]
            refine wpAnyH_take (i := 2) (oi := { dst := some 53, op := Op.load 28 (Operand.tmp 52), type := 28, pos := "law.go:131", after := #[{ on := 1, ground := Ground.data }], guard := none }) (v := (.int .u64 pid)) rfl (by kernel_rfl) (by kernel_rfl) (by kernel_rfl) (fun _ _ _ h => h) (Or.inl ⟨by rfl, ?_⟩) hHeld ?_
            · rintro u ⟨p0, p1, p2⟩
              go_simp <;> first | rfl | kernel_rfl
            try simp only [Act.put, List.setIfInBounds_toArray, List.set_cons_zero, List.set_cons_succ]
            refine wpAnyH_take (i := 3) (oi := { dst := some 54, op := Op.move (Operand.tmp 0), type := 22, pos := "law.go:131", after := #[], guard := none }) (v := (.slice (some ⟨ab, ao, none⟩) l.length cap)) rfl (by kernel_rfl) (by kernel_rfl) (by kernel_rfl) (fun _ _ _ h => h) (Or.inl ⟨by rfl, ?_⟩) hHeld ?_
            · rintro u ⟨p0, p1, p2⟩
              go_simp <;> first | rfl | kernel_rfl
            try simp only [Act.put, List.setIfInBounds_toArray, List.set_cons_zero, List.set_cons_succ]
            refine wpAnyH_take (i := 4) (oi := { dst := some 55, op := Op.move (Operand.tmp 4), type := 3, pos := "law.go:131", after := #[], guard := none }) (v := (.int .i64 (i : Int))) rfl (by kernel_rfl) (by kernel_rfl) (by kernel_rfl) (fun _ _ _ h => h) (Or.inl ⟨by rfl, ?_⟩) hHeld ?_
            · rintro u ⟨p0, p1, p2⟩
              go_simp <;> first | rfl | kernel_rfl
            try simp only [Act.put, List.setIfInBounds_toArray, List.set_cons_zero, List.set_cons_succ]
            refine wpAnyH_take (i := 5) (oi := { dst := some 56, op := Op.indexAddr 22 (Operand.tmp 54) (Operand.tmp 55), type := 0, pos := "law.go:131", after := #[{ on := 3, ground := Ground.data }, { on := 4, ground := Ground.data }], guard := none }) (v := (.pointer (some ⟨ab, ao + i * 9, none⟩))) rfl (by kernel_rfl) (by kernel_rfl) (by kernel_rfl) (fun _ _ _ h => h) (Or.inl ⟨by rfl, ?_⟩) hHeld ?_
            · rintro u ⟨p0, p1, p2⟩
              go_simp <;> first | rfl | kernel_rfl
            try simp only [Act.put, List.setIfInBounds_toArray, List.set_cons_zero, List.set_cons_succ]
            refine wpAnyH_take (i := 6) (oi := { dst := some 57, op := Op.fieldAddr 35 (Operand.tmp 56) 2, type := 0, pos := "law.go:131", after := #[{ on := 5, ground := Ground.data }], guard := none }) (v := (.pointer (some ⟨ab, ao + i * 9 + 6, none⟩))) rfl (by kernel_rfl) (by kernel_rfl) (by kernel_rfl) (fun _ _ _ h => h) (Or.inl ⟨by rfl, ?_⟩) hHeld ?_
            · rintro u ⟨p0, p1, p2⟩
              go_simp <;> first | rfl | kernel_rfl
            try simp only [Act.put, List.setIfInBounds_toArray, List.set_cons_zero, List.set_cons_succ]
            refine wpAnyH_take (i := 7) (oi := { dst := some 58, op := Op.load 33 (Operand.tmp 57), type := 33, pos := "law.go:131", after := #[{ on := 6, ground := Ground.data }], guard := none }) (v := (.agg #[.int .i64 yf, .int .i64 ya])) rfl (by kernel_rfl) (by kernel_rfl) (by kernel_rfl) (fun _ _ _ h => h) (Or.inl ⟨by rfl, ?_⟩) hHeld ?_
            · rintro u ⟨p0, p1, p2⟩
              go_simp <;> first | rfl | kernel_rfl
            try simp only [Act.put, List.setIfInBounds_toArray, List.set_cons_zero, List.set_cons_succ]
            refine wpAnyH_ready (rs := [8]) (by kernel_rfl) (by simp) ?_
            refine AllReadyH.cons (o := { dst := some 59, op := Op.call { callee := Callee.value (Operand.func 12), args := #[Operand.tmp 51, Operand.tmp 53, Operand.tmp 58], argTypes := #[25, 28, 33] }, type := 38, pos := "law.go:131", after := #[{ on := 0, ground := Ground.data }, { on := 2, ground := Ground.data }, { on := 7, ground := Ground.data }], guard := none }) rfl (fun Kq hKq => ?_) AllReadyH.nil
            go_simp
            refine (KR.out _ (Below.refl _ w4).drew).mono ?_
            rintro e w5 ⟨rfl, hg5⟩
            have HG5 := Lib.hid hg5
            have HC5 := Lib.hid (HCK.out _ hg5)
            clear hg5
            go_wp2_with fail
            refine hKq.out _ _ (HC5.out) (fun hHeld8 => ?_)
            clear hKq Kq
            try simp only [Act.put, List.setIfInBounds_toArray, List.set_cons_zero, List.set_cons_succ]
            refine wpAnyH_done (by kernel_rfl) ?_ _
            obtain ⟨M6, F6, K6, s6, k6, e6⟩ : ∃ M6 F6 K6, Sc w w5 c (N + 2) F6 M6 K6 ∧ Keeps F4 w4.drew w5 ∧ ∀ j, F6 j → F4 j ∨ w4.heap.size ≤ j := by
              obtain ⟨F', K', c', l', k', f'⟩ := HG5.out
              exact ⟨_, F', K', ⟨c', fun j hj => (f' j hj).elim (S4.out.lo j) (Nat.le_trans S4.out.b.size), Keeps.belowT S4.out.b.drew k' S4.out.lo S4.out.b.size, by have := S4.out.len; omega⟩, k', f'⟩
            have S6 := Lib.hid s6
            have RX6 := Lib.hid (Rw.keeps (w := w4.drew) RX4.out k6 (fun hj => (HF4.out b5 (.inl rfl)).1 hj))
            have HW6 := Lib.hid (Wr.own (own_keeps (w := w4.drew) (v := .slice a1 L.length c1) (show w4.drew.ownsRow _ _ _ _ _ _ from HO4.out) k6 fun j hj hF => (HF4.out j (.inr hj)).1 hF))
            have HN6 : Hid (∀ g, a1 = some ⟨g, 0, none⟩ → ¬ F6 g ∧ g ≠ b5 ∧ w.heap.size ≤ g) := fun g hg => by
              have h1 := HF4.out g (.inr (by rw [hg]; rfl))
              refine ⟨fun hF => (e6 g hF).elim h1.1 (fun h => by omega), fun e => own_type HO4.out RX4.out (by decide) (by rw [hg, e]; rfl), ?_⟩
              have h2 := (HO4.out.lt g (by rw [hg]; rfl)).1
              have h3 := HB5W.out
              have h4 := HBW.out
              omega
            clear s6 k6 e6 HG5 HC5 S4 RX4 HO4 HF4 KR HC4 HCK
            go_upto_region 12 with (fail)
            go_loopg [6] L.length (fun kx2 s6 wr => ∃ k : Nat, s6 = .int .i64 (k : Int) ∧ k ≤ L.length ∧ Hid (Sc w wr c (N + 2) F6 M6 K6) ∧ Hid (Rw wr b5 TPlan [.int .u64 pid, .string name, .int .i64 every, .slice a1 L.length c1, .int .i64 ret]) ∧ Hid (Wr wr a1 L.length) ∧ L.length ≤ k + kx2)
            case atStart => exact ⟨0, rfl, Nat.zero_le _, S6, RX6, HW6, by omega⟩
            case round =>
              clear S6 RX6 HW6
              obtain ⟨k, rfl, hk9, S7, RX7, HW7, hkx2⟩ := hrel
              have q3 : wr.cell? ⟨b5, 3, none⟩ = some (.slice a1 L.length c1) := RX7.out.cell 3
              by_cases hlt2 : k < L.length
              · obtain ⟨g, cur, hg, hr, hc⟩ := HW7.out (by omega)
                obtain ⟨n1, n2, n3⟩ := HN6.out g hg
                have kp := keeps_write wr g (k * 2) [.int .i64 0, .int .i64 0]
                have S8 : Hid (Sc w (wr.setCells g (k * 2) #[.int .i64 0, .int .i64 0].toList) c (N + 2) F6 M6 K6) := ⟨S7.out.ct.keeps kp (fun j hj e => n1 (e ▸ hj)), S7.out.lo, Keeps.belowT S7.out.b kp (fun j hj => by rw [hj]; exact n3) S7.out.b.size, S7.out.len⟩
                have RX8 : Hid (Rw (wr.setCells g (k * 2) #[.int .i64 0, .int .i64 0].toList) b5 TPlan [.int .u64 pid, .string name, .int .i64 every, .slice a1 L.length c1, .int .i64 ret]) := RX7.out.keeps kp (fun e => n2 e.symm)
                have HW8 : Hid (Wr (wr.setCells g (k * 2) #[.int .i64 0, .int .i64 0].toList) a1 L.length) := HW7.out.write hr (k * 2) [.int .i64 0, .int .i64 0] (by show k * 2 + 2 ≤ _; omega)
                have hth : wr.there g (k * 2) 2 := hr.there (k * 2) 2 (by omega)
                have HTH := Lib.hid hth
                have z0 : (0 : Int) ≤ (k : Int) := by omega
                have z1 : (k : Int) < (L.length : Int) := by omega
                clear hr hc n1 n2 n3 kp hth S7 RX7 HW7
                rw [hg] at q3
                have HG := Lib.hid hg
                clear hg
                go_wp2_with (with_reducible refine wpList_store_mid rfl TPrice _ _ rfl g (k * 2) #[.int .i64 0, .int .i64 0] rfl rfl ?thr ?inf ?one ?_)
                case thr => exact HTH.out
                case one => simp [Value.oneCell']
                generalize wr.setCells g (k * 2) #[.int .i64 0, .int .i64 0].toList = W8 at S8 RX8 HW8 ⊢
                clear q3 HTH
                go_wp2_with fail
                go_roundg (L.length - (k + 1))
                case measure => omega
                case rel => exact ⟨k + 1, by simp, by omega, S8, RX8, HW8, by omega⟩
              · have z1 : ¬ (k : Int) < (L.length : Int) := by omega
                have hkx := HKX.out
                have hlt := HLT.out
                clear hlt2 hkx2
                go_wp2_with fail
                go_roundg (l.length - (i + 1))
                case measure => omega
                case rel => exact ⟨i + 1, N + 2, F6, M6, K6, by simp, by omega, by omega, S7, by omega⟩
          · have j1 : (i : Int) < (l.length : Int) := by omega
            have j2 : ¬ (i : Int) < 30 := by omega
            clear hkx
            go_wp2_with fail
            go_meet
            exact ⟨rfl, N, F, M, K, by omega, HSY⟩
        · have j1 : ¬ (i : Int) < (l.length : Int) := by omega
          clear hkx
          go_wp2_with fail
          go_meet
          exact ⟨rfl, N, F, M, K, by omega, HSY⟩
    obtain ⟨rfl, N, F, M, K, hN, HSC⟩ := hcut
    first | (rename_i hK1; apply hK1) | (rename_i hK1 _; apply hK1) | (rename_i hK1 _ _; apply hK1) | (rename_i hK1 _ _ _; apply hK1) | (rename_i hK1 _ _ _ _; apply hK1) | apply_assumption
    clear S0
    obtain ⟨W1, rfl⟩ : ∃ W1, W1 = wc := ⟨_, rfl⟩
    have KA := Lib.hid (ct_all HSC.out.ct (by have := HSC.out.len; omega))
    go_wp2_with fail
    refine KA.out.mono ?_
    rintro _ w6 ⟨ua, uc, Pa, rfl, a2, a3, a4, hb6⟩
    have SC6 := Lib.hid (HSC.out.later hb6)
    have KB := Lib.hid (ct_all SC6.out.ct (by have := SC6.out.len; omega))
    have A2 := Lib.hid a2
    have A3 := Lib.hid a3
    have HT := Lib.hid (Tied.of HSC.out.ct.ks a4 HSC.out.ct.ok)
    have hb6s : W1.heap.size ≤ w6.heap.size := hb6.size
    clear a2 a3 a4 hb6 KA
    go_wp2_with fail
    refine KB.out.mono ?_
    rintro _ w7 ⟨ub, vc, Pb, rfl, b2, b3, b4, hb7⟩
    have I0 : Hid (Inv w W1.heap.size w6.heap.size w7.heap.size w7 c N F M K ua uc Pa ub vc Pb) := ⟨SC6.out.later hb7, HSC.out.ct.lt, (all_doc b2 b3).mono (fun j hj h => ⟨h, hj⟩), own_later A2.out hb7, fun p hp => (Wr.own (A3.out p hp)).later hb7, fun p hp g hg => (A3.out p hp).lt g (by rw [hg]; rfl), Nat.le_refl _, HSC.out.b.size, Nat.le_trans hb6s hb7.size⟩
    have HPB : Hid (Pb.map (fun p => some p.x) = K.map M) := b4
    have HPL : Hid (Pa.length ≤ 240 ∧ ∀ p ∈ Pa, p.x.ps.length ≤ 100) := by
      have h1 := HT.out.len
      have h2 := HSC.out.len
      refine (show _ ∧ _ from ⟨by omega, fun p hp => ?_⟩)
      obtain ⟨j, hj, rfl⟩ := List.getElem_of_mem hp
      exact (okB_len (HT.out.ok hj)).2
    clear b2 b3 b4 hb7 KB A2 A3 SC6 HSC
    go_upto_region 16 with (fail)
    go_cut [9] (fun s9 wx => s9 = .int .i64 0 ∧ w7 = wx)
    case first =>
      go_wp2_with fail
      go_meet
      exact ⟨rfl, rfl⟩
    obtain ⟨rfl, rfl⟩ := hcut
    rename_i hK2
    apply hK2
    clear hK2
    go_cut [8] (fun s8 wx => s8 = .slice ub Pb.length vc ∧ Hid (Inv w W1.heap.size w6.heap.size w7.heap.size wx c N F M K ua uc Pa ub vc Pb))
    case first =>
      go_wp2_with fail
      go_loopg [9] Pa.length (fun kx s9 wr => ∃ i : Nat, s9 = .int .i64 (i : Int) ∧ i ≤ Pa.length ∧ Hid (Inv w W1.heap.size w6.heap.size w7.heap.size wr c N F M K ua uc Pa ub vc Pb) ∧ Pa.length ≤ i + kx)
      case atStart => exact ⟨0, rfl, Nat.zero_le _, I0, by omega⟩
      case round =>
        clear I0
        obtain ⟨i, rfl, hi9, II, hkx⟩ := hrel
        by_cases hlt : i < Pa.length
        · obtain ⟨g, gcap, hv, hf⟩ := own_five II.out.oa hlt
          obtain ⟨rfl, rfl⟩ : ua = some ⟨g, 0, none⟩ ∧ uc = gcap := by simpa using hv
          have c0 := hf.c0
          have HMEM : Hid (Pa[i] ∈ Pa) := List.getElem_mem hlt
          have HFV : Hid (∀ (u : World), u.ownsRow W1.heap.size TPlan 5 (.slice (some ⟨g, 0, none⟩) Pa.length uc) Pa.length (flatN Pa) → Five u g (i * 5) Pa[i]) := fun u hu => by
            obtain ⟨g1, c1, hv1, hf1⟩ := own_five hu hlt
            cases hv1
            exact hf1
          have HU : Hid (U64 Pa[i].x.id) := (HT.out.id _ _ (HT.out.at' i hlt)).2.2 |> fun h => by rw [HT.out.key hlt]; exact h
          have hpl := HPL.out.1
          have hq9 : Pa[i].x.ps.length ≤ 100 := HPL.out.2 _ HMEM.out
          obtain ⟨q, hq⟩ : ∃ q, q = Pa[i] := ⟨_, rfl⟩
          rw [← hq] at c0 HMEM HFV HU hq9
          have KGT := Lib.hid (ct_get II.out.sc.ct q.x.id HU.out)
          unfold GetT at KGT
          have j0 : (0 : Int) ≤ (i : Int) := by omega
          have j1 : (i : Int) < (Pa.length : Int) := by omega
          have HLT := Lib.hid hlt
          have HKX := Lib.hid hkx
          obtain ⟨gt, hgt⟩ : ∃ gt, gt = getT M q.x.id := ⟨_, rfl⟩
          rw [← hgt] at KGT
          have HGT : Hid (gt.1.ps.length ≤ 100) := by
            show _ ≤ _
            rw [hgt]
            unfold getT
            cases hm : M q.x.id with
            | none => exact Nat.zero_le _
            | some x => exact (okB_len (HT.out.id _ _ hm).2.1).2
          clear hv hf hq hgt hlt hkx
          obtain ⟨⟨qid, qn, qe, ql, qr⟩, qa, qc⟩ := q
          simp only at c0 HU KGT hq9
          go_wp2_with fail
          refine KGT.out.mono ?_
          rintro _ w8 ⟨pv, hpv, rfl, ho8, hb8⟩
          have hgl9 : pv.x.ps.length ≤ 100 := by rw [hpv]; exact HGT.out
          obtain ⟨⟨gid, gn, ge, gl, gr⟩, gg, gc⟩ := pv
          unfold Pv.val Pn.val
          unfold Pv.sl at ho8
          simp only at ho8 hgl9 ⊢
          have HN8 : Hid (∀ g, adr gg = some ⟨g, 0, none⟩ → w7.heap.size ≤ g) := fun g hg => Nat.le_trans II.out.hs (ho8.lt g (by rw [hg]; rfl)).1
          have HW8 := Lib.hid (Wr.own ho8)
          have I8 := Lib.hid (II.out.later hb8)
          clear ho8 hb8 hpv KGT c0 II
          go_upto_region 20 with (fail)
          have hb9 : Below w8.heap.size w8 (w8.alloc (.cells #[.int .u64 gid, .string gn, .int .i64 ge, .slice (adr gg) gl.length gc, .int .i64 gr] TPlan)) := (Below.refl _ _).alloc (Nat.le_refl _) _
          have I9 := Lib.hid (I8.out.later hb9)
          have HW9 := Lib.hid (HW8.out.later hb9)
          have RG : Hid (Rw (w8.alloc (.cells #[.int .u64 gid, .string gn, .int .i64 ge, .slice (adr gg) gl.length gc, .int .i64 gr] TPlan)) w8.heap.size TPlan [.int .u64 gid, .string gn, .int .i64 ge, .slice (adr gg) gl.length gc, .int .i64 gr]) := Rw.new w8 [.int .u64 gid, .string gn, .int .i64 ge, .slice (adr gg) gl.length gc, .int .i64 gr] TPlan
          obtain ⟨bg, hbg⟩ : ∃ bg, bg = w8.heap.size := ⟨_, rfl⟩
          rw [← hbg] at RG ⊢
          generalize w8.alloc (.cells #[.int .u64 gid, .string gn, .int .i64 ge, .slice (adr gg) gl.length gc, .int .i64 gr] TPlan) = W9 at I9 HW9 RG ⊢
          clear hb9 hbg I8 HW8
          obtain ⟨ad, had⟩ : ∃ ad, ad = adr gg := ⟨_, rfl⟩
          rw [← had] at HN8 HW9 RG ⊢
          clear had
          go_upto_region 21 with (fail)
          go_loopg [12] ql.length (fun kx2 s12 wr => ∃ k : Nat, s12 = .int .i64 (k : Int) ∧ k ≤ ql.length ∧ Hid (Inv w W1.heap.size w6.heap.size w7.heap.size wr c N F M K (some ⟨g, 0, none⟩) uc Pa ub vc Pb) ∧ Hid (Rw wr bg TPlan [.int .u64 gid, .string gn, .int .i64 ge, .slice ad gl.length gc, .int .i64 gr]) ∧ Hid (Wr wr ad gl.length) ∧ ql.length ≤ k + kx2)
          case atStart => exact ⟨0, rfl, Nat.zero_le _, I9, RG, HW9, by omega⟩
          case round =>
            clear I9 RG HW9
            obtain ⟨k, rfl, hk9, I10, RG10, HW10, hkx2⟩ := hrel
            have c3 := (HFV.out _ I10.out.oa).c3
            simp only at c3
            by_cases hlt2 : k < ql.length
            · obtain ⟨g2, cur, hg, hr, hc⟩ := I10.out.wa _ HMEM.out (by show 0 < ql.length; omega)
              simp only at hg hc
              have hba := I10.out.ba _ HMEM.out g2 hg
              have I11 : Hid (Inv w W1.heap.size w6.heap.size w7.heap.size (wr.setCells g2 (k * 2) #[.int .i64 0, .int .i64 0].toList) c N F M K (some ⟨g, 0, none⟩) uc Pa ub vc Pb) := I10.out.write hr (.inl hba) hba.1 (k * 2) [.int .i64 0, .int .i64 0] (by show k * 2 + 2 ≤ _; omega)
              have HW11 : Hid (Wr (wr.setCells g2 (k * 2) #[.int .i64 0, .int .i64 0].toList) ad gl.length) := HW10.out.write hr (k * 2) [.int .i64 0, .int .i64 0] (by show k * 2 + 2 ≤ _; omega)
              have RG11 : Hid (Rw (wr.setCells g2 (k * 2) #[.int .i64 0, .int .i64 0].toList) bg TPlan [.int .u64 gid, .string gn, .int .i64 ge, .slice ad gl.length gc, .int .i64 gr]) := RG10.out.keeps (keeps_write wr g2 (k * 2) [.int .i64 0, .int .i64 0]) (fun e => rw_ne RG10.out hr (by decide) e)
              have HTH : Hid (wr.there g2 (k * 2) 2) := hr.there (k * 2) 2 (by omega)
              have z0 : (0 : Int) ≤ (k : Int) := by omega
              have z1 : (k : Int) < (ql.length : Int) := by omega
              rw [hg] at c3
              have HG := Lib.hid hg
              clear hg hr hc hba I10 RG10 HW10
              go_wp2_with (with_reducible refine wpList_store_mid rfl TPrice _ _ rfl g2 (k * 2) #[.int .i64 0, .int .i64 0] rfl rfl ?thr ?inf ?one ?_)
              case thr => exact HTH.out
              case one => simp [Value.oneCell']
              generalize wr.setCells g2 (k * 2) #[.int .i64 0, .int .i64 0].toList = W11 at I11 RG11 HW11 ⊢
              clear c3 HTH
              go_wp2_with fail
              go_roundg (ql.length - (k + 1))
              case measure => omega
              case rel => exact ⟨k + 1, by simp, by omega, I11, RG11, HW11, by omega⟩
            · have z1 : ¬ (k : Int) < (ql.length : Int) := by omega
              clear hlt2 hkx2
              go_upto_region 25 with (fail)
              clear c3
              go_loopg [13] gl.length (fun kx3 s13 wr => ∃ m : Nat, s13 = .int .i64 (m : Int) ∧ m ≤ gl.length ∧ Hid (Inv w W1.heap.size w6.heap.size w7.heap.size wr c N F M K (some ⟨g, 0, none⟩) uc Pa ub vc Pb) ∧ Hid (Rw wr bg TPlan [.int .u64 gid, .string gn, .int .i64 ge, .slice ad gl.length gc, .int .i64 gr]) ∧ Hid (Wr wr ad gl.length) ∧ gl.length ≤ m + kx3)
              case atStart => exact ⟨0, rfl, Nat.zero_le _, I10, RG10, HW10, by omega⟩
              case round =>
                clear I10 RG10 HW10
                obtain ⟨m, rfl, hm9, I12, RG12, HW12, hkx3⟩ := hrel
                have q3 : wr.cell? ⟨bg, 3, none⟩ = some (.slice ad gl.length gc) := RG12.out.cell 3
                by_cases hlt3 : m < gl.length
                · obtain ⟨g2, cur, hg, hr, hc⟩ := HW12.out (by omega)
                  have hn8 := HN8.out g2 hg
                  have I13 : Hid (Inv w W1.heap.size w6.heap.size w7.heap.size (wr.setCells g2 (m * 2) #[.int .i64 0, .int .i64 1].toList) c N F M K (some ⟨g, 0, none⟩) uc Pa ub vc Pb) := I12.out.write hr (.inr hn8) (Nat.le_trans (I12.out.l2) hn8) (m * 2) [.int .i64 0, .int .i64 1] (by show m * 2 + 2 ≤ _; omega)
                  have HW13 : Hid (Wr (wr.setCells g2 (m * 2) #[.int .i64 0, .int .i64 1].toList) ad gl.length) := HW12.out.write hr (m * 2) [.int .i64 0, .int .i64 1] (by show m * 2 + 2 ≤ _; omega)
                  have RG13 : Hid (Rw (wr.setCells g2 (m * 2) #[.int .i64 0, .int .i64 1].toList) bg TPlan [.int .u64 gid, .string gn, .int .i64 ge, .slice ad gl.length gc, .int .i64 gr]) := RG12.out.keeps (keeps_write wr g2 (m * 2) [.int .i64 0, .int .i64 1]) (fun e => rw_ne RG12.out hr (by decide) e)
                  have HTH : Hid (wr.there g2 (m * 2) 2) := hr.there (m * 2) 2 (by omega)
                  have z0 : (0 : Int) ≤ (m : Int) := by omega
                  have z1 : (m : Int) < (gl.length : Int) := by omega
                  rw [hg] at q3
                  have HG := Lib.hid hg
                  clear hg hr hc hn8 I12 RG12 HW12
                  have hbd := fun u : World => (show (Instr.build TPrice #[(1, .int .i64 1)]).run Try.prog u = .ok (.agg #[.int .i64 0, .int .i64 1]) u by kernel_rfl)
                  go_wp2_with (first | (with_reducible refine wpList_store_mid rfl TPrice _ _ rfl g2 (m * 2) #[.int .i64 0, .int .i64 1] rfl rfl ?thr ?inf ?one ?_) | (refine wpList_store_mid rfl TPrice _ _ rfl g2 (m * 2) #[.int .i64 0, .int .i64 1] rfl rfl ?thr ?inf ?one ?_))
                  case thr => exact HTH.out
                  case one => simp [Value.oneCell']
                  generalize wr.setCells g2 (m * 2) #[.int .i64 0, .int .i64 1].toList = W13 at I13 RG13 HW13 ⊢
                  clear q3 HTH
                  go_wp2_with fail
                  go_roundg (gl.length - (m + 1))
                  case measure => omega
                  case rel => exact ⟨m + 1, by simp, by omega, I13, RG13, HW13, by omega⟩
                · have z1 : ¬ (m : Int) < (gl.length : Int) := by omega
                  have hkx := HKX.out
                  have hlt := HLT.out
                  clear hlt3 hkx3
                  go_wp2_with fail
                  go_roundg (Pa.length - (i + 1))
                  case measure => omega
                  case rel => exact ⟨i + 1, by simp, by omega, I12, by omega⟩
        · have j1 : ¬ (i : Int) < (Pa.length : Int) := by omega
          clear hkx
          go_wp2_with fail
          go_meet
          exact ⟨rfl, II⟩
    obtain ⟨rfl, I1⟩ := hcut
    first | (rename_i hK1; apply hK1) | (rename_i hK1 _; apply hK1) | (rename_i hK1 _ _; apply hK1) | (rename_i hK1 _ _ _; apply hK1) | (rename_i hK1 _ _ _ _; apply hK1) | apply_assumption
    clear I0
    obtain ⟨W2, rfl⟩ : ∃ W2, W2 = wc := ⟨_, rfl⟩
    have I2 := Lib.hid I1.out
    go_upto_region 30 with (fail)
    have hb9 : Below W2.heap.size W2 (W2.alloc (.cells #[.map none, .slice none 0 0] TCat)) := (Below.refl _ _).alloc (Nat.le_refl _) _
    have I3 := Lib.hid (I1.out.later hb9)
    have HZ : Hid (Rw (W2.alloc (.cells #[.map none, .slice none 0 0] TCat)) W2.heap.size TCat [.map none, .slice none 0 0]) := Rw.new W2 [.map none, .slice none 0 0] TCat
    obtain ⟨bz, hbz⟩ : ∃ bz, bz = W2.heap.size := ⟨_, rfl⟩
    rw [← hbz] at HZ ⊢
    generalize W2.alloc (.cells #[.map none, .slice none 0 0] TCat) = W3 at I3 HZ ⊢
    clear hb9 hbz I1 I2
    have HIS : Hid (∀ u, Below W3.heap.size W3 u → zeroIs u (.pointer (some ⟨bz, 0, none⟩))) := fun u hu u2 hu2 => is_zero (HZ.out.later (hu.trans (hu2.mono hu.size)))
    have HNI : Hid (∀ u, zeroIs u (.pointer none)) := fun u u2 _ => is_nil u2
    have KG0 := Lib.hid (get_no (w := W3) (.pointer none) 1 (HNI.out W3))
    unfold GetRes at KG0
    go_wp2_with fail
    refine KG0.out.mono ?_
    rintro _ w10 ⟨pv, hpv, rfl, _, hb10⟩
    obtain ⟨⟨zid, zn, ze, zl, zr⟩, zg, zc⟩ := pv
    unfold Pv.val Pn.val
    simp only
    clear hpv KG0
    obtain ⟨az, haz⟩ : ∃ az, az = adr zg := ⟨_, rfl⟩
    rw [← haz]
    clear haz
    go_upto_region 31 with (fail)
    have BX : Hid (Below W3.heap.size W3 (w10.alloc (.cells #[.int .u64 zid, .string zn, .int .i64 ze, .slice az zl.length zc, .int .i64 zr] TPlan))) := hb10.alloc hb10.size _
    generalize w10.alloc (.cells #[.int .u64 zid, .string zn, .int .i64 ze, .slice az zl.length zc, .int .i64 zr] TPlan) = W4 at BX ⊢
    clear hb10
    generalize w10.heap.size = bq
    have KP0 := Lib.hid (price_no (w := W4) (.pointer (some ⟨bz, 0, none⟩)) 1 1 (HIS.out W4 BX.out))
    unfold PriceRes at KP0
    go_wp2_with fail
    refine KP0.out.mono ?_
    rintro _ W5 ⟨rfl, hb11⟩
    have BY : Hid (Below W3.heap.size W3 W5) := BX.out.trans (hb11.mono BX.out.size)
    clear hb11 KP0 BX
    have I5 := Lib.hid (I3.out.later BY.out)
    have KA5 := Lib.hid (ct_all I5.out.sc.ct (by have := I5.out.sc.len; omega))
    go_wp2_with fail
    refine KA5.out.mono ?_
    rintro _ W6 ⟨uu, uq, P6, rfl, q2, q3, q4, hb12⟩
    have B6 : Hid (Below W3.heap.size W3 W6) := BY.out.trans (hb12.mono BY.out.size)
    have I6 := Lib.hid (I5.out.later hb12)
    have KS6 : Hid (Calls Try.prog 21 #[.slice uu P6.length uq, .slice ub Pb.length vc] W6 fun e w' => e = .returned (.bool true) ∧ Below W6.heap.size W6 w') := by
      have he : P6.map (·.x) = Pb.map (·.x) := by
        have e1 := q4.trans HPB.out.symm
        have e2 := congrArg (List.map (fun o : Option Pn => o.getD Pn.zero)) e1
        simpa [List.map_map, Function.comp_def] using e2
      have hlen : P6.length ≤ 1000000 := by
        have h1 := congrArg List.length q4
        have h2 := I5.out.sc.len
        simp at h1
        omega
      refine same_c (all_doc q2 q3) I6.out.db he (fun p hp => ?_) hlen
      have : some p.x ∈ K.map M := by rw [← q4]; exact List.mem_map.2 ⟨p, hp, rfl⟩
      obtain ⟨k, _, hk⟩ := List.mem_map.1 this
      have := okB_len (I5.out.sc.ct.ok k p.x hk).2.1
      omega
    have HBI : Hid (∀ u, Below W6.heap.size W6 u → Below w.heap.size w u) := fun u hu => I6.out.sc.b.trans (hu.mono I6.out.sc.b.size)
    have HZ6 : Hid (∀ u, Below W6.heap.size W6 u → zeroIs u (.pointer (some ⟨bz, 0, none⟩))) := fun u hu => HIS.out u (B6.out.trans (hu.mono B6.out.size))
    clear q2 q3 q4 hb12 KA5 I5 I3 HIS HZ BY B6 I6
    go_wp2_with fail
    refine KS6.out.mono ?_
    rintro _ u0 ⟨rfl, b0⟩
    have B0 := Lib.hid b0
    clear b0 KS6
    have KX0 := Lib.hid (add_no (w := u0) (.pointer none) Pn.zero none 0 (HNI.out u0))
    unfold Pn.val Pn.zero at KX0
    simp only [List.length_nil] at KX0
    go_wp2_with fail
    refine KX0.out.mono ?_
    rintro _ u1 ⟨rfl, hx0⟩
    have B1 : Hid (Below W6.heap.size W6 u1) := B0.out.trans (hx0.mono B0.out.size)
    clear hx0 KX0 B0
    have KX1 := Lib.hid (add_no (w := u1) (.pointer (some ⟨bz, 0, none⟩)) Pn.zero none 0 (HZ6.out u1 B1.out))
    unfold Pn.val Pn.zero at KX1
    simp only [List.length_nil] at KX1
    go_wp2_with fail
    refine KX1.out.mono ?_
    rintro _ u2 ⟨rfl, hx1⟩
    have B2 : Hid (Below W6.heap.size W6 u2) := B1.out.trans (hx1.mono B1.out.size)
    clear hx1 KX1 B1
    have KX2 := Lib.hid (rep_no (w := u2) (.pointer none) 1 Pr.zero (HNI.out u2))
    unfold Pr.val Pr.zero at KX2
    simp only at KX2
    go_wp2_with fail
    refine KX2.out.mono ?_
    rintro _ u3 ⟨rfl, hx2⟩
    have B3 : Hid (Below W6.heap.size W6 u3) := B2.out.trans (hx2.mono B2.out.size)
    clear hx2 KX2 B2
    have KX3 := Lib.hid (ret_no (w := u3) (.pointer (some ⟨bz, 0, none⟩)) 1 1 (HZ6.out u3 B3.out))
    go_wp2_with fail
    refine KX3.out.mono ?_
    rintro _ u4 ⟨rfl, hx3⟩
    have B4 : Hid (Below W6.heap.size W6 u4) := B3.out.trans (hx3.mono B3.out.size)
    clear hx3 KX3 B3
    have KX4 := Lib.hid (all_no (w := u4) (.pointer none) (HNI.out u4))
    go_wp2_with fail
    refine KX4.out.mono ?_
    rintro _ u5 ⟨rfl, hx4⟩
    have B5 : Hid (Below W6.heap.size W6 u5) := B4.out.trans (hx4.mono B4.out.size)
    clear hx4 KX4 B4
    have KX5 := Lib.hid (all_no (w := u5) (.pointer (some ⟨bz, 0, none⟩)) (HZ6.out u5 B5.out))
    go_wp2_with fail
    refine KX5.out.mono ?_
    rintro _ u6 ⟨rfl, hx5⟩
    have B6 : Hid (Below W6.heap.size W6 u6) := B5.out.trans (hx5.mono B5.out.size)
    clear hx5 KX5 B5
    have KX6 := Lib.hid (sold_no (w := u6) (.pointer none) 1 1 (HNI.out u6))
    go_wp2_with fail
    refine KX6.out.mono ?_
    rintro _ u7 ⟨rfl, hx6⟩
    have B7 : Hid (Below W6.heap.size W6 u7) := B6.out.trans (hx6.mono B6.out.size)
    clear hx6 KX6 B6
    have KX7 := Lib.hid (sold_no (w := u7) (.pointer (some ⟨bz, 0, none⟩)) 1 1 (HZ6.out u7 B7.out))
    go_wp2_with fail
    refine KX7.out.mono ?_
    rintro _ u8 ⟨rfl, hx7⟩
    have B8 : Hid (Below W6.heap.size W6 u8) := B7.out.trans (hx7.mono B7.out.size)
    clear hx7 KX7 B7
    have KX8 := Lib.hid (KH.out u8)
    go_wp2_with fail
    refine KX8.out.mono ?_
    rintro _ u9 ⟨rfl, hx8⟩
    have B9 : Hid (Below W6.heap.size W6 u9) := B8.out.trans (hx8.mono B8.out.size)
    clear hx8 KX8 B8
    go_wp2_with fail
    go_ret
    exact ⟨rfl, HBI.out _ B9.out⟩
end Go.Proofs.Ytakpoabpgdmneaa.Pl

