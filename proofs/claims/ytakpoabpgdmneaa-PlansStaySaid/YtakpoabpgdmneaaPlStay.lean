/- The statements of plans: PlansStay. -/
import Derived.Test.YtakpoabpgdmneaaPlStay0
namespace Go.Proofs.Ytakpoabpgdmneaa.Pl
open Go Go.RowKit Ck Go.Maps
set_option maxRecDepth 100000 in
set_option maxHeartbeats 12800000 in
theorem stay_law (l : List Ac) (a : Option Addr) (cap : Nat) (id day : Int) (w : World) (h : Acs w a l) (hf : ∀ x ∈ l, Ac.Fits x) (hl : l.length ≤ maxLen) (hid : U64 id) : Calls Try.prog 4 #[.slice a l.length cap, .int .u64 id, .int .i64 day] w fun e w' => e = .returned (.bool true) ∧ Below w.heap.size w w' := by
  have H := Lib.hid h
  have HFT := Lib.hid hf
  have HID := Lib.hid hid
  have KG := Lib.hid (great_c l a cap w h hl hf)
  have KH : Hid (∀ u, Calls Try.prog 7 #[] u fun e w' => e = .returned (.bool true) ∧ Below u.heap.size u w') := fun u => head_c u
  obtain ⟨gr, hgr⟩ : ∃ gr, gr = greatB l := ⟨_, rfl⟩
  rw [← hgr] at KG
  have HGR := Lib.hid hgr
  clear h hf hl hgr hid
  go_enter Try.func4, Try.ntmps4
  go_wp2_with fail
  refine KG.out.mono ?_
  rintro _ _ ⟨rfl, rfl⟩
  cases gr with
  | true =>
    go_wp2_with fail
    refine (KH.out _).mono ?_
    rintro _ w1 ⟨rfl, hb⟩
    go_wp2_with fail
    go_ret
    exact ⟨rfl, hb⟩
  | false =>
    obtain ⟨hl, hsm⟩ := not_great HGR.out.symm
    have HSM := Lib.hid hsm
    clear hsm HGR KG
    go_wp2_with fail
    refine (ct_new w).mono ?_
    rintro _ w1 ⟨c, F0, rfl, hc, hb, hF⟩
    have S0 : Hid (Sc w w1 c 0 F0 (fun _ => none) []) := ⟨hc, hF, hb, Nat.le_refl _⟩
    clear hc hb hF
    go_upto_region 4 with (fail)
    go_cut [8] (fun s8 wx => s8 = .int .i64 0 ∧ w1 = wx)
    case first =>
      go_wp2_with fail
      go_meet
      exact ⟨rfl, rfl⟩
    obtain ⟨rfl, rfl⟩ := hcut
    rename_i hKK
    apply hKK
    clear hKK
    go_cut [7] (fun s7 wx => s7 = .pointer (some ⟨c, 0, none⟩) ∧ ∃ (N : Nat) (F : Nat → Prop) (M : Int → Option Pn) (K : List Int), N ≤ 120 ∧ Hid (Sc w wx c N F M K))
    case first =>
      try clear_value *
      as_aux_lemma =>
        go_wp2_with fail
        go_loopg [8] l.length (fun kx s8 wr => ∃ (i : Nat) (F : Nat → Prop) (M : Int → Option Pn) (K : List Int), s8 = .int .i64 (i : Int) ∧ i ≤ l.length ∧ Hid (Sc w wr c i F M K) ∧ l.length ≤ i + kx)
        case atStart => exact ⟨0, F0, _, [], rfl, Nat.zero_le _, S0, by omega⟩
        case round =>
          clear S0
          obtain ⟨i, F, M, K, rfl, hi9, HSY, hkx⟩ := hrel
          by_cases hlt : i < l.length
          · by_cases h30 : i < 30
            · obtain ⟨ab, ao, rfl, hblt, hcell, hprs⟩ := H.out i hlt
              have hfit := HFT.out _ (List.getElem_mem hlt)
              have hsml := HSM.out _ (List.getElem_mem hlt)
              obtain ⟨x, hx⟩ : ∃ x, x = l[i] := ⟨_, rfl⟩
              rw [← hx] at hcell hprs hfit hsml
              have hwr (k : Nat) (u : Value) (hu : x.cells[k]? = some u) : wr.cell? ⟨ab, ao + i * 9 + k, none⟩ = some u := by rw [HSY.out.b.cell (by simpa using hblt)]; exact hcell k u hu
              have j0 : (0 : Int) ≤ (i : Int) := by omega
              have j1 : (i : Int) < (l.length : Int) := by omega
              have j2 : (i : Int) < 30 := by omega
              have HLT := Lib.hid hlt
              have HKX := Lib.hid hkx
              have HPR := Lib.hid hprs
              obtain ⟨wh, ⟨pid, name, every, L, ret⟩, pa, pc, ⟨yf, ya⟩, dd⟩ := x
              have x0 := hwr 0 _ rfl
              have x1 := hwr 1 _ rfl
              have x2 := hwr 2 _ rfl
              have x3 := hwr 3 _ rfl
              have x4 := hwr 4 _ rfl
              have x5 := hwr 5 _ rfl
              have x6 := hwr 6 _ rfl
              have x7 := hwr 7 _ rfl
              have x8 := hwr 8 _ rfl
              have HU : Hid (U64 pid) := hfit.id
              have HR3 : Hid (wh.tmod 3 = 0 ∨ wh.tmod 3 = 1 ∨ wh.tmod 3 = 2) := by
                have h1 := hfit.w
                simp only at h1
                show _ ∨ _ ∨ _
                rw [Int.tmod_eq_emod_of_nonneg h1.1]; omega
              simp only at x0 x1 x2 x3 x4 x5 x6 x7 x8 HPR
              rw [Nat.add_zero] at x0
              clear hcell hprs hfit hsml hwr hblt hx hlt hkx h30
              go_upto_region 8 with (fail)
              have hb1 : Below wr.heap.size wr (wr.alloc (.cells #[.int .u8 wh, .int .u64 pid, .string name, .int .i64 every, .slice pa L.length pc, .int .i64 ret, .int .i64 yf, .int .i64 ya, .int .i64 dd] TAct)) := (Below.refl _ _).alloc (Nat.le_refl _) _
              have SY := Lib.hid (HSY.out.later hb1)
              have RX : Hid (Rw (wr.alloc (.cells #[.int .u8 wh, .int .u64 pid, .string name, .int .i64 every, .slice pa L.length pc, .int .i64 ret, .int .i64 yf, .int .i64 ya, .int .i64 dd] TAct)) wr.heap.size TAct [.int .u8 wh, .int .u64 pid, .string name, .int .i64 every, .slice pa L.length pc, .int .i64 ret, .int .i64 yf, .int .i64 ya, .int .i64 dd]) := Rw.new wr [.int .u8 wh, .int .u64 pid, .string name, .int .i64 every, .slice pa L.length pc, .int .i64 ret, .int .i64 yf, .int .i64 ya, .int .i64 dd] TAct
              obtain ⟨b9, hb9⟩ : ∃ b9, b9 = wr.heap.size := ⟨_, rfl⟩
              rw [← hb9] at RX ⊢
              generalize wr.alloc (.cells #[.int .u8 wh, .int .u64 pid, .string name, .int .i64 every, .slice pa L.length pc, .int .i64 ret, .int .i64 yf, .int .i64 ya, .int .i64 dd] TAct) = W at SY RX ⊢
              clear x0 x1 x2 x3 x4 x5 x6 x7 x8 hb1 hb9 HSY
              obtain ⟨r, hr⟩ : ∃ r, r = priceT M id day := ⟨_, rfl⟩
              obtain ⟨sd, hsd⟩ : ∃ sd, sd = soldT M id day := ⟨_, rfl⟩
              have KP := Lib.hid (ct_price SY.out.ct id HID.out day)
              have KS : Hid (∀ u, Below W.heap.size W u → Calls Try.prog 17 #[.pointer (some ⟨c, 0, none⟩), .int .u64 id, .int .i64 day] u fun e w' => e = .returned (.bool sd) ∧ Below u.heap.size u w') := fun u hu => by rw [hsd]; exact ct_sold (SY.out.ct.later hu) id HID.out day
              unfold PriceRes at KP
              rw [← hr] at KP
              have HRR := Lib.hid hr
              have HSD := Lib.hid hsd
              clear hr hsd
              obtain ⟨rn, re⟩ := r
              simp only at KP
              go_wp2_with fail
              refine KP.out.mono ?_
              rintro _ w4 ⟨rfl, hb4⟩
              have S4 := Lib.hid (SY.out.later hb4)
              have RX4 := Lib.hid (RX.out.later hb4)
              have KS4 := Lib.hid (KS.out _ hb4)
              clear hb4 SY RX KP KS
              go_wp2_with fail
              refine KS4.out.mono ?_
              rintro _ w5 ⟨rfl, hb5⟩
              have S5 := Lib.hid (S4.out.later hb5)
              have RX5 := Lib.hid (RX4.out.later hb5)
              clear hb5 S4 RX4 KS4
              go_upto_region 10 with (fail)
              go_cut [13] from 22 to 153 (fun s13 wx => s13 = .int .i64 0 ∧ w5 = wx)
              case first =>
                go_wp2_with fail
                go_meet
                exact ⟨rfl, rfl⟩
              obtain ⟨rfl, rfl⟩ := hcut
              rename_i hK2
              apply hK2
              refine wp_seq_k (fun K3 hK3 => ?_)
              go_cut [13] from 22 to 153 (fun s13 wx => ∃ (own : Int) (F' : Nat → Prop) (M' : Int → Option Pn) (K' : List Int), s13 = .int .i64 own ∧ Hid (Sc w wx c (i + 1) F' M' K') ∧ Hid (Kept M M' (wh.tmod 3) pid id day own) ∧ Hid (Rw wx b9 TAct [.int .u8 wh, .int .u64 pid, .string name, .int .i64 every, .slice pa L.length pc, .int .i64 ret, .int .i64 yf, .int .i64 ya, .int .i64 dd]))
              case first =>
                try clear_value *
                as_aux_lemma =>
                  have HB9 := Lib.hid (S5.out.act_ne RX5.out)
                  have hk9 : K.length ≤ 1000000 := by have := S5.out.len; omega
                  have hn : i < 1000000 := by omega
                  have KA := Lib.hid (ct_add S5.out.ct ⟨pid, name, every, L, ret⟩ pa pc (S5.out.prs HPR.out) HU.out hn hk9)
                  have KR := Lib.hid (ct_reprice S5.out.ct pid HU.out ⟨yf, ya⟩ hn)
                  have KT := Lib.hid (ct_retire S5.out.ct pid HU.out dd hn)
                  unfold Pn.val at KA
                  unfold Pr.val at KR
                  have x0 : w5.cell? ⟨b9, 0, none⟩ = some (.int .u8 wh) := RX5.out.cell 0
                  have x1 : w5.cell? ⟨b9, 1, none⟩ = some (.int .u64 pid) := RX5.out.cell 1
                  have x2 : w5.cell? ⟨b9, 2, none⟩ = some (.string name) := RX5.out.cell 2
                  have x3 : w5.cell? ⟨b9, 3, none⟩ = some (.int .i64 every) := RX5.out.cell 3
                  have x4 : w5.cell? ⟨b9, 4, none⟩ = some (.slice pa L.length pc) := RX5.out.cell 4
                  have x5 : w5.cell? ⟨b9, 5, none⟩ = some (.int .i64 ret) := RX5.out.cell 5
                  have x6 : w5.cell? ⟨b9, 6, none⟩ = some (.int .i64 yf) := RX5.out.cell 6
                  have x7 : w5.cell? ⟨b9, 7, none⟩ = some (.int .i64 ya) := RX5.out.cell 7
                  have x8 : w5.cell? ⟨b9, 8, none⟩ = some (.int .i64 dd) := RX5.out.cell 8
                  rcases HR3.out with hr3 | hr3 | hr3
                  · have HKP : Hid (Kept M (addM M ⟨pid, name, every, L, ret⟩).1 (wh.tmod 3) pid id day 0) := kept_add M ⟨pid, name, every, L, ret⟩ id day 0 _
                    go_wp2_with fail
                    refine KA.out.mono ?_
                    rintro _ w6 ⟨rfl, hg⟩
                    obtain ⟨F3, K3, s3, k3⟩ := S5.out.step hg
                    have rx3 := RX5.out.keeps k3 (fun hj => HB9.out _ hj rfl)
                    clear x0 x1 x2 x3 x4 x5 x6 x7 x8
                    go_wp2_with fail
                    go_meet
                    exact ⟨0, F3, _, K3, rfl, s3, HKP, rx3⟩
                  · have HKP : Hid (Kept M (repriceM M pid ⟨yf, ya⟩).1 (wh.tmod 3) pid id day yf) := by rw [hr3]; exact kept_reprice M pid ⟨yf, ya⟩ id day
                    go_wp2_with fail
                    refine KR.out.mono ?_
                    rintro _ w6 ⟨rfl, hg⟩
                    obtain ⟨F3, K3, s3, k3⟩ := S5.out.step hg
                    have rx3 := Lib.hid (RX5.out.keeps k3 (fun hj => HB9.out _ hj rfl))
                    clear x0 x1 x2 x3 x4 x5 x6 x7 x8
                    have x6 : w6.cell? ⟨b9, 6, none⟩ = some (.int .i64 yf) := rx3.out.cell 6
                    go_wp2_with fail
                    go_meet
                    exact ⟨yf, F3, _, K3, rfl, s3, HKP, rx3⟩
                  · have HKP : Hid (Kept M (retireM M pid dd).1 (wh.tmod 3) pid id day dd) := by rw [hr3]; exact kept_retire M pid dd id day
                    go_wp2_with fail
                    refine KT.out.mono ?_
                    rintro _ w6 ⟨rfl, hg⟩
                    obtain ⟨F3, K3, s3, k3⟩ := S5.out.step hg
                    have rx3 := Lib.hid (RX5.out.keeps k3 (fun hj => HB9.out _ hj rfl))
                    clear x0 x1 x2 x3 x4 x5 x6 x7 x8
                    have x8 : w6.cell? ⟨b9, 8, none⟩ = some (.int .i64 dd) := rx3.out.cell 8
                    go_wp2_with fail
                    go_meet
                    exact ⟨dd, F3, _, K3, rfl, s3, HKP, rx3⟩
              obtain ⟨own, F', M', K', rfl, S1, HKP, RX1⟩ := hcut
              apply hK3
              clear hK3 hK2 S5 RX5
              obtain ⟨W1, rfl⟩ : ∃ W1, W1 = wc := ⟨_, rfl⟩
              obtain ⟨r, hr⟩ : ∃ r, r = priceT M' id day := ⟨_, rfl⟩
              obtain ⟨sd2, hsd⟩ : ∃ sd2, sd2 = soldT M' id day := ⟨_, rfl⟩
              have KP := Lib.hid (ct_price S1.out.ct id HID.out day)
              have KS : Hid (∀ u, Below W1.heap.size W1 u → Calls Try.prog 17 #[.pointer (some ⟨c, 0, none⟩), .int .u64 id, .int .i64 day] u fun e w' => e = .returned (.bool sd2) ∧ Below u.heap.size u w') := fun u hu => by rw [hsd]; exact ct_sold (S1.out.ct.later hu) id HID.out day
              unfold PriceRes at KP
              rw [← hr] at KP
              obtain ⟨pn, pe⟩ := r
              have H1 : Hid ((re = 0 → pe = 0) ∧ (re = 0 → pid ≠ id → pn = rn) ∧ (re = 0 → (wh.tmod 3 ≠ 1 ∨ day < own) → pn = rn) ∧ (sd = true → sd2 = false → wh.tmod 3 = 2 ∧ pid = id ∧ ¬ day < own)) := by
                have hk := HKP.out
                obtain ⟨k1, k2, k3, k4⟩ := hk
                rw [← hr, ← HRR.out] at k1 k2 k3
                rw [← hsd, ← HSD.out] at k4
                exact ⟨k1, k2, k3, k4⟩
              simp only at KP
              clear hr hsd HRR HSD HKP
              go_wp2_with fail
              refine KP.out.mono ?_
              rintro _ w7 ⟨rfl, hb7⟩
              have S7 := Lib.hid (S1.out.later hb7)
              have RX7 := Lib.hid (RX1.out.later hb7)
              have KS7 := Lib.hid (KS.out _ hb7)
              clear hb7 S1 RX1 KP KS
              have x0 : w7.cell? ⟨b9, 0, none⟩ = some (.int .u8 wh) := RX7.out.cell 0
              have x1 : w7.cell? ⟨b9, 1, none⟩ = some (.int .u64 pid) := RX7.out.cell 1
              go_upto_region 21 with (fail)
              go_cut [127] from 22 to 153 (fun s wx => s = .bool false ∧ w7 = wx)
              case first =>
                try clear_value *
                as_aux_lemma =>
                  by_cases he : re = 0
                  · subst he
                    obtain rfl : pe = 0 := H1.out.1 rfl
                    by_cases hn : pn = rn
                    · subst hn
                      by_cases hp : pid = id
                      · have hpb : (pid != id) = false := by simpa using hp
                        clear hp
                        rcases HR3.out with hr3 | hr3 | hr3
                        · go_wp2_with fail
                          go_meet
                          exact ⟨rfl, rfl⟩
                        · by_cases hd : day < own
                          · go_wp2_with fail
                            go_meet
                            exact ⟨rfl, rfl⟩
                          · go_wp2_with fail
                            go_meet
                            exact ⟨rfl, rfl⟩
                        · go_wp2_with fail
                          go_meet
                          exact ⟨rfl, rfl⟩
                      · have hpb : (pid != id) = true := by simpa using hp
                        clear hp
                        rcases HR3.out with hr3 | hr3 | hr3
                        · go_wp2_with fail
                          go_meet
                          exact ⟨rfl, rfl⟩
                        · by_cases hd : day < own
                          · go_wp2_with fail
                            go_meet
                            exact ⟨rfl, rfl⟩
                          · go_wp2_with fail
                            go_meet
                            exact ⟨rfl, rfl⟩
                        · go_wp2_with fail
                          go_meet
                          exact ⟨rfl, rfl⟩
                    · have hp : pid = id := Classical.byContradiction fun h => hn (H1.out.2.1 rfl h)
                      have hr3 : wh.tmod 3 = 1 := Classical.byContradiction fun h => hn (H1.out.2.2.1 rfl (.inl h))
                      have hd : ¬ day < own := fun h => hn (H1.out.2.2.1 rfl (.inr h))
                      have hpb : (pid != id) = false := by simpa using hp
                      clear hp hn
                      go_wp2_with fail
                      go_meet
                      exact ⟨rfl, rfl⟩
                  · have hne : (re == 0) = false := beq_eq_false_iff_ne.2 he
                    clear he
                    go_wp2_with fail
                    go_meet
                    exact ⟨rfl, rfl⟩
              obtain ⟨rfl, rfl⟩ := hcut
              rename_i hK4
              apply hK4
              have HI9 : Hid (i + 1 ≤ l.length) := by show _ ≤ _; exact HLT.out
              cases sd with
              | false =>
                clear x0 x1
                go_wp2_with fail
                have hkx := HKX.out
                have hi9' := HI9.out
                go_roundg (l.length - (i + 1))
                case measure => omega
                case rel => exact ⟨i + 1, F', M', K', by simp, hi9', S7, by omega⟩
              | true =>
                go_wp2_with fail
                refine KS7.out.mono ?_
                rintro _ w8 ⟨rfl, hb8⟩
                have S8 := Lib.hid (S7.out.later hb8)
                have RX8 := Lib.hid (RX7.out.later hb8)
                clear hb8 x0 x1
                cases sd2 with
                | true =>
                  go_wp2_with fail
                  have hkx := HKX.out
                  have hi9' := HI9.out
                  go_roundg (l.length - (i + 1))
                  case measure => omega
                  case rel => exact ⟨i + 1, F', M', K', by simp, hi9', S8, by omega⟩
                | false =>
                  obtain ⟨hr3, hp, hd⟩ := H1.out.2.2.2 (by first | rfl | trivial) (by first | rfl | trivial)
                  have hpb : (pid != id) = false := by simpa using hp
                  have hdf : ¬ day < own := by first | exact hd | omega
                  have x0 : w8.cell? ⟨b9, 0, none⟩ = some (.int .u8 wh) := RX8.out.cell 0
                  have x1 : w8.cell? ⟨b9, 1, none⟩ = some (.int .u64 pid) := RX8.out.cell 1
                  clear hp hd
                  go_wp2_with fail
                  have hkx := HKX.out
                  have hi9' := HI9.out
                  go_roundg (l.length - (i + 1))
                  case measure => omega
                  case rel => exact ⟨i + 1, F', M', K', by simp, hi9', S8, by omega⟩
            · have j1 : (i : Int) < (l.length : Int) := by omega
              have j2 : ¬ (i : Int) < 30 := by omega
              clear hkx
              go_wp2_with fail
              go_meet
              exact ⟨rfl, i, F, M, K, by omega, HSY⟩
          · have j1 : ¬ (i : Int) < (l.length : Int) := by omega
            clear hkx
            go_wp2_with fail
            go_meet
            exact ⟨rfl, i, F, M, K, by omega, HSY⟩
    obtain ⟨rfl, N, F, M, K, hN, HSC⟩ := hcut
    first | (rename_i hK1; apply hK1) | (rename_i hK1 _; apply hK1) | (rename_i hK1 _ _; apply hK1) | (rename_i hK1 _ _ _; apply hK1) | (rename_i hK1 _ _ _ _; apply hK1) | apply_assumption
    clear S0
    obtain ⟨W1, rfl⟩ : ∃ W1, W1 = wc := ⟨_, rfl⟩
    have KA := Lib.hid (ct_all HSC.out.ct (by have := HSC.out.len; omega))
    go_wp2_with fail
    refine KA.out.mono ?_
    rintro _ w6 ⟨ua, uc, P, rfl, h2, h3, h4, hb6⟩
    have HT := Lib.hid (Tied.of HSC.out.ct.ks h4 HSC.out.ct.ok)
    have HD := Lib.hid (all_doc h2 h3)
    have HB6 : Hid (Below w.heap.size w w6) := HSC.out.b.trans (hb6.mono HSC.out.b.size)
    have hPl : P.length ≤ 1000000 := by have h1 := HT.out.len; have h2 := HSC.out.len; omega
    clear h2 h3 h4 hb6 KA HSC
    go_upto_region 27 with (fail)
    go_loopg [17] P.length (fun kx s17 wr => ∃ j : Nat, s17 = .int .i64 (j : Int) ∧ j ≤ P.length ∧ Hid (Below w6.heap.size w6 wr) ∧ P.length ≤ j + kx)
    case atStart => exact ⟨0, rfl, Nat.zero_le _, Below.refl _ _, by omega⟩
    case round =>
      obtain ⟨j, rfl, hj9, HW, hkx⟩ := hrel
      by_cases hlt : j < P.length
      · obtain ⟨g, gcap, hv, hf⟩ := (HD.out.later HW.out).five hlt
        obtain ⟨rfl, rfl⟩ : ua = some ⟨g, 0, none⟩ ∧ uc = gcap := by simpa using hv
        have HFV : Hid (∀ (k : Nat) (hk : k < P.length) (u : World), Below wr.heap.size wr u → Five u g (k * 5) P[k]) := fun k hk u hu => by
          obtain ⟨g1, c1, hv1, hf1⟩ := (HD.out.later (HW.out.trans (hu.mono HW.out.size))).five hk
          cases hv1
          exact hf1
        have KC : Hid (∀ u, Below wr.heap.size wr u → Calls Try.prog 19 #[P[j].val] u fun e w' => e = .returned (.int .i64 0) ∧ Below u.heap.size u w') := fun u hu => by
          have a1 := ((HD.out.later (HW.out.trans (hu.mono HW.out.size))).prs _ (List.getElem_mem hlt)).1
          have := check_c P[j].x P[j].a P[j].cap u a1
          rw [HT.out.ok hlt, if_pos rfl] at this
          exact this
        have HUP : Hid (∀ (j1 : Nat) (h1 : j1 + 1 = j), (P[j1]'(by omega)).x.id < P[j].x.id) := fun j1 h1 => by
          rw [HT.out.key hlt, HT.out.key (show j1 < P.length by omega)]
          exact up_le HT.out.ks.up (by omega) (by have := HT.out.len; omega)
        have j0 : (0 : Int) ≤ (j : Int) := by omega
        have j1 : (j : Int) < (P.length : Int) := by omega
        have HLT := Lib.hid hlt
        have HKX := Lib.hid hkx
        have HJF : Hid (∀ u, Below wr.heap.size wr u → Five u g (j * 5) P[j]) := HFV.out j hlt
        generalize hq : P[j]'(HLT.out) = q at KC HUP HJF
        clear hf hv hkx hq
        obtain ⟨⟨qid, qn, qe, ql, qr⟩, qa, qc⟩ := q
        unfold Pf.val Pn.val at KC
        simp only at KC HUP
        go_upto_region 29 with (fail)
        by_cases hj0 : j = 0
        · subst hj0
          have HJ0 : Hid (∀ u, Below wr.heap.size wr u → Five u g 0 ⟨⟨qid, qn, qe, ql, qr⟩, qa, qc⟩) := fun u hu => by
            have := HJF.out u hu
            rw [Nat.zero_mul] at this
            exact this
          refine wp_region_held_drew (S := (fun u => u.cell? ⟨g, 0, none⟩ = some (.int .u64 qid) ∧ u.cell? ⟨g, 1, none⟩ = some (.string qn) ∧ u.cell? ⟨g, 2, none⟩ = some (.int .i64 qe) ∧ u.cell? ⟨g, 3, none⟩ = some (.slice qa ql.length qc) ∧ u.cell? ⟨g, 4, none⟩ = some (.int .i64 qr) ∧ Below wr.heap.size wr u)) (by kernel_rfl) ?_ (fun hHeld => ?_)
          · exact ⟨(HJ0.out _ ((Below.refl _ wr).drew)).c0, (HJ0.out _ ((Below.refl _ wr).drew)).c1, (HJ0.out _ ((Below.refl _ wr).drew)).c2, (HJ0.out _ ((Below.refl _ wr).drew)).c3, (HJ0.out _ ((Below.refl _ wr).drew)).c4, (Below.refl _ wr).drew⟩
          refine wpAnyH_take (i := 0) (oi := { dst := some 162, op := Op.move (Operand.tmp 16), type := 27, pos := "law.go:114", after := #[], guard := none }) (v := (.slice (some ⟨g, 0, none⟩) P.length uc)) rfl (by kernel_rfl) (by kernel_rfl) (by kernel_rfl) (fun _ _ _ h => h) (Or.inl ⟨by rfl, ?_⟩) hHeld ?_
          · rintro u ⟨p0, p1, p2, p3, p4, -⟩
            go_simp <;> first | rfl | kernel_rfl
          try simp only [Act.put, List.setIfInBounds_toArray, List.set_cons_zero, List.set_cons_succ]
          refine wpAnyH_take (i := 1) (oi := { dst := some 163, op := Op.move (Operand.tmp 17), type := 3, pos := "law.go:114", after := #[], guard := none }) (v := (.int .i64 ((0 : Nat) : Int))) rfl (by kernel_rfl) (by kernel_rfl) (by kernel_rfl) (fun _ _ _ h => h) (Or.inl ⟨by rfl, ?_⟩) hHeld ?_
          · rintro u ⟨p0, p1, p2, p3, p4, -⟩
            go_simp <;> first | rfl | kernel_rfl
          try simp only [Act.put, List.setIfInBounds_toArray, List.set_cons_zero, List.set_cons_succ]
          refine wpAnyH_take (i := 2) (oi := { dst := some 164, op := Op.indexAddr 27 (Operand.tmp 162) (Operand.tmp 163), type := 0, pos := "law.go:114", after := #[{ on := 0, ground := Ground.data }, { on := 1, ground := Ground.data }], guard := none }) (v := (.pointer (some ⟨g, 0, none⟩))) rfl (by kernel_rfl) (by kernel_rfl) (by kernel_rfl) (fun _ _ _ h => h) (Or.inl ⟨by rfl, ?_⟩) hHeld ?_
          · rintro u ⟨p0, p1, p2, p3, p4, -⟩
            go_simp <;> first | rfl | kernel_rfl
          try simp only [Act.put, List.setIfInBounds_toArray, List.set_cons_zero, List.set_cons_succ]
          refine wpAnyH_take (i := 3) (oi := { dst := some 165, op := Op.load 31 (Operand.tmp 164), type := 31, pos := "law.go:114", after := #[{ on := 2, ground := Ground.data }], guard := none }) (v := (.agg #[.int .u64 qid, .string qn, .int .i64 qe, .slice qa ql.length qc, .int .i64 qr])) rfl (by kernel_rfl) (by kernel_rfl) (by kernel_rfl) (fun _ _ _ h => h) (Or.inl ⟨by rfl, ?_⟩) hHeld ?_
          · rintro u ⟨p0, p1, p2, p3, p4, -⟩
            go_simp <;> first | rfl | kernel_rfl
          try simp only [Act.put, List.setIfInBounds_toArray, List.set_cons_zero, List.set_cons_succ]
          refine wpAnyH_ready (rs := [4]) (by kernel_rfl) (by simp) ?_
          refine AllReadyH.cons (o := { dst := some 166, op := Op.call { callee := Callee.value (Operand.func 19), args := #[Operand.tmp 165], argTypes := #[31] }, type := 38, pos := "law.go:114", after := #[{ on := 3, ground := Ground.data }], guard := none }) rfl (fun Kq hKq => ?_) AllReadyH.nil
          go_simp
          refine (KC.out _ (hHeld.2.2.2.2.2)).mono ?_
          rintro e u2 ⟨rfl, hb2⟩
          have BU := Below.trans hHeld.2.2.2.2.2 (hb2.mono (Below.size hHeld.2.2.2.2.2))
          go_wp2_with fail
          refine hKq.out _ _ (⟨(HJ0.out _ (BU)).c0, (HJ0.out _ (BU)).c1, (HJ0.out _ (BU)).c2, (HJ0.out _ (BU)).c3, (HJ0.out _ (BU)).c4, BU⟩) (fun hHeld4 => ?_)
          clear hKq Kq
          try simp only [Act.put, List.setIfInBounds_toArray, List.set_cons_zero, List.set_cons_succ]
          refine wpAnyH_take (i := 5) (oi := { dst := some 167, op := Op.binOp BinOp.neq 38 (Operand.tmp 166) (Operand.const (Value.int IntKind.i64 0)) 38, type := 4, pos := "law.go:114", after := #[{ on := 4, ground := Ground.data }], guard := none }) (v := (.bool false)) rfl (by kernel_rfl) (by kernel_rfl) (by kernel_rfl) (fun _ _ _ h => h) (Or.inl ⟨by rfl, ?_⟩) hHeld4 ?_
          · rintro u ⟨p0, p1, p2, p3, p4, -⟩
            go_simp <;> first | rfl | kernel_rfl
          try simp only [Act.put, List.setIfInBounds_toArray, List.set_cons_zero, List.set_cons_succ]
          refine wpAnyH_take (i := 6) (oi := { dst := some 168, op := Op.move (Operand.tmp 167), type := 4, pos := "law.go:114", after := #[{ on := 5, ground := Ground.data }, { on := 4, ground := Ground.chain }], guard := none }) (v := (.bool false)) rfl (by kernel_rfl) (by kernel_rfl) (by kernel_rfl) (fun _ _ _ h => h) (Or.inl ⟨by rfl, ?_⟩) hHeld4 ?_
          · rintro u ⟨p0, p1, p2, p3, p4, -⟩
            go_simp <;> first | rfl | kernel_rfl
          try simp only [Act.put, List.setIfInBounds_toArray, List.set_cons_zero, List.set_cons_succ]
          refine wpAnyH_take (i := 7) (oi := { dst := some 169, op := Op.move (Operand.tmp 17), type := 3, pos := "law.go:114", after := #[{ on := 6, ground := Ground.guard }], guard := some (6, false) }) (v := (.int .i64 ((0 : Nat) : Int))) rfl (by kernel_rfl) (by kernel_rfl) (by kernel_rfl) (fun _ _ _ h => h) (Or.inl ⟨by rfl, ?_⟩) hHeld4 ?_
          · rintro u ⟨p0, p1, p2, p3, p4, -⟩
            go_simp <;> first | rfl | kernel_rfl
          try simp only [Act.put, List.setIfInBounds_toArray, List.set_cons_zero, List.set_cons_succ]
          refine wpAnyH_take (i := 8) (oi := { dst := some 170, op := Op.binOp BinOp.gtr 3 (Operand.tmp 169) (Operand.const (Value.int IntKind.i64 0)) 3, type := 4, pos := "law.go:114", after := #[{ on := 7, ground := Ground.data }, { on := 6, ground := Ground.guard }], guard := some (6, false) }) (v := (.bool false)) rfl (by kernel_rfl) (by kernel_rfl) (by kernel_rfl) (fun _ _ _ h => h) (Or.inl ⟨by rfl, ?_⟩) hHeld4 ?_
          · rintro u ⟨p0, p1, p2, p3, p4, -⟩
            go_simp <;> first | rfl | kernel_rfl
          try simp only [Act.put, List.setIfInBounds_toArray, List.set_cons_zero, List.set_cons_succ]
          refine wpAnyH_take (i := 9) (oi := { dst := some 171, op := Op.move (Operand.tmp 170), type := 4, pos := "law.go:114", after := #[{ on := 8, ground := Ground.data }, { on := 6, ground := Ground.chain }, { on := 6, ground := Ground.guard }], guard := some (6, false) }) (v := (.bool false)) rfl (by kernel_rfl) (by kernel_rfl) (by kernel_rfl) (fun _ _ _ h => h) (Or.inl ⟨by rfl, ?_⟩) hHeld4 ?_
          · rintro u ⟨p0, p1, p2, p3, p4, -⟩
            go_simp <;> first | rfl | kernel_rfl
          try simp only [Act.put, List.setIfInBounds_toArray, List.set_cons_zero, List.set_cons_succ]
          refine wpAnyH_take (i := 10) (oi := { dst := some 172, op := Op.move (Operand.tmp 16), type := 27, pos := "law.go:114", after := #[{ on := 9, ground := Ground.guard }], guard := some (9, true) }) (v := undef) rfl (by kernel_rfl) (by kernel_rfl) (by kernel_rfl) (fun _ _ _ h => h) (Or.inr ⟨by rfl, rfl⟩) hHeld4 ?_
          try simp only [Act.put, List.setIfInBounds_toArray, List.set_cons_zero, List.set_cons_succ]
          refine wpAnyH_take (i := 11) (oi := { dst := some 173, op := Op.move (Operand.tmp 17), type := 3, pos := "law.go:114", after := #[{ on := 9, ground := Ground.guard }], guard := some (9, true) }) (v := undef) rfl (by kernel_rfl) (by kernel_rfl) (by kernel_rfl) (fun _ _ _ h => h) (Or.inr ⟨by rfl, rfl⟩) hHeld4 ?_
          try simp only [Act.put, List.setIfInBounds_toArray, List.set_cons_zero, List.set_cons_succ]
          refine wpAnyH_take (i := 12) (oi := { dst := some 174, op := Op.binOp BinOp.sub 3 (Operand.tmp 173) (Operand.const (Value.int IntKind.i64 1)) 3, type := 3, pos := "law.go:114", after := #[{ on := 11, ground := Ground.data }, { on := 9, ground := Ground.guard }], guard := some (9, true) }) (v := undef) rfl (by kernel_rfl) (by kernel_rfl) (by kernel_rfl) (fun _ _ _ h => h) (Or.inr ⟨by rfl, rfl⟩) hHeld4 ?_
          try simp only [Act.put, List.setIfInBounds_toArray, List.set_cons_zero, List.set_cons_succ]
          refine wpAnyH_take (i := 13) (oi := { dst := some 175, op := Op.indexAddr 27 (Operand.tmp 172) (Operand.tmp 174), type := 0, pos := "law.go:114", after := #[{ on := 10, ground := Ground.data }, { on := 12, ground := Ground.data }, { on := 9, ground := Ground.guard }], guard := some (9, true) }) (v := undef) rfl (by kernel_rfl) (by kernel_rfl) (by kernel_rfl) (fun _ _ _ h => h) (Or.inr ⟨by rfl, rfl⟩) hHeld4 ?_
          try simp only [Act.put, List.setIfInBounds_toArray, List.set_cons_zero, List.set_cons_succ]
          refine wpAnyH_take (i := 14) (oi := { dst := some 176, op := Op.fieldAddr 31 (Operand.tmp 175) 0, type := 0, pos := "law.go:114", after := #[{ on := 13, ground := Ground.data }, { on := 9, ground := Ground.guard }], guard := some (9, true) }) (v := undef) rfl (by kernel_rfl) (by kernel_rfl) (by kernel_rfl) (fun _ _ _ h => h) (Or.inr ⟨by rfl, rfl⟩) hHeld4 ?_
          try simp only [Act.put, List.setIfInBounds_toArray, List.set_cons_zero, List.set_cons_succ]
          refine wpAnyH_take (i := 15) (oi := { dst := some 177, op := Op.load 28 (Operand.tmp 176), type := 28, pos := "law.go:114", after := #[{ on := 14, ground := Ground.data }, { on := 9, ground := Ground.guard }], guard := some (9, true) }) (v := undef) rfl (by kernel_rfl) (by kernel_rfl) (by kernel_rfl) (fun _ _ _ h => h) (Or.inr ⟨by rfl, rfl⟩) hHeld4 ?_
          try simp only [Act.put, List.setIfInBounds_toArray, List.set_cons_zero, List.set_cons_succ]
          refine wpAnyH_take (i := 16) (oi := { dst := some 178, op := Op.move (Operand.tmp 16), type := 27, pos := "law.go:114", after := #[{ on := 9, ground := Ground.guard }], guard := some (9, true) }) (v := undef) rfl (by kernel_rfl) (by kernel_rfl) (by kernel_rfl) (fun _ _ _ h => h) (Or.inr ⟨by rfl, rfl⟩) hHeld4 ?_
          try simp only [Act.put, List.setIfInBounds_toArray, List.set_cons_zero, List.set_cons_succ]
          refine wpAnyH_take (i := 17) (oi := { dst := some 179, op := Op.move (Operand.tmp 17), type := 3, pos := "law.go:114", after := #[{ on := 9, ground := Ground.guard }], guard := some (9, true) }) (v := undef) rfl (by kernel_rfl) (by kernel_rfl) (by kernel_rfl) (fun _ _ _ h => h) (Or.inr ⟨by rfl, rfl⟩) hHeld4 ?_
          try simp only [Act.put, List.setIfInBounds_toArray, List.set_cons_zero, List.set_cons_succ]
          refine wpAnyH_take (i := 18) (oi := { dst := some 180, op := Op.indexAddr 27 (Operand.tmp 178) (Operand.tmp 179), type := 0, pos := "law.go:114", after := #[{ on := 16, ground := Ground.data }, { on := 17, ground := Ground.data }, { on := 9, ground := Ground.guard }], guard := some (9, true) }) (v := undef) rfl (by kernel_rfl) (by kernel_rfl) (by kernel_rfl) (fun _ _ _ h => h) (Or.inr ⟨by rfl, rfl⟩) hHeld4 ?_
          try simp only [Act.put, List.setIfInBounds_toArray, List.set_cons_zero, List.set_cons_succ]
          refine wpAnyH_take (i := 19) (oi := { dst := some 181, op := Op.fieldAddr 31 (Operand.tmp 180) 0, type := 0, pos := "law.go:114", after := #[{ on := 18, ground := Ground.data }, { on := 9, ground := Ground.guard }], guard := some (9, true) }) (v := undef) rfl (by kernel_rfl) (by kernel_rfl) (by kernel_rfl) (fun _ _ _ h => h) (Or.inr ⟨by rfl, rfl⟩) hHeld4 ?_
          try simp only [Act.put, List.setIfInBounds_toArray, List.set_cons_zero, List.set_cons_succ]
          refine wpAnyH_take (i := 20) (oi := { dst := some 182, op := Op.load 28 (Operand.tmp 181), type := 28, pos := "law.go:114", after := #[{ on := 19, ground := Ground.data }, { on := 9, ground := Ground.guard }], guard := some (9, true) }) (v := undef) rfl (by kernel_rfl) (by kernel_rfl) (by kernel_rfl) (fun _ _ _ h => h) (Or.inr ⟨by rfl, rfl⟩) hHeld4 ?_
          try simp only [Act.put, List.setIfInBounds_toArray, List.set_cons_zero, List.set_cons_succ]
          refine wpAnyH_take (i := 21) (oi := { dst := some 183, op := Op.binOp BinOp.geq 28 (Operand.tmp 177) (Operand.tmp 182) 28, type := 4, pos := "law.go:114", after := #[{ on := 15, ground := Ground.data }, { on := 20, ground := Ground.data }, { on := 9, ground := Ground.guard }], guard := some (9, true) }) (v := undef) rfl (by kernel_rfl) (by kernel_rfl) (by kernel_rfl) (fun _ _ _ h => h) (Or.inr ⟨by rfl, rfl⟩) hHeld4 ?_
          try simp only [Act.put, List.setIfInBounds_toArray, List.set_cons_zero, List.set_cons_succ]
          refine wpAnyH_take (i := 22) (oi := { dst := some 184, op := Op.pick (Operand.tmp 171) (Operand.tmp 183) (Operand.const (Value.bool false)), type := 4, pos := "law.go:114", after := #[{ on := 9, ground := Ground.data }, { on := 21, ground := Ground.data }, { on := 6, ground := Ground.guard }], guard := some (6, false) }) (v := (.bool false)) rfl (by kernel_rfl) (by kernel_rfl) (by kernel_rfl) (fun _ _ _ h => h) (Or.inl ⟨by rfl, ?_⟩) hHeld4 ?_
          · rintro u ⟨p0, p1, p2, p3, p4, -⟩
            go_simp <;> first | rfl | kernel_rfl
          try simp only [Act.put, List.setIfInBounds_toArray, List.set_cons_zero, List.set_cons_succ]
          refine wpAnyH_take (i := 23) (oi := { dst := some 185, op := Op.pick (Operand.tmp 168) (Operand.const (Value.bool true)) (Operand.tmp 184), type := 4, pos := "law.go:114", after := #[{ on := 6, ground := Ground.data }, { on := 22, ground := Ground.data }], guard := none }) (v := (.bool false)) rfl (by kernel_rfl) (by kernel_rfl) (by kernel_rfl) (fun _ _ _ h => h) (Or.inl ⟨by rfl, ?_⟩) hHeld4 ?_
          · rintro u ⟨p0, p1, p2, p3, p4, -⟩
            go_simp <;> first | rfl | kernel_rfl
          try simp only [Act.put, List.setIfInBounds_toArray, List.set_cons_zero, List.set_cons_succ]
          refine wpAnyH_done (by kernel_rfl) ?_ _
          go_wp2_with fail
          have hkx := HKX.out
          have hl9 := HLT.out
          go_roundg (P.length - (0 + 1))
          case measure => omega
          case rel => exact ⟨0 + 1, by simp, by omega, HW.out.trans (BU.mono HW.out.size), by omega⟩
        · obtain ⟨i1, hi1⟩ : ∃ i1, i1 + 1 = j := ⟨j - 1, by omega⟩
          obtain ⟨pid, hpid⟩ : ∃ pid, pid = (P[i1]'(by have := HLT.out; omega)).x.id := ⟨_, rfl⟩
          have HP1 : Hid (∀ u, Below wr.heap.size wr u → u.cell? ⟨g, i1 * 5, none⟩ = some (.int .u64 pid)) := fun u hu => by
            rw [hpid]
            exact (HFV.out i1 (by have := HLT.out; omega) u hu).c0
          have hlt1 : pid < qid := by rw [hpid]; exact HUP.out i1 hi1
          have hge : decide (qid ≤ pid) = false := decide_eq_false (by omega)
          have e0 : decide ((0 : Int) < (j : Int)) = true := decide_eq_true (by omega)
          have e0' : decide (0 < j) = true := decide_eq_true (by omega)
          have e1 : IntKind.i64.wrap ((j : Int) - 1) = (i1 : Int) := by
            rw [show (j : Int) - 1 = (i1 : Int) by omega]
            exact IntWalk.i64_in _ (by omega)
          have z0 : (0 : Int) ≤ (i1 : Int) := by omega
          have z1 : (i1 : Int) < (P.length : Int) := by have := HLT.out; omega
          have zn : ¬ qid ≤ pid := by omega
          clear hpid hj0 hi1
          refine wp_region_held_drew (S := (fun u => u.cell? ⟨g, j * 5, none⟩ = some (.int .u64 qid) ∧ u.cell? ⟨g, j * 5 + 1, none⟩ = some (.string qn) ∧ u.cell? ⟨g, j * 5 + 2, none⟩ = some (.int .i64 qe) ∧ u.cell? ⟨g, j * 5 + 3, none⟩ = some (.slice qa ql.length qc) ∧ u.cell? ⟨g, j * 5 + 4, none⟩ = some (.int .i64 qr) ∧ u.cell? ⟨g, i1 * 5, none⟩ = some (.int .u64 pid) ∧ Below wr.heap.size wr u)) (by kernel_rfl) ?_ (fun hHeld => ?_)
          · exact ⟨(HJF.out _ ((Below.refl _ wr).drew)).c0, (HJF.out _ ((Below.refl _ wr).drew)).c1, (HJF.out _ ((Below.refl _ wr).drew)).c2, (HJF.out _ ((Below.refl _ wr).drew)).c3, (HJF.out _ ((Below.refl _ wr).drew)).c4, HP1.out _ ((Below.refl _ wr).drew), (Below.refl _ wr).drew⟩
          refine wpAnyH_take (i := 0) (oi := { dst := some 162, op := Op.move (Operand.tmp 16), type := 27, pos := "law.go:114", after := #[], guard := none }) (v := (.slice (some ⟨g, 0, none⟩) P.length uc)) rfl (by kernel_rfl) (by kernel_rfl) (by kernel_rfl) (fun _ _ _ h => h) (Or.inl ⟨by rfl, ?_⟩) hHeld ?_
          · rintro u ⟨p0, p1, p2, p3, p4, p5, -⟩
            go_simp <;> first | rfl | kernel_rfl
          try simp only [Act.put, List.setIfInBounds_toArray, List.set_cons_zero, List.set_cons_succ]
          refine wpAnyH_take (i := 1) (oi := { dst := some 163, op := Op.move (Operand.tmp 17), type := 3, pos := "law.go:114", after := #[], guard := none }) (v := (.int .i64 (j : Int))) rfl (by kernel_rfl) (by kernel_rfl) (by kernel_rfl) (fun _ _ _ h => h) (Or.inl ⟨by rfl, ?_⟩) hHeld ?_
          · rintro u ⟨p0, p1, p2, p3, p4, p5, -⟩
            go_simp <;> first | rfl | kernel_rfl
          try simp only [Act.put, List.setIfInBounds_toArray, List.set_cons_zero, List.set_cons_succ]
          refine wpAnyH_take (i := 2) (oi := { dst := some 164, op := Op.indexAddr 27 (Operand.tmp 162) (Operand.tmp 163), type := 0, pos := "law.go:114", after := #[{ on := 0, ground := Ground.data }, { on := 1, ground := Ground.data }], guard := none }) (v := (.pointer (some ⟨g, j * 5, none⟩))) rfl (by kernel_rfl) (by kernel_rfl) (by kernel_rfl) (fun _ _ _ h => h) (Or.inl ⟨by rfl, ?_⟩) hHeld ?_
          · rintro u ⟨p0, p1, p2, p3, p4, p5, -⟩
            go_simp <;> first | rfl | kernel_rfl
          try simp only [Act.put, List.setIfInBounds_toArray, List.set_cons_zero, List.set_cons_succ]
          refine wpAnyH_take (i := 3) (oi := { dst := some 165, op := Op.load 31 (Operand.tmp 164), type := 31, pos := "law.go:114", after := #[{ on := 2, ground := Ground.data }], guard := none }) (v := (.agg #[.int .u64 qid, .string qn, .int .i64 qe, .slice qa ql.length qc, .int .i64 qr])) rfl (by kernel_rfl) (by kernel_rfl) (by kernel_rfl) (fun _ _ _ h => h) (Or.inl ⟨by rfl, ?_⟩) hHeld ?_
          · rintro u ⟨p0, p1, p2, p3, p4, p5, -⟩
            go_simp <;> first | rfl | kernel_rfl
          try simp only [Act.put, List.setIfInBounds_toArray, List.set_cons_zero, List.set_cons_succ]
          refine wpAnyH_ready (rs := [4]) (by kernel_rfl) (by simp) ?_
          refine AllReadyH.cons (o := { dst := some 166, op := Op.call { callee := Callee.value (Operand.func 19), args := #[Operand.tmp 165], argTypes := #[31] }, type := 38, pos := "law.go:114", after := #[{ on := 3, ground := Ground.data }], guard := none }) rfl (fun Kq hKq => ?_) AllReadyH.nil
          go_simp
          refine (KC.out _ (hHeld.2.2.2.2.2.2)).mono ?_
          rintro e u2 ⟨rfl, hb2⟩
          have BU := Below.trans hHeld.2.2.2.2.2.2 (hb2.mono (Below.size hHeld.2.2.2.2.2.2))
          go_wp2_with fail
          refine hKq.out _ _ (⟨(HJF.out _ (BU)).c0, (HJF.out _ (BU)).c1, (HJF.out _ (BU)).c2, (HJF.out _ (BU)).c3, (HJF.out _ (BU)).c4, HP1.out _ (BU), BU⟩) (fun hHeld4 => ?_)
          clear hKq Kq
          try simp only [Act.put, List.setIfInBounds_toArray, List.set_cons_zero, List.set_cons_succ]
          refine wpAnyH_take (i := 5) (oi := { dst := some 167, op := Op.binOp BinOp.neq 38 (Operand.tmp 166) (Operand.const (Value.int IntKind.i64 0)) 38, type := 4, pos := "law.go:114", after := #[{ on := 4, ground := Ground.data }], guard := none }) (v := (.bool false)) rfl (by kernel_rfl) (by kernel_rfl) (by kernel_rfl) (fun _ _ _ h => h) (Or.inl ⟨by rfl, ?_⟩) hHeld4 ?_
          · rintro u ⟨p0, p1, p2, p3, p4, p5, -⟩
            go_simp <;> first | rfl | kernel_rfl
          try simp only [Act.put, List.setIfInBounds_toArray, List.set_cons_zero, List.set_cons_succ]
          refine wpAnyH_take (i := 6) (oi := { dst := some 168, op := Op.move (Operand.tmp 167), type := 4, pos := "law.go:114", after := #[{ on := 5, ground := Ground.data }, { on := 4, ground := Ground.chain }], guard := none }) (v := (.bool false)) rfl (by kernel_rfl) (by kernel_rfl) (by kernel_rfl) (fun _ _ _ h => h) (Or.inl ⟨by rfl, ?_⟩) hHeld4 ?_
          · rintro u ⟨p0, p1, p2, p3, p4, p5, -⟩
            go_simp <;> first | rfl | kernel_rfl
          try simp only [Act.put, List.setIfInBounds_toArray, List.set_cons_zero, List.set_cons_succ]
          refine wpAnyH_take (i := 7) (oi := { dst := some 169, op := Op.move (Operand.tmp 17), type := 3, pos := "law.go:114", after := #[{ on := 6, ground := Ground.guard }], guard := some (6, false) }) (v := (.int .i64 (j : Int))) rfl (by kernel_rfl) (by kernel_rfl) (by kernel_rfl) (fun _ _ _ h => h) (Or.inl ⟨by rfl, ?_⟩) hHeld4 ?_
          · rintro u ⟨p0, p1, p2, p3, p4, p5, -⟩
            go_simp <;> first | rfl | kernel_rfl
          try simp only [Act.put, List.setIfInBounds_toArray, List.set_cons_zero, List.set_cons_succ]
          refine wpAnyH_take (i := 8) (oi := { dst := some 170, op := Op.binOp BinOp.gtr 3 (Operand.tmp 169) (Operand.const (Value.int IntKind.i64 0)) 3, type := 4, pos := "law.go:114", after := #[{ on := 7, ground := Ground.data }, { on := 6, ground := Ground.guard }], guard := some (6, false) }) (v := (.bool true)) rfl (by kernel_rfl) (by kernel_rfl) (by kernel_rfl) (fun _ _ _ h => h) (Or.inl ⟨by rfl, ?_⟩) hHeld4 ?_
          · rintro u ⟨p0, p1, p2, p3, p4, p5, -⟩
            go_simp <;> first | rfl | kernel_rfl
          try simp only [Act.put, List.setIfInBounds_toArray, List.set_cons_zero, List.set_cons_succ]
          refine wpAnyH_take (i := 9) (oi := { dst := some 171, op := Op.move (Operand.tmp 170), type := 4, pos := "law.go:114", after := #[{ on := 8, ground := Ground.data }, { on := 6, ground := Ground.chain }, { on := 6, ground := Ground.guard }], guard := some (6, false) }) (v := (.bool true)) rfl (by kernel_rfl) (by kernel_rfl) (by kernel_rfl) (fun _ _ _ h => h) (Or.inl ⟨by rfl, ?_⟩) hHeld4 ?_
          · rintro u ⟨p0, p1, p2, p3, p4, p5, -⟩
            go_simp <;> first | rfl | kernel_rfl
          try simp only [Act.put, List.setIfInBounds_toArray, List.set_cons_zero, List.set_cons_succ]
          refine wpAnyH_take (i := 10) (oi := { dst := some 172, op := Op.move (Operand.tmp 16), type := 27, pos := "law.go:114", after := #[{ on := 9, ground := Ground.guard }], guard := some (9, true) }) (v := (.slice (some ⟨g, 0, none⟩) P.length uc)) rfl (by kernel_rfl) (by kernel_rfl) (by kernel_rfl) (fun _ _ _ h => h) (Or.inl ⟨by rfl, ?_⟩) hHeld4 ?_
          · rintro u ⟨p0, p1, p2, p3, p4, p5, -⟩
            go_simp <;> first | rfl | kernel_rfl
          try simp only [Act.put, List.setIfInBounds_toArray, List.set_cons_zero, List.set_cons_succ]
          refine wpAnyH_take (i := 11) (oi := { dst := some 173, op := Op.move (Operand.tmp 17), type := 3, pos := "law.go:114", after := #[{ on := 9, ground := Ground.guard }], guard := some (9, true) }) (v := (.int .i64 (j : Int))) rfl (by kernel_rfl) (by kernel_rfl) (by kernel_rfl) (fun _ _ _ h => h) (Or.inl ⟨by rfl, ?_⟩) hHeld4 ?_
          · rintro u ⟨p0, p1, p2, p3, p4, p5, -⟩
            go_simp <;> first | rfl | kernel_rfl
          try simp only [Act.put, List.setIfInBounds_toArray, List.set_cons_zero, List.set_cons_succ]
          refine wpAnyH_take (i := 12) (oi := { dst := some 174, op := Op.binOp BinOp.sub 3 (Operand.tmp 173) (Operand.const (Value.int IntKind.i64 1)) 3, type := 3, pos := "law.go:114", after := #[{ on := 11, ground := Ground.data }, { on := 9, ground := Ground.guard }], guard := some (9, true) }) (v := (.int .i64 (i1 : Int))) rfl (by kernel_rfl) (by kernel_rfl) (by kernel_rfl) (fun _ _ _ h => h) (Or.inl ⟨by rfl, ?_⟩) hHeld4 ?_
          · rintro u ⟨p0, p1, p2, p3, p4, p5, -⟩
            go_simp <;> first | rfl | kernel_rfl
          try simp only [Act.put, List.setIfInBounds_toArray, List.set_cons_zero, List.set_cons_succ]
          refine wpAnyH_take (i := 13) (oi := { dst := some 175, op := Op.indexAddr 27 (Operand.tmp 172) (Operand.tmp 174), type := 0, pos := "law.go:114", after := #[{ on := 10, ground := Ground.data }, { on := 12, ground := Ground.data }, { on := 9, ground := Ground.guard }], guard := some (9, true) }) (v := (.pointer (some ⟨g, i1 * 5, none⟩))) rfl (by kernel_rfl) (by kernel_rfl) (by kernel_rfl) (fun _ _ _ h => h) (Or.inl ⟨by rfl, ?_⟩) hHeld4 ?_
          · rintro u ⟨p0, p1, p2, p3, p4, p5, -⟩
            go_simp <;> first | rfl | kernel_rfl
          try simp only [Act.put, List.setIfInBounds_toArray, List.set_cons_zero, List.set_cons_succ]
          refine wpAnyH_take (i := 14) (oi := { dst := some 176, op := Op.fieldAddr 31 (Operand.tmp 175) 0, type := 0, pos := "law.go:114", after := #[{ on := 13, ground := Ground.data }, { on := 9, ground := Ground.guard }], guard := some (9, true) }) (v := (.pointer (some ⟨g, i1 * 5, none⟩))) rfl (by kernel_rfl) (by kernel_rfl) (by kernel_rfl) (fun _ _ _ h => h) (Or.inl ⟨by rfl, ?_⟩) hHeld4 ?_
          · rintro u ⟨p0, p1, p2, p3, p4, p5, -⟩
            go_simp <;> first | rfl | kernel_rfl
          try simp only [Act.put, List.setIfInBounds_toArray, List.set_cons_zero, List.set_cons_succ]
          refine wpAnyH_take (i := 15) (oi := { dst := some 177, op := Op.load 28 (Operand.tmp 176), type := 28, pos := "law.go:114", after := #[{ on := 14, ground := Ground.data }, { on := 9, ground := Ground.guard }], guard := some (9, true) }) (v := (.int .u64 pid)) rfl (by kernel_rfl) (by kernel_rfl) (by kernel_rfl) (fun _ _ _ h => h) (Or.inl ⟨by rfl, ?_⟩) hHeld4 ?_
          · rintro u ⟨p0, p1, p2, p3, p4, p5, -⟩
            go_simp <;> first | rfl | kernel_rfl
          try simp only [Act.put, List.setIfInBounds_toArray, List.set_cons_zero, List.set_cons_succ]
          refine wpAnyH_take (i := 16) (oi := { dst := some 178, op := Op.move (Operand.tmp 16), type := 27, pos := "law.go:114", after := #[{ on := 9, ground := Ground.guard }], guard := some (9, true) }) (v := (.slice (some ⟨g, 0, none⟩) P.length uc)) rfl (by kernel_rfl) (by kernel_rfl) (by kernel_rfl) (fun _ _ _ h => h) (Or.inl ⟨by rfl, ?_⟩) hHeld4 ?_
          · rintro u ⟨p0, p1, p2, p3, p4, p5, -⟩
            go_simp <;> first | rfl | kernel_rfl
          try simp only [Act.put, List.setIfInBounds_toArray, List.set_cons_zero, List.set_cons_succ]
          refine wpAnyH_take (i := 17) (oi := { dst := some 179, op := Op.move (Operand.tmp 17), type := 3, pos := "law.go:114", after := #[{ on := 9, ground := Ground.guard }], guard := some (9, true) }) (v := (.int .i64 (j : Int))) rfl (by kernel_rfl) (by kernel_rfl) (by kernel_rfl) (fun _ _ _ h => h) (Or.inl ⟨by rfl, ?_⟩) hHeld4 ?_
          · rintro u ⟨p0, p1, p2, p3, p4, p5, -⟩
            go_simp <;> first | rfl | kernel_rfl
          try simp only [Act.put, List.setIfInBounds_toArray, List.set_cons_zero, List.set_cons_succ]
          refine wpAnyH_take (i := 18) (oi := { dst := some 180, op := Op.indexAddr 27 (Operand.tmp 178) (Operand.tmp 179), type := 0, pos := "law.go:114", after := #[{ on := 16, ground := Ground.data }, { on := 17, ground := Ground.data }, { on := 9, ground := Ground.guard }], guard := some (9, true) }) (v := (.pointer (some ⟨g, j * 5, none⟩))) rfl (by kernel_rfl) (by kernel_rfl) (by kernel_rfl) (fun _ _ _ h => h) (Or.inl ⟨by rfl, ?_⟩) hHeld4 ?_
          · rintro u ⟨p0, p1, p2, p3, p4, p5, -⟩
            go_simp <;> first | rfl | kernel_rfl
          try simp only [Act.put, List.setIfInBounds_toArray, List.set_cons_zero, List.set_cons_succ]
          refine wpAnyH_take (i := 19) (oi := { dst := some 181, op := Op.fieldAddr 31 (Operand.tmp 180) 0, type := 0, pos := "law.go:114", after := #[{ on := 18, ground := Ground.data }, { on := 9, ground := Ground.guard }], guard := some (9, true) }) (v := (.pointer (some ⟨g, j * 5, none⟩))) rfl (by kernel_rfl) (by kernel_rfl) (by kernel_rfl) (fun _ _ _ h => h) (Or.inl ⟨by rfl, ?_⟩) hHeld4 ?_
          · rintro u ⟨p0, p1, p2, p3, p4, p5, -⟩
            go_simp <;> first | rfl | kernel_rfl
          try simp only [Act.put, List.setIfInBounds_toArray, List.set_cons_zero, List.set_cons_succ]
          refine wpAnyH_take (i := 20) (oi := { dst := some 182, op := Op.load 28 (Operand.tmp 181), type := 28, pos := "law.go:114", after := #[{ on := 19, ground := Ground.data }, { on := 9, ground := Ground.guard }], guard := some (9, true) }) (v := (.int .u64 qid)) rfl (by kernel_rfl) (by kernel_rfl) (by kernel_rfl) (fun _ _ _ h => h) (Or.inl ⟨by rfl, ?_⟩) hHeld4 ?_
          · rintro u ⟨p0, p1, p2, p3, p4, p5, -⟩
            go_simp <;> first | rfl | kernel_rfl
          try simp only [Act.put, List.setIfInBounds_toArray, List.set_cons_zero, List.set_cons_succ]
          refine wpAnyH_take (i := 21) (oi := { dst := some 183, op := Op.binOp BinOp.geq 28 (Operand.tmp 177) (Operand.tmp 182) 28, type := 4, pos := "law.go:114", after := #[{ on := 15, ground := Ground.data }, { on := 20, ground := Ground.data }, { on := 9, ground := Ground.guard }], guard := some (9, true) }) (v := (.bool false)) rfl (by kernel_rfl) (by kernel_rfl) (by kernel_rfl) (fun _ _ _ h => h) (Or.inl ⟨by rfl, ?_⟩) hHeld4 ?_
          · rintro u ⟨p0, p1, p2, p3, p4, p5, -⟩
            go_simp <;> first | rfl | kernel_rfl
          try simp only [Act.put, List.setIfInBounds_toArray, List.set_cons_zero, List.set_cons_succ]
          refine wpAnyH_take (i := 22) (oi := { dst := some 184, op := Op.pick (Operand.tmp 171) (Operand.tmp 183) (Operand.const (Value.bool false)), type := 4, pos := "law.go:114", after := #[{ on := 9, ground := Ground.data }, { on := 21, ground := Ground.data }, { on := 6, ground := Ground.guard }], guard := some (6, false) }) (v := (.bool false)) rfl (by kernel_rfl) (by kernel_rfl) (by kernel_rfl) (fun _ _ _ h => h) (Or.inl ⟨by rfl, ?_⟩) hHeld4 ?_
          · rintro u ⟨p0, p1, p2, p3, p4, p5, -⟩
            go_simp <;> first | rfl | kernel_rfl
          try simp only [Act.put, List.setIfInBounds_toArray, List.set_cons_zero, List.set_cons_succ]
          refine wpAnyH_take (i := 23) (oi := { dst := some 185, op := Op.pick (Operand.tmp 168) (Operand.const (Value.bool true)) (Operand.tmp 184), type := 4, pos := "law.go:114", after := #[{ on := 6, ground := Ground.data }, { on := 22, ground := Ground.data }], guard := none }) (v := (.bool false)) rfl (by kernel_rfl) (by kernel_rfl) (by kernel_rfl) (fun _ _ _ h => h) (Or.inl ⟨by rfl, ?_⟩) hHeld4 ?_
          · rintro u ⟨p0, p1, p2, p3, p4, p5, -⟩
            go_simp <;> first | rfl | kernel_rfl
          try simp only [Act.put, List.setIfInBounds_toArray, List.set_cons_zero, List.set_cons_succ]
          refine wpAnyH_done (by kernel_rfl) ?_ _
          go_wp2_with fail
          have hkx := HKX.out
          have hl9 := HLT.out
          go_roundg (P.length - (j + 1))
          case measure => omega
          case rel => exact ⟨j + 1, by simp, by omega, HW.out.trans (BU.mono HW.out.size), by omega⟩
      · obtain rfl : j = P.length := by omega
        clear hkx hlt hj9
        go_wp2_with fail
        refine (KH.out _).mono ?_
        rintro _ w9 ⟨rfl, hb9⟩
        go_wp2_with fail
        go_ret
        exact ⟨rfl, HB6.out.trans ((HW.out.trans (hb9.mono HW.out.size)).mono HB6.out.size)⟩
end Go.Proofs.Ytakpoabpgdmneaa.Pl
