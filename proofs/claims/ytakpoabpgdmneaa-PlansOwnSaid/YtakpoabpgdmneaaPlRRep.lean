/- Package plans: the document's Reprice. -/
import Derived.Test.YtakpoabpgdmneaaPlRRet
import Derived.BigQuiet
import Derived.Deep.QuietTactic
namespace Go.Proofs.Ytakpoabpgdmneaa.Pl
open Go Go.RowKit Ck Go.Maps
set_option maxRecDepth 100000 in
set_option maxHeartbeats 6400000 in
theorem rreprice_c {S : Nat → Prop} {w : World} {M : Int → Option Pn} {K : List Int} {Q : List Pf} {va : Option Addr} {vc : Nat} (t : Tied M K Q) (h : Doc S w (.slice va Q.length vc) Q) (k : Int) (y : Pr) (hQ : Q.length ≤ 1000000) (hS : ∀ j, w.heap.size ≤ j → S j) :
    Calls Try.prog 11 #[.slice va Q.length vc, .int .u64 k, y.val] w (RRes S Q.length (repriceM M k y).1 (repriceM M k y).2 w) := by
  have G := Lib.hid t
  have H := Lib.hid h
  have KA : Hid (∀ u, Below w.heap.size w u → Calls Try.prog 24 #[.slice va Q.length vc, .int .u64 k] u (AtRes M Q k u)) := fun u hu => at_c t (h.later hu) k hQ
  have KD : Hid (∀ u, Calls Try.prog 28 #[y.val] u fun e w' => e = .returned (.bool y.okB) ∧ Below u.heap.size u w') := fun u => may_c y u
  obtain ⟨i0, z0, hi0, hz0, hz1, hz2, hz3⟩ := info_pn
  obtain ⟨i1, z1, hi1, hy0, hy1, hy2, hy3⟩ := info_pr
  obtain ⟨R, hR⟩ : ∃ R, R = repriceM M k y := ⟨_, rfl⟩
  rw [← hR]
  unfold repriceM at hR
  have HS := Lib.hid hS
  obtain ⟨dd, hdd⟩ : ∃ dd, dd = y.okB := ⟨_, rfl⟩
  rw [← hdd] at KD hR
  have HDD := Lib.hid hdd
  have HR := Lib.hid hR
  clear t h hS hR hdd
  have HB0 : Hid (Below w.heap.size w (w.alloc (.cells y.cells.toArray TPrice))) := (Below.refl _ w).alloc (Nat.le_refl _) _
  have RY0 : Hid (Rw (w.alloc (.cells y.cells.toArray TPrice)) w.heap.size TPrice y.cells) := Rw.new w y.cells TPrice
  obtain ⟨yf, ya⟩ := y
  unfold Pr.cells at HB0 RY0
  unfold Pr.val at KD ⊢
  simp only at HB0 RY0 KD HR ⊢
  go_enter Try.func11, Try.ntmps11
  go_wp2_with fail
  generalize w.alloc (.cells #[.int .i64 yf, .int .i64 ya] TPrice) = W0 at HB0 RY0 ⊢
  obtain ⟨by', hby⟩ : ∃ by', by' = w.heap.size := ⟨_, rfl⟩
  rw [← hby] at RY0 ⊢
  have HBY := Lib.hid hby
  clear hby
  refine (KD.out _).mono ?_
  rintro _ w1 ⟨rfl, hb1⟩
  have HB1 : Hid (Below w.heap.size w w1) := HB0.out.trans (hb1.mono HB0.out.size)
  have RY1 := Lib.hid (RY0.out.later hb1)
  clear hb1 HB0 RY0
  cases dd with
  | false =>
    have HF : Hid (R = (M, 2)) := by show _ = _; rw [HR.out]; rfl
    clear HR KA
    go_wp2_with fail
    go_ret2
    rw [HF.out]
    exact rres_same G.out H.out HB1.out
  | true =>
    go_wp2_with fail
    refine (KA.out _ HB1.out).mono ?_
    rintro _ _ ⟨rfl, z, rfl, hz⟩
    rcases hz with ⟨rfl, hm⟩ | ⟨i, hi, hm, hid, rfl⟩
    · have HF : Hid (R = (M, 7)) := by show _ = _; rw [HR.out, hm]; rfl
      clear HR KA hm
      go_wp2_with fail
      go_ret2
      rw [HF.out]
      exact rres_same G.out H.out HB1.out
    · obtain ⟨g, gcap, hv, hf⟩ := (H.out.later HB1.out).five hi
      obtain ⟨rfl, rfl⟩ : va = some ⟨g, 0, none⟩ ∧ vc = gcap := by simpa using hv
      have hok := G.out.ok hi
      have hlen := okB_len hok
      have HP := Lib.hid (H.out.prs _ (List.getElem_mem hi))
      have HR1 : Hid (R = if yf ≤ Q[i].x.last.frm ∨ (Q[i].x.ret ≠ 0 ∧ Q[i].x.ret ≤ yf) then (M, 9) else if 100 ≤ Q[i].x.ps.length then (M, 6) else (upd M Q[i].x.id (Q[i].x.more ⟨yf, ya⟩), 0)) := by
        show _ = _
        rw [HR.out, hm, hid]
        rfl
      have HSET : Hid (∀ (w' : World) (a' : Option Addr) (c' : Nat) (pa : Option Addr) (pc : Nat), Below w.heap.size w w' → Q[i].x.last.frm < yf → Q[i].x.ps.length < 100 → (Q[i].x.ret = 0 ∨ yf < Q[i].x.ret) → PrsS S w' pa (Q[i].x.ps ++ [⟨yf, ya⟩]) → w'.ownsRow w.heap.size TPlan 5 (.slice a' Q.length c') Q.length (splice (flatN Q) (i * 5) (Pf.cells ⟨Q[i].x.more ⟨yf, ya⟩, pa, pc⟩)) → RRes S Q.length (upd M Q[i].x.id (Q[i].x.more ⟨yf, ya⟩)) 0 w (.returned (.tuple #[.slice a' Q.length c', .int .i64 0])) w') := fun w' a' c' pa pc hb hl h9 hr hp ho =>
        rres_set G.out H.out hb hi (p := ⟨Q[i].x.more ⟨yf, ya⟩, pa, pc⟩) rfl (okB_more hok HDD.out.symm hl h9 hr) hp HS.out ho
      have HO := Lib.hid H.out.own
      obtain ⟨p, hp⟩ : ∃ p, p = Q[i] := ⟨_, rfl⟩
      rw [← hp] at hf HP HR1 HSET hlen
      have HI := Lib.hid hi
      have hI5 : i * 5 + 5 ≤ Q.length * 5 := by omega
      have HI5 := Lib.hid hI5
      have j0 : (0 : Int) ≤ (i : Int) := by omega
      have j1 : (i : Int) < (Q.length : Int) := by omega
      have c0 := hf.c0
      have c1 := hf.c1
      have c2 := hf.c2
      have c3 := hf.c3
      have c4 := hf.c4
      clear hp hok hm hid hf hv HR KA HDD hI5
      obtain ⟨⟨id, name, every, L, ret⟩, pa, pc⟩ := p
      obtain ⟨ls, hls⟩ : ∃ ls, ls = Pn.last ⟨id, name, every, L, ret⟩ := ⟨_, rfl⟩
      simp only at HP HR1 HSET hlen c0 c1 c2 c3 c4
      rw [← hls] at HR1 HSET
      obtain ⟨n1, hn1⟩ : ∃ n1, n1 + 1 = L.length := ⟨L.length - 1, by omega⟩
      have hlast : ls = L[n1]'(by omega) := by
        rw [hls]
        unfold Pn.last
        simp only
        rw [show L.length - 1 = n1 by omega, List.getD_eq_getElem?_getD, List.getElem?_eq_getElem (by omega)]
        rfl
      obtain ⟨ab, ao, rfl, dl, d0, d1⟩ := HP.out.1 n1 (by omega)
      rw [← hlast] at d0
      have e1 : IntKind.i64.wrap ((L.length : Int) - 1) = (n1 : Int) := by
        rw [show (L.length : Int) - 1 = (n1 : Int) by omega]
        exact IntWalk.i64_in _ (by omega)
      have y0 : (0 : Int) ≤ (n1 : Int) := by omega
      have y1 : (n1 : Int) < (L.length : Int) := by omega
      obtain ⟨lf, la⟩ := ls
      simp only at d0 HR1 HSET
      have HD0 : Hid (w1.cell? ⟨ab, ao + n1 * 2, none⟩ = some (.int .i64 lf) ∧ ab < w1.heap.size) := ⟨by rw [HB1.out.cell (by exact dl)]; exact d0, Nat.lt_of_lt_of_le dl HB1.out.size⟩
      clear hls hlast d0 d1 hn1 dl
      go_upto_region 7 with (fail)
      have HB : Hid (Below w.heap.size w (w1.alloc (.cells #[.int .u64 id, .string name, .int .i64 every, .slice (some ⟨ab, ao, none⟩) L.length pc, .int .i64 ret] TPlan))) := HB1.out.alloc HB1.out.size _
      have hb2 : Below w1.heap.size w1 (w1.alloc (.cells #[.int .u64 id, .string name, .int .i64 every, .slice (some ⟨ab, ao, none⟩) L.length pc, .int .i64 ret] TPlan)) := (Below.refl _ _).alloc (Nat.le_refl _) _
      have RX : Hid (Rw (w1.alloc (.cells #[.int .u64 id, .string name, .int .i64 every, .slice (some ⟨ab, ao, none⟩) L.length pc, .int .i64 ret] TPlan)) w1.heap.size TPlan [.int .u64 id, .string name, .int .i64 every, .slice (some ⟨ab, ao, none⟩) L.length pc, .int .i64 ret]) := Rw.new w1 [.int .u64 id, .string name, .int .i64 every, .slice (some ⟨ab, ao, none⟩) L.length pc, .int .i64 ret] TPlan
      have RY := Lib.hid (RY1.out.later hb2)
      have HBX : Hid (w.heap.size ≤ w1.heap.size ∧ by' < w1.heap.size) := ⟨HB1.out.size, RY1.out.lt⟩
      have D0 : Hid ((w1.alloc (.cells #[.int .u64 id, .string name, .int .i64 every, .slice (some ⟨ab, ao, none⟩) L.length pc, .int .i64 ret] TPlan)).cell? ⟨ab, ao + n1 * 2, none⟩ = some (.int .i64 lf)) := by
        show _ = _
        rw [hb2.cell (by exact HD0.out.2)]
        exact HD0.out.1
      obtain ⟨bx, hbx⟩ : ∃ bx, bx = w1.heap.size := ⟨_, rfl⟩
      rw [← hbx] at RX HBX ⊢
      generalize w1.alloc (.cells #[.int .u64 id, .string name, .int .i64 every, .slice (some ⟨ab, ao, none⟩) L.length pc, .int .i64 ret] TPlan) = W at HB RX RY D0 ⊢
      clear c0 c1 c2 c3 c4 HD0 hbx hb2 HB1 RY1
      have d0 := D0.out
      have q3 : W.cell? ⟨bx, 3, none⟩ = some (.slice (some ⟨ab, ao, none⟩) L.length pc) := RX.out.cell 3
      have q4 : W.cell? ⟨bx, 4, none⟩ = some (.int .i64 ret) := RX.out.cell 4
      have r0 : W.cell? ⟨by', 0, none⟩ = some (.int .i64 yf) := RY.out.cell 0
      go_cut [48] (fun s48 wx => s48 = .bool (decide (yf ≤ lf) || (decide (ret ≠ 0) && decide (ret ≤ yf))) ∧ Hid (Below W.heap.size W wx))
      case first =>
        clear HR1 HSET
        by_cases h1 : yf ≤ lf
        · have HB1' : Hid ((decide (yf ≤ lf) || (decide (ret ≠ 0) && decide (ret ≤ yf))) = true) := by show _ = _; rw [decide_eq_true h1]; rfl
          go_quiet (fail)
          go_wp2_with fail
          go_meet
          exact ⟨by rw [HB1'.out], below_drewN (Below.refl _ W) _⟩
        · have hd1 : decide (yf ≤ lf) = false := decide_eq_false h1
          by_cases h2 : ret = 0
          · subst h2
            have HB1' : Hid ((decide (yf ≤ lf) || (decide ((0 : Int) ≠ 0) && decide ((0 : Int) ≤ yf))) = false) := by show _ = _; rw [hd1]; rfl
            clear h1
            go_quiet (fail)
            go_wp2_with fail
            go_meet
            exact ⟨by rw [HB1'.out], below_drewN (Below.refl _ W) _⟩
          · have hne : (ret == 0) = false := beq_eq_false_iff_ne.2 h2
            by_cases h3 : ret ≤ yf
            · have HB1' : Hid ((decide (yf ≤ lf) || (decide (ret ≠ 0) && decide (ret ≤ yf))) = true) := by show _ = _; rw [hd1, decide_eq_true h2, decide_eq_true h3]; rfl
              have hne2 : (ret != 0) = true := by simpa using h2
              clear h1
              go_quiet (fail)
              go_wp2_with fail
              go_meet
              exact ⟨by rw [HB1'.out], below_drewN (Below.refl _ W) _⟩
            · have HB1' : Hid ((decide (yf ≤ lf) || (decide (ret ≠ 0) && decide (ret ≤ yf))) = false) := by show _ = _; rw [hd1, decide_eq_true h2, decide_eq_false h3]; rfl
              have hd3 : decide (ret ≤ yf) = false := decide_eq_false h3
              have hne2 : (ret != 0) = true := by simpa using h2
              clear h1
              go_quiet (fail)
              go_wp2_with fail
              go_meet
              exact ⟨by rw [HB1'.out], below_drewN (Below.refl _ W) _⟩
      obtain ⟨rfl, HW⟩ := hcut
      rename_i hK1
      apply hK1
      clear hK1 d0 q3 q4 r0
      obtain ⟨W2, rfl⟩ : ∃ W2, W2 = wc := ⟨_, rfl⟩
      have HB2 : Hid (Below w.heap.size w W2) := HB.out.trans (HW.out.mono HB.out.size)
      have RX2 := Lib.hid (RX.out.later HW.out)
      have RY2 := Lib.hid (RY.out.later HW.out)
      clear HB RX RY D0 HW
      have q3 : W2.cell? ⟨bx, 3, none⟩ = some (.slice (some ⟨ab, ao, none⟩) L.length pc) := RX2.out.cell 3
      obtain ⟨bad, hbad⟩ : ∃ bad, bad = (decide (yf ≤ lf) || (decide (ret ≠ 0) && decide (ret ≤ yf))) := ⟨_, rfl⟩
      have HBAD := Lib.hid hbad
      rw [← hbad]
      clear hbad
      cases bad with
      | true =>
        have HF : Hid (R = (M, 9)) := by
          have h2 := HBAD.out.symm
          simp only [Bool.or_eq_true, Bool.and_eq_true, decide_eq_true_eq] at h2
          show _ = _
          rw [HR1.out, if_pos h2]
        clear HR1 HSET q3
        go_wp2_with fail
        go_ret2
        rw [HF.out]
        exact rres_same G.out H.out HB2.out
      | false =>
        have HNB : Hid (¬ (yf ≤ lf ∨ (ret ≠ 0 ∧ ret ≤ yf))) := fun h => by
          have h2 := HBAD.out.symm
          simp only [Bool.or_eq_false_iff, Bool.and_eq_false_iff, decide_eq_false_iff_not] at h2
          rcases h with h | ⟨h, h'⟩
          · exact h2.1 h
          · rcases h2.2 with h3 | h3
            · exact h3 h
            · exact h3 h'
        clear HBAD
        by_cases hfull : 100 ≤ L.length
        · have hfull' : (100 : Int) ≤ (L.length : Int) := by omega
          have HF : Hid (R = (M, 6)) := by
            show _ = _
            rw [HR1.out, if_neg HNB.out, if_pos hfull]
          clear HR1 HSET
          go_wp2_with fail
          go_ret2
          rw [HF.out]
          exact rres_same G.out H.out HB2.out
        · have hfull' : ¬ (100 : Int) ≤ (L.length : Int) := by omega
          have HF : Hid (R = (upd M id (Pn.more ⟨id, name, every, L, ret⟩ ⟨yf, ya⟩), 0)) := by
            show _ = _
            rw [HR1.out, if_neg HNB.out, if_neg hfull]
          clear HR1
          go_upto_region 11 with (fail)
          have HCUT : Hid (∀ (w3 : World) (v2 : Value), Below w.heap.size w w3 → Rw w3 bx TPlan [.int .u64 id, .string name, .int .i64 every, .slice (some ⟨ab, ao, none⟩) L.length pc, .int .i64 ret] → w3.ownsRow w.heap.size TPrice 2 v2 (L.length + 1) (flatP L ++ [.int .i64 yf, .int .i64 ya]) → ∃ (a2 : Option Addr) (c2 : Nat), v2 = .slice a2 (L.length + 1) c2 ∧ Hid (Rw (w3.setCell ⟨bx, 3, none⟩ v2) bx TPlan [.int .u64 id, .string name, .int .i64 every, .slice a2 (L.length + 1) c2, .int .i64 ret]) ∧ Hid ((w3.setCell ⟨bx, 3, none⟩ v2).ownsRow w.heap.size TPrice 2 (.slice a2 (L.length + 1) c2) (L.length + 1) (flatP (L ++ [⟨yf, ya⟩]))) ∧ Hid (Below w.heap.size w (w3.setCell ⟨bx, 3, none⟩ v2))) := fun w3 v2 hb hr ho => by
            obtain ⟨a2, c2, rfl⟩ := own_slice ho
            have hps : (flatP L ++ [Value.int .i64 yf, Value.int .i64 ya]) = flatP (L ++ [Pr.mk yf ya]) := by unfold flatP; rw [List.flatMap_append]; rfl
            rw [hps] at ho
            have kp : Keeps (fun j => j = bx) w3 (w3.setCell ⟨bx, 3, none⟩ (.slice a2 (L.length + 1) c2)) := (Keeps.refl (fun j => j = bx) w3).setCell bx 3 _ (.inl rfl)
            exact ⟨a2, c2, rfl, hr.setCell 3 _, own_keeps ho kp fun j hj e => own_type ho hr (by decide) (e ▸ hj), Keeps.belowT hb kp (fun j hj => by rw [hj]; exact HBX.out.1) hb.size⟩
          have HPR : Hid (∀ u, Below w.heap.size w u → ∀ j v, (flatP L)[j]? = some v → u.cell? ((⟨ab, ao, none⟩ : Addr).add j) = some v) := fun u hu => Prs.news (HP.out.1.later hu)
          go_cut [8] (fun s8 wx => s8 = .int .i64 (i : Int) ∧ ∃ (a2 : Option Addr) (c2 : Nat), Hid (Rw wx bx TPlan [.int .u64 id, .string name, .int .i64 every, .slice a2 (L.length + 1) c2, .int .i64 ret]) ∧ Hid (wx.ownsRow w.heap.size TPrice 2 (.slice a2 (L.length + 1) c2) (L.length + 1) (flatP (L ++ [⟨yf, ya⟩]))) ∧ Hid (Below w.heap.size w wx))
          case first =>
            clear HSET q3
            refine wp_region_held_drew (S := (fun u => u.cell? ⟨by', 0, none⟩ = some (.int .i64 yf) ∧ u.cell? ⟨by', 1, none⟩ = some (.int .i64 ya))) (by kernel_rfl) ?_ (fun hHeld => ?_)
            · exact ⟨RY2.out.cell 0, RY2.out.cell 1⟩
            refine wpAnyH_take (i := 1) (oi := { dst := some 56, op := Op.fieldAddr 31 (Operand.tmp 9) 3, type := 0, pos := "ref.go:86", after := #[], guard := none }) (v := (.pointer (some ⟨bx, 3, none⟩))) rfl (by kernel_rfl) (by kernel_rfl) (by kernel_rfl) (fun _ _ _ h => h) (Or.inl ⟨by rfl, ?_⟩) hHeld ?_
            · rintro u ⟨p0, p1⟩
              go_simp <;> first | rfl | kernel_rfl
            try simp only [Act.put, List.setIfInBounds_toArray, List.set_cons_zero, List.set_cons_succ]
            refine wpAnyH_take (i := 4) (oi := { dst := some 59, op := Op.load 33 (Operand.tmp 5), type := 33, pos := "ref.go:86", after := #[], guard := none }) (v := (.agg #[.int .i64 yf, .int .i64 ya])) rfl (by kernel_rfl) (by kernel_rfl) (by kernel_rfl) (fun _ _ _ h => h) (Or.inl ⟨by rfl, ?_⟩) hHeld ?_
            · rintro u ⟨p0, p1⟩
              go_simp <;> first | rfl | kernel_rfl
            try simp only [Act.put, List.setIfInBounds_toArray, List.set_cons_zero, List.set_cons_succ]
            have X0q : Hid (Below w.heap.size w W2.drew) := HB2.out.drew
            have X0x := Lib.hid RX2.out.drew
            have X0y := Lib.hid RY2.out.drew
            generalize W2.drew = X0 at X0q X0x X0y hHeld ⊢
            have X0b : Hid (Below X0.heap.size X0 X0) := Below.refl _ _
            obtain ⟨lo, hlo⟩ : ∃ lo, lo = X0.heap.size := ⟨_, rfl⟩
            have HLO := Lib.hid hlo
            have HYL : Hid (by' < lo) := by show _ < _; rw [hlo]; exact X0y.out.lt
            clear hlo
            clear HB2 RX2 RY2
            refine wpAnyH_ready (rs := [0, 2, 5]) (by kernel_rfl) (by simp) ?_
            refine AllReadyH.cons (o := { dst := some 55, op := Op.buildSlice 29 0 #[], type := 29, pos := "ref.go:86", after := #[], guard := none }) rfl (fun Kq hKq => ?_) (AllReadyH.cons (o := { dst := some 57, op := Op.load 29 (Operand.tmp 56), type := 29, pos := "ref.go:86", after := #[{ on := 1, ground := Ground.data }], guard := none }) rfl (fun Kq hKq => ?_) (AllReadyH.cons (o := { dst := some 60, op := Op.buildSlice 29 1 #[(0, Operand.tmp 59)], type := 29, pos := "ref.go:86", after := #[{ on := 4, ground := Ground.data }], guard := none }) rfl (fun Kq hKq => ?_) AllReadyH.nil))
            · go_simp
              have hb1 : Below X0.heap.size X0 (X0.alloc (.cells #[] TPrice)) := (Below.refl _ _).alloc (Nat.le_refl _) _
              have X1b : Hid (Below X0.heap.size X0 (X0.alloc (.cells #[] TPrice))) := X0b.out.trans (hb1.mono X0b.out.size)
              have X1x := Lib.hid (X0x.out.later hb1)
              have X1y := Lib.hid (X0y.out.later hb1)
              have X1z : Hid ((X0.alloc (.cells #[] TPrice)).ownsRow lo TPrice 2 (.slice (some ⟨X0.heap.size, 0, none⟩) 0 0) 0 []) := own_zero _ _ _ _ (by rw [HLO.out]; exact X0b.out.size)
              refine hKq.out _ _ ⟨X1y.out.cell 0, X1y.out.cell 1⟩ (fun hHeldC => ?_)
              clear hKq Kq hb1
              try simp only [Act.put, List.setIfInBounds_toArray, List.set_cons_zero, List.set_cons_succ]
              generalize X0.alloc (.cells #[] TPrice) = X1 at X1b X1x X1y X1z hHeldC ⊢
              obtain ⟨b0, hb0⟩ : ∃ b0, b0 = X0.heap.size := ⟨_, rfl⟩
              rw [← hb0] at X1z ⊢
              clear hb0
              refine wpAnyH_ready (rs := [2, 5]) (by kernel_rfl) (by simp) ?_
              refine AllReadyH.cons (o := { dst := some 57, op := Op.load 29 (Operand.tmp 56), type := 29, pos := "ref.go:86", after := #[{ on := 1, ground := Ground.data }], guard := none }) rfl (fun Kq hKq => ?_) (AllReadyH.cons (o := { dst := some 60, op := Op.buildSlice 29 1 #[(0, Operand.tmp 59)], type := 29, pos := "ref.go:86", after := #[{ on := 4, ground := Ground.data }], guard := none }) rfl (fun Kq hKq => ?_) AllReadyH.nil)
              · have q3 : X1.cell? ⟨bx, 3, none⟩ = some (.slice (some ⟨ab, ao, none⟩) L.length pc) := X1x.out.cell 3
                go_simp
                refine hKq.out _ _ ⟨X1y.out.cell 0, X1y.out.cell 1⟩ (fun hHeldC => ?_)
                clear hKq Kq q3
                try simp only [Act.put, List.setIfInBounds_toArray, List.set_cons_zero, List.set_cons_succ]
                refine wpAnyH_ready (rs := [3, 5]) (by kernel_rfl) (by simp) ?_
                refine AllReadyH.cons (o := { dst := some 58, op := Op.call { callee := Callee.builtin Builtin.append, args := #[Operand.tmp 55, Operand.tmp 57], argTypes := #[29, 29] }, type := 29, pos := "ref.go:86", after := #[{ on := 0, ground := Ground.data }, { on := 2, ground := Ground.data }], guard := none }) rfl (fun Kq hKq => ?_) (AllReadyH.cons (o := { dst := some 60, op := Op.buildSlice 29 1 #[(0, Operand.tmp 59)], type := 29, pos := "ref.go:86", after := #[{ on := 4, ground := Ground.data }], guard := none }) rfl (fun Kq hKq => ?_) AllReadyH.nil)
                · obtain ⟨v1, X3, hrun, hown, hgrow, _, _⟩ := run_append_own_at (P := Try.prog) (w := X1) lo TPrices TPrices TPrice i1 z1 2 16 Try.underlying29 hi1 hy0 hy1 hy2 hy3 (by decide) _ 0 [] X1z.out ⟨ab, ao, none⟩ L.length pc (flatP L) (flatP_len L) (HPR.out _ (X0q.out.trans (X1b.out.mono X0q.out.size))) (flatP_one L) (by unfold maxLen; omega) (by omega) (by rw [HLO.out]; exact X1b.out.size)
                  refine step_append rfl _ _ TPrices rfl _ _ _ _ _ rfl rfl hrun ?_
                  rw [List.nil_append, Nat.zero_add] at hown
                  obtain ⟨a1, c1, rfl⟩ := own_slice hown
                  have X3v := Lib.hid hown
                  have X3b : Hid (Below X0.heap.size X0 X3) := X1b.out.grown hgrow X1b.out.size (fun j hj => by rw [← HLO.out]; exact (X1z.out.lt j hj).1)
                  have kp : Keeps (fun j => j = b0) X1 X3 := (Keeps.refl (fun j => j = b0) X1).grown hgrow fun j hj => .inl (by injection hj with hj; exact hj.symm)
                  have X3x := Lib.hid (X1x.out.keeps kp (fun e => own_type X1z.out X1x.out (by decide) (by rw [e]; rfl)))
                  have X3y := Lib.hid (X1y.out.keeps kp (show ¬ by' = b0 from fun e => by have h1 := (X1z.out.lt b0 rfl).1; have h2 := HYL.out; omega))
                  refine hKq.out _ _ ⟨X3y.out.cell 0, X3y.out.cell 1⟩ (fun hHeldC => ?_)
                  clear hKq Kq hrun hown hgrow kp
                  try simp only [Act.put, List.setIfInBounds_toArray, List.set_cons_zero, List.set_cons_succ]
                  refine wpAnyH_ready (rs := [5]) (by kernel_rfl) (by simp) ?_
                  refine AllReadyH.cons (o := { dst := some 60, op := Op.buildSlice 29 1 #[(0, Operand.tmp 59)], type := 29, pos := "ref.go:86", after := #[{ on := 4, ground := Ground.data }], guard := none }) rfl (fun Kq hKq => ?_) AllReadyH.nil
                  · go_simp
                    have hb1 : Below X3.heap.size X3 (X3.alloc (.cells #[.int .i64 yf, .int .i64 ya] TPrice)) := (Below.refl _ _).alloc (Nat.le_refl _) _
                    have X4b : Hid (Below X0.heap.size X0 (X3.alloc (.cells #[.int .i64 yf, .int .i64 ya] TPrice))) := X3b.out.trans (hb1.mono X3b.out.size)
                    have X4x := Lib.hid (X3x.out.later hb1)
                    have X4y := Lib.hid (X3y.out.later hb1)
                    have X4v := Lib.hid (own_later X3v.out hb1)
                    have X4w : Hid (Rw (X3.alloc (.cells #[.int .i64 yf, .int .i64 ya] TPrice)) X3.heap.size TPrice [.int .i64 yf, .int .i64 ya]) := Rw.new _ _ _
                    have X4t : Hid (∀ (j : Nat) (u : Value), ([.int .i64 yf, .int .i64 ya] : List Value)[j]? = some u → (X3.alloc (.cells #[.int .i64 yf, .int .i64 ya] TPrice)).cell? ((⟨X3.heap.size, 0, none⟩ : Addr).add j) = some u) := price_news _ _ _
                    refine hKq.out _ _ ⟨X4y.out.cell 0, X4y.out.cell 1⟩ (fun hHeldC => ?_)
                    clear hKq Kq hb1
                    try simp only [Act.put, List.setIfInBounds_toArray, List.set_cons_zero, List.set_cons_succ]
                    generalize X3.alloc (.cells #[.int .i64 yf, .int .i64 ya] TPrice) = X4 at X4b X4x X4y X4v X4w X4t hHeldC ⊢
                    obtain ⟨b5, hb5⟩ : ∃ b5, b5 = X3.heap.size := ⟨_, rfl⟩
                    rw [← hb5] at X4w X4t ⊢
                    clear hb5
                    refine wpAnyH_ready (rs := [6]) (by kernel_rfl) (by simp) ?_
                    refine AllReadyH.cons (o := { dst := some 61, op := Op.call { callee := Callee.builtin Builtin.append, args := #[Operand.tmp 58, Operand.tmp 60], argTypes := #[29, 29] }, type := 29, pos := "ref.go:86", after := #[{ on := 3, ground := Ground.data }, { on := 5, ground := Ground.data }, { on := 3, ground := Ground.chain }], guard := none }) rfl (fun Kq hKq => ?_) AllReadyH.nil
                    obtain ⟨v2, Y5, hrun, hown, hgrow, _, _⟩ := run_append_own_at (P := Try.prog) (w := X4) lo TPrices TPrices TPrice i1 z1 2 16 Try.underlying29 hi1 hy0 hy1 hy2 hy3 (by decide) _ L.length (flatP L) X4v.out ⟨b5, 0, none⟩ 1 1 [.int .i64 yf, .int .i64 ya] rfl X4t.out (by simp [Value.oneCell']) (by unfold maxLen; omega) (by omega) (by rw [HLO.out]; exact X4b.out.size)
                    refine step_append rfl _ _ TPrices rfl _ _ _ _ _ rfl rfl hrun ?_
                    have Y5b : Hid (Below X0.heap.size X0 Y5) := X4b.out.grown hgrow X4b.out.size (fun j hj => by rw [← HLO.out]; exact (X4v.out.lt j hj).1)
                    have kp : Keeps (fun j => (Value.slice a1 L.length c1).ownBlock = some j) X4 Y5 := (Keeps.refl (fun j => (Value.slice a1 L.length c1).ownBlock = some j) X4).grown hgrow fun j hj => .inl hj
                    have Y5x := Lib.hid (X4x.out.keeps kp (own_type X4v.out X4x.out (by decide)))
                    have Y5y := Lib.hid (X4y.out.keeps kp (show ¬ (Value.slice a1 L.length c1).ownBlock = some by' from fun e => by have h1 := (X4v.out.lt _ e).1; have h2 := HYL.out; omega))
                    obtain ⟨a2, c2, rfl, hr1, hr2, hr3⟩ := HCUT.out Y5 v2 (X0q.out.trans (Y5b.out.mono X0q.out.size)) Y5x.out (own_lower hown (by rw [HLO.out]; exact X0q.out.size))
                    refine hKq.out _ _ ⟨Y5y.out.cell 0, Y5y.out.cell 1⟩ (fun hHeldA => ?_)
                    clear hKq Kq
                    try simp only [Act.put, List.setIfInBounds_toArray, List.set_cons_zero, List.set_cons_succ]
                    refine wpAnyH_take (i := 7) (oi := { dst := some 62, op := Op.fieldAddr 31 (Operand.tmp 9) 3, type := 0, pos := "ref.go:86", after := #[{ on := 0, ground := Ground.phase }, { on := 1, ground := Ground.phase }, { on := 2, ground := Ground.phase }, { on := 3, ground := Ground.phase }, { on := 4, ground := Ground.phase }, { on := 5, ground := Ground.phase }, { on := 6, ground := Ground.phase }], guard := none }) (v := (.pointer (some ⟨bx, 3, none⟩))) rfl (by kernel_rfl) (by kernel_rfl) (by kernel_rfl) (fun _ _ _ h => h) (Or.inl ⟨by rfl, ?_⟩) hHeldA ?_
                    · rintro u ⟨p0, p1⟩
                      go_simp <;> first | rfl | kernel_rfl
                    try simp only [Act.put, List.setIfInBounds_toArray, List.set_cons_zero, List.set_cons_succ]
                    refine wpAnyH_ready (rs := [8]) (by kernel_rfl) (by simp) ?_
                    refine AllReadyH.cons (o := { dst := none, op := Op.store 29 (Operand.tmp 62) (Operand.tmp 61), type := 0, pos := "ref.go:86", after := #[{ on := 7, ground := Ground.data }, { on := 6, ground := Ground.data }, { on := 6, ground := Ground.chain }, { on := 0, ground := Ground.phase }, { on := 1, ground := Ground.phase }, { on := 2, ground := Ground.phase }, { on := 3, ground := Ground.phase }, { on := 4, ground := Ground.phase }, { on := 5, ground := Ground.phase }, { on := 6, ground := Ground.phase }], guard := none }) rfl (fun Kq hKq => ?_) AllReadyH.nil
                    have q3 : Y5.cell? ⟨bx, 3, none⟩ = some (.slice (some ⟨ab, ao, none⟩) L.length pc) := Y5x.out.cell 3
                    have f3 := Y5x.out.frozen 3
                    go_simp
                    refine hKq.out _ _ ⟨(Y5y.out.otherCell bx 3 _ (by have := HBX.out; omega)).cell 0, (Y5y.out.otherCell bx 3 _ (by have := HBX.out; omega)).cell 1⟩ (fun hHeldB => ?_)
                    clear hKq Kq
                    try simp only [Act.put, List.setIfInBounds_toArray, List.set_cons_zero, List.set_cons_succ]
                    refine wpAnyH_done (by kernel_rfl) ?_ _
                    go_wp2_with fail
                    go_meet
                    exact ⟨rfl, a2, c2, hr1, hr2, hr3⟩
                · go_simp
                  have hb1 : Below X1.heap.size X1 (X1.alloc (.cells #[.int .i64 yf, .int .i64 ya] TPrice)) := (Below.refl _ _).alloc (Nat.le_refl _) _
                  have X6b : Hid (Below X0.heap.size X0 (X1.alloc (.cells #[.int .i64 yf, .int .i64 ya] TPrice))) := X1b.out.trans (hb1.mono X1b.out.size)
                  have X6x := Lib.hid (X1x.out.later hb1)
                  have X6y := Lib.hid (X1y.out.later hb1)
                  have X6z := Lib.hid (own_later X1z.out hb1)
                  have X6w : Hid (Rw (X1.alloc (.cells #[.int .i64 yf, .int .i64 ya] TPrice)) X1.heap.size TPrice [.int .i64 yf, .int .i64 ya]) := Rw.new _ _ _
                  have X6n : Hid (b0 ≠ X1.heap.size) := (show b0 ≠ X1.heap.size from fun e => by have h1 := (X1z.out.lt b0 rfl).2; omega)
                  refine hKq.out _ _ ⟨X6y.out.cell 0, X6y.out.cell 1⟩ (fun hHeldC => ?_)
                  clear hKq Kq hb1
                  try simp only [Act.put, List.setIfInBounds_toArray, List.set_cons_zero, List.set_cons_succ]
                  generalize X1.alloc (.cells #[.int .i64 yf, .int .i64 ya] TPrice) = X6 at X6b X6x X6y X6z X6w hHeldC ⊢
                  obtain ⟨b5, hb5⟩ : ∃ b5, b5 = X1.heap.size := ⟨_, rfl⟩
                  rw [← hb5] at X6w X6n ⊢
                  clear hb5
                  refine wpAnyH_ready (rs := [3]) (by kernel_rfl) (by simp) ?_
                  refine AllReadyH.cons (o := { dst := some 58, op := Op.call { callee := Callee.builtin Builtin.append, args := #[Operand.tmp 55, Operand.tmp 57], argTypes := #[29, 29] }, type := 29, pos := "ref.go:86", after := #[{ on := 0, ground := Ground.data }, { on := 2, ground := Ground.data }], guard := none }) rfl (fun Kq hKq => ?_) AllReadyH.nil
                  · obtain ⟨v1, X7, hrun, hown, hgrow, _, _⟩ := run_append_own_at (P := Try.prog) (w := X6) lo TPrices TPrices TPrice i1 z1 2 16 Try.underlying29 hi1 hy0 hy1 hy2 hy3 (by decide) _ 0 [] X6z.out ⟨ab, ao, none⟩ L.length pc (flatP L) (flatP_len L) (HPR.out _ (X0q.out.trans (X6b.out.mono X0q.out.size))) (flatP_one L) (by unfold maxLen; omega) (by omega) (by rw [HLO.out]; exact X6b.out.size)
                    refine step_append rfl _ _ TPrices rfl _ _ _ _ _ rfl rfl hrun ?_
                    rw [List.nil_append, Nat.zero_add] at hown
                    obtain ⟨a1, c1, rfl⟩ := own_slice hown
                    have X7v := Lib.hid hown
                    have X7b : Hid (Below X0.heap.size X0 X7) := X6b.out.grown hgrow X6b.out.size (fun j hj => by rw [← HLO.out]; exact (X6z.out.lt j hj).1)
                    have kp : Keeps (fun j => j = b0) X6 X7 := (Keeps.refl (fun j => j = b0) X6).grown hgrow fun j hj => .inl (by injection hj with hj; exact hj.symm)
                    have X7x := Lib.hid (X6x.out.keeps kp (fun e => own_type X6z.out X6x.out (by decide) (by rw [e]; rfl)))
                    have X7y := Lib.hid (X6y.out.keeps kp (show ¬ by' = b0 from fun e => by have h1 := (X6z.out.lt b0 rfl).1; have h2 := HYL.out; omega))
                    have hw5 := X6w.out.keeps kp (fun e => X6n.out e.symm)
                    have X7t : Hid (∀ (j : Nat) (u : Value), ([.int .i64 yf, .int .i64 ya] : List Value)[j]? = some u → X7.cell? ((⟨b5, 0, none⟩ : Addr).add j) = some u) := fun j u hu => by
                      rw [Go.WideShapes.add_plain, Nat.zero_add, hw5.cell]
                      exact hu
                    refine hKq.out _ _ ⟨X7y.out.cell 0, X7y.out.cell 1⟩ (fun hHeldC => ?_)
                    clear hKq Kq hrun hown hgrow kp
                    try simp only [Act.put, List.setIfInBounds_toArray, List.set_cons_zero, List.set_cons_succ]
                    refine wpAnyH_ready (rs := [6]) (by kernel_rfl) (by simp) ?_
                    refine AllReadyH.cons (o := { dst := some 61, op := Op.call { callee := Callee.builtin Builtin.append, args := #[Operand.tmp 58, Operand.tmp 60], argTypes := #[29, 29] }, type := 29, pos := "ref.go:86", after := #[{ on := 3, ground := Ground.data }, { on := 5, ground := Ground.data }, { on := 3, ground := Ground.chain }], guard := none }) rfl (fun Kq hKq => ?_) AllReadyH.nil
                    obtain ⟨v2, Y8, hrun, hown, hgrow, _, _⟩ := run_append_own_at (P := Try.prog) (w := X7) lo TPrices TPrices TPrice i1 z1 2 16 Try.underlying29 hi1 hy0 hy1 hy2 hy3 (by decide) _ L.length (flatP L) X7v.out ⟨b5, 0, none⟩ 1 1 [.int .i64 yf, .int .i64 ya] rfl X7t.out (by simp [Value.oneCell']) (by unfold maxLen; omega) (by omega) (by rw [HLO.out]; exact X7b.out.size)
                    refine step_append rfl _ _ TPrices rfl _ _ _ _ _ rfl rfl hrun ?_
                    have Y8b : Hid (Below X0.heap.size X0 Y8) := X7b.out.grown hgrow X7b.out.size (fun j hj => by rw [← HLO.out]; exact (X7v.out.lt j hj).1)
                    have kp : Keeps (fun j => (Value.slice a1 L.length c1).ownBlock = some j) X7 Y8 := (Keeps.refl (fun j => (Value.slice a1 L.length c1).ownBlock = some j) X7).grown hgrow fun j hj => .inl hj
                    have Y8x := Lib.hid (X7x.out.keeps kp (own_type X7v.out X7x.out (by decide)))
                    have Y8y := Lib.hid (X7y.out.keeps kp (show ¬ (Value.slice a1 L.length c1).ownBlock = some by' from fun e => by have h1 := (X7v.out.lt _ e).1; have h2 := HYL.out; omega))
                    obtain ⟨a2, c2, rfl, hr1, hr2, hr3⟩ := HCUT.out Y8 v2 (X0q.out.trans (Y8b.out.mono X0q.out.size)) Y8x.out (own_lower hown (by rw [HLO.out]; exact X0q.out.size))
                    refine hKq.out _ _ ⟨Y8y.out.cell 0, Y8y.out.cell 1⟩ (fun hHeldA => ?_)
                    clear hKq Kq
                    try simp only [Act.put, List.setIfInBounds_toArray, List.set_cons_zero, List.set_cons_succ]
                    refine wpAnyH_take (i := 7) (oi := { dst := some 62, op := Op.fieldAddr 31 (Operand.tmp 9) 3, type := 0, pos := "ref.go:86", after := #[{ on := 0, ground := Ground.phase }, { on := 1, ground := Ground.phase }, { on := 2, ground := Ground.phase }, { on := 3, ground := Ground.phase }, { on := 4, ground := Ground.phase }, { on := 5, ground := Ground.phase }, { on := 6, ground := Ground.phase }], guard := none }) (v := (.pointer (some ⟨bx, 3, none⟩))) rfl (by kernel_rfl) (by kernel_rfl) (by kernel_rfl) (fun _ _ _ h => h) (Or.inl ⟨by rfl, ?_⟩) hHeldA ?_
                    · rintro u ⟨p0, p1⟩
                      go_simp <;> first | rfl | kernel_rfl
                    try simp only [Act.put, List.setIfInBounds_toArray, List.set_cons_zero, List.set_cons_succ]
                    refine wpAnyH_ready (rs := [8]) (by kernel_rfl) (by simp) ?_
                    refine AllReadyH.cons (o := { dst := none, op := Op.store 29 (Operand.tmp 62) (Operand.tmp 61), type := 0, pos := "ref.go:86", after := #[{ on := 7, ground := Ground.data }, { on := 6, ground := Ground.data }, { on := 6, ground := Ground.chain }, { on := 0, ground := Ground.phase }, { on := 1, ground := Ground.phase }, { on := 2, ground := Ground.phase }, { on := 3, ground := Ground.phase }, { on := 4, ground := Ground.phase }, { on := 5, ground := Ground.phase }, { on := 6, ground := Ground.phase }], guard := none }) rfl (fun Kq hKq => ?_) AllReadyH.nil
                    have q3 : Y8.cell? ⟨bx, 3, none⟩ = some (.slice (some ⟨ab, ao, none⟩) L.length pc) := Y8x.out.cell 3
                    have f3 := Y8x.out.frozen 3
                    go_simp
                    refine hKq.out _ _ ⟨(Y8y.out.otherCell bx 3 _ (by have := HBX.out; omega)).cell 0, (Y8y.out.otherCell bx 3 _ (by have := HBX.out; omega)).cell 1⟩ (fun hHeldB => ?_)
                    clear hKq Kq
                    try simp only [Act.put, List.setIfInBounds_toArray, List.set_cons_zero, List.set_cons_succ]
                    refine wpAnyH_done (by kernel_rfl) ?_ _
                    go_wp2_with fail
                    go_meet
                    exact ⟨rfl, a2, c2, hr1, hr2, hr3⟩
              · go_simp
                have hb1 : Below X1.heap.size X1 (X1.alloc (.cells #[.int .i64 yf, .int .i64 ya] TPrice)) := (Below.refl _ _).alloc (Nat.le_refl _) _
                have X9b : Hid (Below X0.heap.size X0 (X1.alloc (.cells #[.int .i64 yf, .int .i64 ya] TPrice))) := X1b.out.trans (hb1.mono X1b.out.size)
                have X9x := Lib.hid (X1x.out.later hb1)
                have X9y := Lib.hid (X1y.out.later hb1)
                have X9z := Lib.hid (own_later X1z.out hb1)
                have X9w : Hid (Rw (X1.alloc (.cells #[.int .i64 yf, .int .i64 ya] TPrice)) X1.heap.size TPrice [.int .i64 yf, .int .i64 ya]) := Rw.new _ _ _
                have X9n : Hid (b0 ≠ X1.heap.size) := (show b0 ≠ X1.heap.size from fun e => by have h1 := (X1z.out.lt b0 rfl).2; omega)
                refine hKq.out _ _ ⟨X9y.out.cell 0, X9y.out.cell 1⟩ (fun hHeldC => ?_)
                clear hKq Kq hb1
                try simp only [Act.put, List.setIfInBounds_toArray, List.set_cons_zero, List.set_cons_succ]
                generalize X1.alloc (.cells #[.int .i64 yf, .int .i64 ya] TPrice) = X9 at X9b X9x X9y X9z X9w hHeldC ⊢
                obtain ⟨b5, hb5⟩ : ∃ b5, b5 = X1.heap.size := ⟨_, rfl⟩
                rw [← hb5] at X9w X9n ⊢
                clear hb5
                refine wpAnyH_ready (rs := [2]) (by kernel_rfl) (by simp) ?_
                refine AllReadyH.cons (o := { dst := some 57, op := Op.load 29 (Operand.tmp 56), type := 29, pos := "ref.go:86", after := #[{ on := 1, ground := Ground.data }], guard := none }) rfl (fun Kq hKq => ?_) AllReadyH.nil
                · have q3 : X9.cell? ⟨bx, 3, none⟩ = some (.slice (some ⟨ab, ao, none⟩) L.length pc) := X9x.out.cell 3
                  go_simp
                  refine hKq.out _ _ ⟨X9y.out.cell 0, X9y.out.cell 1⟩ (fun hHeldC => ?_)
                  clear hKq Kq q3
                  try simp only [Act.put, List.setIfInBounds_toArray, List.set_cons_zero, List.set_cons_succ]
                  refine wpAnyH_ready (rs := [3]) (by kernel_rfl) (by simp) ?_
                  refine AllReadyH.cons (o := { dst := some 58, op := Op.call { callee := Callee.builtin Builtin.append, args := #[Operand.tmp 55, Operand.tmp 57], argTypes := #[29, 29] }, type := 29, pos := "ref.go:86", after := #[{ on := 0, ground := Ground.data }, { on := 2, ground := Ground.data }], guard := none }) rfl (fun Kq hKq => ?_) AllReadyH.nil
                  · obtain ⟨v1, X11, hrun, hown, hgrow, _, _⟩ := run_append_own_at (P := Try.prog) (w := X9) lo TPrices TPrices TPrice i1 z1 2 16 Try.underlying29 hi1 hy0 hy1 hy2 hy3 (by decide) _ 0 [] X9z.out ⟨ab, ao, none⟩ L.length pc (flatP L) (flatP_len L) (HPR.out _ (X0q.out.trans (X9b.out.mono X0q.out.size))) (flatP_one L) (by unfold maxLen; omega) (by omega) (by rw [HLO.out]; exact X9b.out.size)
                    refine step_append rfl _ _ TPrices rfl _ _ _ _ _ rfl rfl hrun ?_
                    rw [List.nil_append, Nat.zero_add] at hown
                    obtain ⟨a1, c1, rfl⟩ := own_slice hown
                    have X11v := Lib.hid hown
                    have X11b : Hid (Below X0.heap.size X0 X11) := X9b.out.grown hgrow X9b.out.size (fun j hj => by rw [← HLO.out]; exact (X9z.out.lt j hj).1)
                    have kp : Keeps (fun j => j = b0) X9 X11 := (Keeps.refl (fun j => j = b0) X9).grown hgrow fun j hj => .inl (by injection hj with hj; exact hj.symm)
                    have X11x := Lib.hid (X9x.out.keeps kp (fun e => own_type X9z.out X9x.out (by decide) (by rw [e]; rfl)))
                    have X11y := Lib.hid (X9y.out.keeps kp (show ¬ by' = b0 from fun e => by have h1 := (X9z.out.lt b0 rfl).1; have h2 := HYL.out; omega))
                    have hw5 := X9w.out.keeps kp (fun e => X9n.out e.symm)
                    have X11t : Hid (∀ (j : Nat) (u : Value), ([.int .i64 yf, .int .i64 ya] : List Value)[j]? = some u → X11.cell? ((⟨b5, 0, none⟩ : Addr).add j) = some u) := fun j u hu => by
                      rw [Go.WideShapes.add_plain, Nat.zero_add, hw5.cell]
                      exact hu
                    refine hKq.out _ _ ⟨X11y.out.cell 0, X11y.out.cell 1⟩ (fun hHeldC => ?_)
                    clear hKq Kq hrun hown hgrow kp
                    try simp only [Act.put, List.setIfInBounds_toArray, List.set_cons_zero, List.set_cons_succ]
                    refine wpAnyH_ready (rs := [6]) (by kernel_rfl) (by simp) ?_
                    refine AllReadyH.cons (o := { dst := some 61, op := Op.call { callee := Callee.builtin Builtin.append, args := #[Operand.tmp 58, Operand.tmp 60], argTypes := #[29, 29] }, type := 29, pos := "ref.go:86", after := #[{ on := 3, ground := Ground.data }, { on := 5, ground := Ground.data }, { on := 3, ground := Ground.chain }], guard := none }) rfl (fun Kq hKq => ?_) AllReadyH.nil
                    obtain ⟨v2, Y12, hrun, hown, hgrow, _, _⟩ := run_append_own_at (P := Try.prog) (w := X11) lo TPrices TPrices TPrice i1 z1 2 16 Try.underlying29 hi1 hy0 hy1 hy2 hy3 (by decide) _ L.length (flatP L) X11v.out ⟨b5, 0, none⟩ 1 1 [.int .i64 yf, .int .i64 ya] rfl X11t.out (by simp [Value.oneCell']) (by unfold maxLen; omega) (by omega) (by rw [HLO.out]; exact X11b.out.size)
                    refine step_append rfl _ _ TPrices rfl _ _ _ _ _ rfl rfl hrun ?_
                    have Y12b : Hid (Below X0.heap.size X0 Y12) := X11b.out.grown hgrow X11b.out.size (fun j hj => by rw [← HLO.out]; exact (X11v.out.lt j hj).1)
                    have kp : Keeps (fun j => (Value.slice a1 L.length c1).ownBlock = some j) X11 Y12 := (Keeps.refl (fun j => (Value.slice a1 L.length c1).ownBlock = some j) X11).grown hgrow fun j hj => .inl hj
                    have Y12x := Lib.hid (X11x.out.keeps kp (own_type X11v.out X11x.out (by decide)))
                    have Y12y := Lib.hid (X11y.out.keeps kp (show ¬ (Value.slice a1 L.length c1).ownBlock = some by' from fun e => by have h1 := (X11v.out.lt _ e).1; have h2 := HYL.out; omega))
                    obtain ⟨a2, c2, rfl, hr1, hr2, hr3⟩ := HCUT.out Y12 v2 (X0q.out.trans (Y12b.out.mono X0q.out.size)) Y12x.out (own_lower hown (by rw [HLO.out]; exact X0q.out.size))
                    refine hKq.out _ _ ⟨Y12y.out.cell 0, Y12y.out.cell 1⟩ (fun hHeldA => ?_)
                    clear hKq Kq
                    try simp only [Act.put, List.setIfInBounds_toArray, List.set_cons_zero, List.set_cons_succ]
                    refine wpAnyH_take (i := 7) (oi := { dst := some 62, op := Op.fieldAddr 31 (Operand.tmp 9) 3, type := 0, pos := "ref.go:86", after := #[{ on := 0, ground := Ground.phase }, { on := 1, ground := Ground.phase }, { on := 2, ground := Ground.phase }, { on := 3, ground := Ground.phase }, { on := 4, ground := Ground.phase }, { on := 5, ground := Ground.phase }, { on := 6, ground := Ground.phase }], guard := none }) (v := (.pointer (some ⟨bx, 3, none⟩))) rfl (by kernel_rfl) (by kernel_rfl) (by kernel_rfl) (fun _ _ _ h => h) (Or.inl ⟨by rfl, ?_⟩) hHeldA ?_
                    · rintro u ⟨p0, p1⟩
                      go_simp <;> first | rfl | kernel_rfl
                    try simp only [Act.put, List.setIfInBounds_toArray, List.set_cons_zero, List.set_cons_succ]
                    refine wpAnyH_ready (rs := [8]) (by kernel_rfl) (by simp) ?_
                    refine AllReadyH.cons (o := { dst := none, op := Op.store 29 (Operand.tmp 62) (Operand.tmp 61), type := 0, pos := "ref.go:86", after := #[{ on := 7, ground := Ground.data }, { on := 6, ground := Ground.data }, { on := 6, ground := Ground.chain }, { on := 0, ground := Ground.phase }, { on := 1, ground := Ground.phase }, { on := 2, ground := Ground.phase }, { on := 3, ground := Ground.phase }, { on := 4, ground := Ground.phase }, { on := 5, ground := Ground.phase }, { on := 6, ground := Ground.phase }], guard := none }) rfl (fun Kq hKq => ?_) AllReadyH.nil
                    have q3 : Y12.cell? ⟨bx, 3, none⟩ = some (.slice (some ⟨ab, ao, none⟩) L.length pc) := Y12x.out.cell 3
                    have f3 := Y12x.out.frozen 3
                    go_simp
                    refine hKq.out _ _ ⟨(Y12y.out.otherCell bx 3 _ (by have := HBX.out; omega)).cell 0, (Y12y.out.otherCell bx 3 _ (by have := HBX.out; omega)).cell 1⟩ (fun hHeldB => ?_)
                    clear hKq Kq
                    try simp only [Act.put, List.setIfInBounds_toArray, List.set_cons_zero, List.set_cons_succ]
                    refine wpAnyH_done (by kernel_rfl) ?_ _
                    go_wp2_with fail
                    go_meet
                    exact ⟨rfl, a2, c2, hr1, hr2, hr3⟩
            · have q3 : X0.cell? ⟨bx, 3, none⟩ = some (.slice (some ⟨ab, ao, none⟩) L.length pc) := X0x.out.cell 3
              go_simp
              refine hKq.out _ _ ⟨X0y.out.cell 0, X0y.out.cell 1⟩ (fun hHeldC => ?_)
              clear hKq Kq q3
              try simp only [Act.put, List.setIfInBounds_toArray, List.set_cons_zero, List.set_cons_succ]
              refine wpAnyH_ready (rs := [0, 5]) (by kernel_rfl) (by simp) ?_
              refine AllReadyH.cons (o := { dst := some 55, op := Op.buildSlice 29 0 #[], type := 29, pos := "ref.go:86", after := #[], guard := none }) rfl (fun Kq hKq => ?_) (AllReadyH.cons (o := { dst := some 60, op := Op.buildSlice 29 1 #[(0, Operand.tmp 59)], type := 29, pos := "ref.go:86", after := #[{ on := 4, ground := Ground.data }], guard := none }) rfl (fun Kq hKq => ?_) AllReadyH.nil)
              · go_simp
                have hb1 : Below X0.heap.size X0 (X0.alloc (.cells #[] TPrice)) := (Below.refl _ _).alloc (Nat.le_refl _) _
                have X14b : Hid (Below X0.heap.size X0 (X0.alloc (.cells #[] TPrice))) := X0b.out.trans (hb1.mono X0b.out.size)
                have X14x := Lib.hid (X0x.out.later hb1)
                have X14y := Lib.hid (X0y.out.later hb1)
                have X14z : Hid ((X0.alloc (.cells #[] TPrice)).ownsRow lo TPrice 2 (.slice (some ⟨X0.heap.size, 0, none⟩) 0 0) 0 []) := own_zero _ _ _ _ (by rw [HLO.out]; exact X0b.out.size)
                refine hKq.out _ _ ⟨X14y.out.cell 0, X14y.out.cell 1⟩ (fun hHeldC => ?_)
                clear hKq Kq hb1
                try simp only [Act.put, List.setIfInBounds_toArray, List.set_cons_zero, List.set_cons_succ]
                generalize X0.alloc (.cells #[] TPrice) = X14 at X14b X14x X14y X14z hHeldC ⊢
                obtain ⟨b0, hb0⟩ : ∃ b0, b0 = X0.heap.size := ⟨_, rfl⟩
                rw [← hb0] at X14z ⊢
                clear hb0
                refine wpAnyH_ready (rs := [3, 5]) (by kernel_rfl) (by simp) ?_
                refine AllReadyH.cons (o := { dst := some 58, op := Op.call { callee := Callee.builtin Builtin.append, args := #[Operand.tmp 55, Operand.tmp 57], argTypes := #[29, 29] }, type := 29, pos := "ref.go:86", after := #[{ on := 0, ground := Ground.data }, { on := 2, ground := Ground.data }], guard := none }) rfl (fun Kq hKq => ?_) (AllReadyH.cons (o := { dst := some 60, op := Op.buildSlice 29 1 #[(0, Operand.tmp 59)], type := 29, pos := "ref.go:86", after := #[{ on := 4, ground := Ground.data }], guard := none }) rfl (fun Kq hKq => ?_) AllReadyH.nil)
                · obtain ⟨v1, X15, hrun, hown, hgrow, _, _⟩ := run_append_own_at (P := Try.prog) (w := X14) lo TPrices TPrices TPrice i1 z1 2 16 Try.underlying29 hi1 hy0 hy1 hy2 hy3 (by decide) _ 0 [] X14z.out ⟨ab, ao, none⟩ L.length pc (flatP L) (flatP_len L) (HPR.out _ (X0q.out.trans (X14b.out.mono X0q.out.size))) (flatP_one L) (by unfold maxLen; omega) (by omega) (by rw [HLO.out]; exact X14b.out.size)
                  refine step_append rfl _ _ TPrices rfl _ _ _ _ _ rfl rfl hrun ?_
                  rw [List.nil_append, Nat.zero_add] at hown
                  obtain ⟨a1, c1, rfl⟩ := own_slice hown
                  have X15v := Lib.hid hown
                  have X15b : Hid (Below X0.heap.size X0 X15) := X14b.out.grown hgrow X14b.out.size (fun j hj => by rw [← HLO.out]; exact (X14z.out.lt j hj).1)
                  have kp : Keeps (fun j => j = b0) X14 X15 := (Keeps.refl (fun j => j = b0) X14).grown hgrow fun j hj => .inl (by injection hj with hj; exact hj.symm)
                  have X15x := Lib.hid (X14x.out.keeps kp (fun e => own_type X14z.out X14x.out (by decide) (by rw [e]; rfl)))
                  have X15y := Lib.hid (X14y.out.keeps kp (show ¬ by' = b0 from fun e => by have h1 := (X14z.out.lt b0 rfl).1; have h2 := HYL.out; omega))
                  refine hKq.out _ _ ⟨X15y.out.cell 0, X15y.out.cell 1⟩ (fun hHeldC => ?_)
                  clear hKq Kq hrun hown hgrow kp
                  try simp only [Act.put, List.setIfInBounds_toArray, List.set_cons_zero, List.set_cons_succ]
                  refine wpAnyH_ready (rs := [5]) (by kernel_rfl) (by simp) ?_
                  refine AllReadyH.cons (o := { dst := some 60, op := Op.buildSlice 29 1 #[(0, Operand.tmp 59)], type := 29, pos := "ref.go:86", after := #[{ on := 4, ground := Ground.data }], guard := none }) rfl (fun Kq hKq => ?_) AllReadyH.nil
                  · go_simp
                    have hb1 : Below X15.heap.size X15 (X15.alloc (.cells #[.int .i64 yf, .int .i64 ya] TPrice)) := (Below.refl _ _).alloc (Nat.le_refl _) _
                    have X16b : Hid (Below X0.heap.size X0 (X15.alloc (.cells #[.int .i64 yf, .int .i64 ya] TPrice))) := X15b.out.trans (hb1.mono X15b.out.size)
                    have X16x := Lib.hid (X15x.out.later hb1)
                    have X16y := Lib.hid (X15y.out.later hb1)
                    have X16v := Lib.hid (own_later X15v.out hb1)
                    have X16w : Hid (Rw (X15.alloc (.cells #[.int .i64 yf, .int .i64 ya] TPrice)) X15.heap.size TPrice [.int .i64 yf, .int .i64 ya]) := Rw.new _ _ _
                    have X16t : Hid (∀ (j : Nat) (u : Value), ([.int .i64 yf, .int .i64 ya] : List Value)[j]? = some u → (X15.alloc (.cells #[.int .i64 yf, .int .i64 ya] TPrice)).cell? ((⟨X15.heap.size, 0, none⟩ : Addr).add j) = some u) := price_news _ _ _
                    refine hKq.out _ _ ⟨X16y.out.cell 0, X16y.out.cell 1⟩ (fun hHeldC => ?_)
                    clear hKq Kq hb1
                    try simp only [Act.put, List.setIfInBounds_toArray, List.set_cons_zero, List.set_cons_succ]
                    generalize X15.alloc (.cells #[.int .i64 yf, .int .i64 ya] TPrice) = X16 at X16b X16x X16y X16v X16w X16t hHeldC ⊢
                    obtain ⟨b5, hb5⟩ : ∃ b5, b5 = X15.heap.size := ⟨_, rfl⟩
                    rw [← hb5] at X16w X16t ⊢
                    clear hb5
                    refine wpAnyH_ready (rs := [6]) (by kernel_rfl) (by simp) ?_
                    refine AllReadyH.cons (o := { dst := some 61, op := Op.call { callee := Callee.builtin Builtin.append, args := #[Operand.tmp 58, Operand.tmp 60], argTypes := #[29, 29] }, type := 29, pos := "ref.go:86", after := #[{ on := 3, ground := Ground.data }, { on := 5, ground := Ground.data }, { on := 3, ground := Ground.chain }], guard := none }) rfl (fun Kq hKq => ?_) AllReadyH.nil
                    obtain ⟨v2, Y17, hrun, hown, hgrow, _, _⟩ := run_append_own_at (P := Try.prog) (w := X16) lo TPrices TPrices TPrice i1 z1 2 16 Try.underlying29 hi1 hy0 hy1 hy2 hy3 (by decide) _ L.length (flatP L) X16v.out ⟨b5, 0, none⟩ 1 1 [.int .i64 yf, .int .i64 ya] rfl X16t.out (by simp [Value.oneCell']) (by unfold maxLen; omega) (by omega) (by rw [HLO.out]; exact X16b.out.size)
                    refine step_append rfl _ _ TPrices rfl _ _ _ _ _ rfl rfl hrun ?_
                    have Y17b : Hid (Below X0.heap.size X0 Y17) := X16b.out.grown hgrow X16b.out.size (fun j hj => by rw [← HLO.out]; exact (X16v.out.lt j hj).1)
                    have kp : Keeps (fun j => (Value.slice a1 L.length c1).ownBlock = some j) X16 Y17 := (Keeps.refl (fun j => (Value.slice a1 L.length c1).ownBlock = some j) X16).grown hgrow fun j hj => .inl hj
                    have Y17x := Lib.hid (X16x.out.keeps kp (own_type X16v.out X16x.out (by decide)))
                    have Y17y := Lib.hid (X16y.out.keeps kp (show ¬ (Value.slice a1 L.length c1).ownBlock = some by' from fun e => by have h1 := (X16v.out.lt _ e).1; have h2 := HYL.out; omega))
                    obtain ⟨a2, c2, rfl, hr1, hr2, hr3⟩ := HCUT.out Y17 v2 (X0q.out.trans (Y17b.out.mono X0q.out.size)) Y17x.out (own_lower hown (by rw [HLO.out]; exact X0q.out.size))
                    refine hKq.out _ _ ⟨Y17y.out.cell 0, Y17y.out.cell 1⟩ (fun hHeldA => ?_)
                    clear hKq Kq
                    try simp only [Act.put, List.setIfInBounds_toArray, List.set_cons_zero, List.set_cons_succ]
                    refine wpAnyH_take (i := 7) (oi := { dst := some 62, op := Op.fieldAddr 31 (Operand.tmp 9) 3, type := 0, pos := "ref.go:86", after := #[{ on := 0, ground := Ground.phase }, { on := 1, ground := Ground.phase }, { on := 2, ground := Ground.phase }, { on := 3, ground := Ground.phase }, { on := 4, ground := Ground.phase }, { on := 5, ground := Ground.phase }, { on := 6, ground := Ground.phase }], guard := none }) (v := (.pointer (some ⟨bx, 3, none⟩))) rfl (by kernel_rfl) (by kernel_rfl) (by kernel_rfl) (fun _ _ _ h => h) (Or.inl ⟨by rfl, ?_⟩) hHeldA ?_
                    · rintro u ⟨p0, p1⟩
                      go_simp <;> first | rfl | kernel_rfl
                    try simp only [Act.put, List.setIfInBounds_toArray, List.set_cons_zero, List.set_cons_succ]
                    refine wpAnyH_ready (rs := [8]) (by kernel_rfl) (by simp) ?_
                    refine AllReadyH.cons (o := { dst := none, op := Op.store 29 (Operand.tmp 62) (Operand.tmp 61), type := 0, pos := "ref.go:86", after := #[{ on := 7, ground := Ground.data }, { on := 6, ground := Ground.data }, { on := 6, ground := Ground.chain }, { on := 0, ground := Ground.phase }, { on := 1, ground := Ground.phase }, { on := 2, ground := Ground.phase }, { on := 3, ground := Ground.phase }, { on := 4, ground := Ground.phase }, { on := 5, ground := Ground.phase }, { on := 6, ground := Ground.phase }], guard := none }) rfl (fun Kq hKq => ?_) AllReadyH.nil
                    have q3 : Y17.cell? ⟨bx, 3, none⟩ = some (.slice (some ⟨ab, ao, none⟩) L.length pc) := Y17x.out.cell 3
                    have f3 := Y17x.out.frozen 3
                    go_simp
                    refine hKq.out _ _ ⟨(Y17y.out.otherCell bx 3 _ (by have := HBX.out; omega)).cell 0, (Y17y.out.otherCell bx 3 _ (by have := HBX.out; omega)).cell 1⟩ (fun hHeldB => ?_)
                    clear hKq Kq
                    try simp only [Act.put, List.setIfInBounds_toArray, List.set_cons_zero, List.set_cons_succ]
                    refine wpAnyH_done (by kernel_rfl) ?_ _
                    go_wp2_with fail
                    go_meet
                    exact ⟨rfl, a2, c2, hr1, hr2, hr3⟩
                · go_simp
                  have hb1 : Below X14.heap.size X14 (X14.alloc (.cells #[.int .i64 yf, .int .i64 ya] TPrice)) := (Below.refl _ _).alloc (Nat.le_refl _) _
                  have X18b : Hid (Below X0.heap.size X0 (X14.alloc (.cells #[.int .i64 yf, .int .i64 ya] TPrice))) := X14b.out.trans (hb1.mono X14b.out.size)
                  have X18x := Lib.hid (X14x.out.later hb1)
                  have X18y := Lib.hid (X14y.out.later hb1)
                  have X18z := Lib.hid (own_later X14z.out hb1)
                  have X18w : Hid (Rw (X14.alloc (.cells #[.int .i64 yf, .int .i64 ya] TPrice)) X14.heap.size TPrice [.int .i64 yf, .int .i64 ya]) := Rw.new _ _ _
                  have X18n : Hid (b0 ≠ X14.heap.size) := (show b0 ≠ X14.heap.size from fun e => by have h1 := (X14z.out.lt b0 rfl).2; omega)
                  refine hKq.out _ _ ⟨X18y.out.cell 0, X18y.out.cell 1⟩ (fun hHeldC => ?_)
                  clear hKq Kq hb1
                  try simp only [Act.put, List.setIfInBounds_toArray, List.set_cons_zero, List.set_cons_succ]
                  generalize X14.alloc (.cells #[.int .i64 yf, .int .i64 ya] TPrice) = X18 at X18b X18x X18y X18z X18w hHeldC ⊢
                  obtain ⟨b5, hb5⟩ : ∃ b5, b5 = X14.heap.size := ⟨_, rfl⟩
                  rw [← hb5] at X18w X18n ⊢
                  clear hb5
                  refine wpAnyH_ready (rs := [3]) (by kernel_rfl) (by simp) ?_
                  refine AllReadyH.cons (o := { dst := some 58, op := Op.call { callee := Callee.builtin Builtin.append, args := #[Operand.tmp 55, Operand.tmp 57], argTypes := #[29, 29] }, type := 29, pos := "ref.go:86", after := #[{ on := 0, ground := Ground.data }, { on := 2, ground := Ground.data }], guard := none }) rfl (fun Kq hKq => ?_) AllReadyH.nil
                  · obtain ⟨v1, X19, hrun, hown, hgrow, _, _⟩ := run_append_own_at (P := Try.prog) (w := X18) lo TPrices TPrices TPrice i1 z1 2 16 Try.underlying29 hi1 hy0 hy1 hy2 hy3 (by decide) _ 0 [] X18z.out ⟨ab, ao, none⟩ L.length pc (flatP L) (flatP_len L) (HPR.out _ (X0q.out.trans (X18b.out.mono X0q.out.size))) (flatP_one L) (by unfold maxLen; omega) (by omega) (by rw [HLO.out]; exact X18b.out.size)
                    refine step_append rfl _ _ TPrices rfl _ _ _ _ _ rfl rfl hrun ?_
                    rw [List.nil_append, Nat.zero_add] at hown
                    obtain ⟨a1, c1, rfl⟩ := own_slice hown
                    have X19v := Lib.hid hown
                    have X19b : Hid (Below X0.heap.size X0 X19) := X18b.out.grown hgrow X18b.out.size (fun j hj => by rw [← HLO.out]; exact (X18z.out.lt j hj).1)
                    have kp : Keeps (fun j => j = b0) X18 X19 := (Keeps.refl (fun j => j = b0) X18).grown hgrow fun j hj => .inl (by injection hj with hj; exact hj.symm)
                    have X19x := Lib.hid (X18x.out.keeps kp (fun e => own_type X18z.out X18x.out (by decide) (by rw [e]; rfl)))
                    have X19y := Lib.hid (X18y.out.keeps kp (show ¬ by' = b0 from fun e => by have h1 := (X18z.out.lt b0 rfl).1; have h2 := HYL.out; omega))
                    have hw5 := X18w.out.keeps kp (fun e => X18n.out e.symm)
                    have X19t : Hid (∀ (j : Nat) (u : Value), ([.int .i64 yf, .int .i64 ya] : List Value)[j]? = some u → X19.cell? ((⟨b5, 0, none⟩ : Addr).add j) = some u) := fun j u hu => by
                      rw [Go.WideShapes.add_plain, Nat.zero_add, hw5.cell]
                      exact hu
                    refine hKq.out _ _ ⟨X19y.out.cell 0, X19y.out.cell 1⟩ (fun hHeldC => ?_)
                    clear hKq Kq hrun hown hgrow kp
                    try simp only [Act.put, List.setIfInBounds_toArray, List.set_cons_zero, List.set_cons_succ]
                    refine wpAnyH_ready (rs := [6]) (by kernel_rfl) (by simp) ?_
                    refine AllReadyH.cons (o := { dst := some 61, op := Op.call { callee := Callee.builtin Builtin.append, args := #[Operand.tmp 58, Operand.tmp 60], argTypes := #[29, 29] }, type := 29, pos := "ref.go:86", after := #[{ on := 3, ground := Ground.data }, { on := 5, ground := Ground.data }, { on := 3, ground := Ground.chain }], guard := none }) rfl (fun Kq hKq => ?_) AllReadyH.nil
                    obtain ⟨v2, Y20, hrun, hown, hgrow, _, _⟩ := run_append_own_at (P := Try.prog) (w := X19) lo TPrices TPrices TPrice i1 z1 2 16 Try.underlying29 hi1 hy0 hy1 hy2 hy3 (by decide) _ L.length (flatP L) X19v.out ⟨b5, 0, none⟩ 1 1 [.int .i64 yf, .int .i64 ya] rfl X19t.out (by simp [Value.oneCell']) (by unfold maxLen; omega) (by omega) (by rw [HLO.out]; exact X19b.out.size)
                    refine step_append rfl _ _ TPrices rfl _ _ _ _ _ rfl rfl hrun ?_
                    have Y20b : Hid (Below X0.heap.size X0 Y20) := X19b.out.grown hgrow X19b.out.size (fun j hj => by rw [← HLO.out]; exact (X19v.out.lt j hj).1)
                    have kp : Keeps (fun j => (Value.slice a1 L.length c1).ownBlock = some j) X19 Y20 := (Keeps.refl (fun j => (Value.slice a1 L.length c1).ownBlock = some j) X19).grown hgrow fun j hj => .inl hj
                    have Y20x := Lib.hid (X19x.out.keeps kp (own_type X19v.out X19x.out (by decide)))
                    have Y20y := Lib.hid (X19y.out.keeps kp (show ¬ (Value.slice a1 L.length c1).ownBlock = some by' from fun e => by have h1 := (X19v.out.lt _ e).1; have h2 := HYL.out; omega))
                    obtain ⟨a2, c2, rfl, hr1, hr2, hr3⟩ := HCUT.out Y20 v2 (X0q.out.trans (Y20b.out.mono X0q.out.size)) Y20x.out (own_lower hown (by rw [HLO.out]; exact X0q.out.size))
                    refine hKq.out _ _ ⟨Y20y.out.cell 0, Y20y.out.cell 1⟩ (fun hHeldA => ?_)
                    clear hKq Kq
                    try simp only [Act.put, List.setIfInBounds_toArray, List.set_cons_zero, List.set_cons_succ]
                    refine wpAnyH_take (i := 7) (oi := { dst := some 62, op := Op.fieldAddr 31 (Operand.tmp 9) 3, type := 0, pos := "ref.go:86", after := #[{ on := 0, ground := Ground.phase }, { on := 1, ground := Ground.phase }, { on := 2, ground := Ground.phase }, { on := 3, ground := Ground.phase }, { on := 4, ground := Ground.phase }, { on := 5, ground := Ground.phase }, { on := 6, ground := Ground.phase }], guard := none }) (v := (.pointer (some ⟨bx, 3, none⟩))) rfl (by kernel_rfl) (by kernel_rfl) (by kernel_rfl) (fun _ _ _ h => h) (Or.inl ⟨by rfl, ?_⟩) hHeldA ?_
                    · rintro u ⟨p0, p1⟩
                      go_simp <;> first | rfl | kernel_rfl
                    try simp only [Act.put, List.setIfInBounds_toArray, List.set_cons_zero, List.set_cons_succ]
                    refine wpAnyH_ready (rs := [8]) (by kernel_rfl) (by simp) ?_
                    refine AllReadyH.cons (o := { dst := none, op := Op.store 29 (Operand.tmp 62) (Operand.tmp 61), type := 0, pos := "ref.go:86", after := #[{ on := 7, ground := Ground.data }, { on := 6, ground := Ground.data }, { on := 6, ground := Ground.chain }, { on := 0, ground := Ground.phase }, { on := 1, ground := Ground.phase }, { on := 2, ground := Ground.phase }, { on := 3, ground := Ground.phase }, { on := 4, ground := Ground.phase }, { on := 5, ground := Ground.phase }, { on := 6, ground := Ground.phase }], guard := none }) rfl (fun Kq hKq => ?_) AllReadyH.nil
                    have q3 : Y20.cell? ⟨bx, 3, none⟩ = some (.slice (some ⟨ab, ao, none⟩) L.length pc) := Y20x.out.cell 3
                    have f3 := Y20x.out.frozen 3
                    go_simp
                    refine hKq.out _ _ ⟨(Y20y.out.otherCell bx 3 _ (by have := HBX.out; omega)).cell 0, (Y20y.out.otherCell bx 3 _ (by have := HBX.out; omega)).cell 1⟩ (fun hHeldB => ?_)
                    clear hKq Kq
                    try simp only [Act.put, List.setIfInBounds_toArray, List.set_cons_zero, List.set_cons_succ]
                    refine wpAnyH_done (by kernel_rfl) ?_ _
                    go_wp2_with fail
                    go_meet
                    exact ⟨rfl, a2, c2, hr1, hr2, hr3⟩
              · go_simp
                have hb1 : Below X0.heap.size X0 (X0.alloc (.cells #[.int .i64 yf, .int .i64 ya] TPrice)) := (Below.refl _ _).alloc (Nat.le_refl _) _
                have X21b : Hid (Below X0.heap.size X0 (X0.alloc (.cells #[.int .i64 yf, .int .i64 ya] TPrice))) := X0b.out.trans (hb1.mono X0b.out.size)
                have X21x := Lib.hid (X0x.out.later hb1)
                have X21y := Lib.hid (X0y.out.later hb1)
                have X21w : Hid (Rw (X0.alloc (.cells #[.int .i64 yf, .int .i64 ya] TPrice)) X0.heap.size TPrice [.int .i64 yf, .int .i64 ya]) := Rw.new _ _ _
                refine hKq.out _ _ ⟨X21y.out.cell 0, X21y.out.cell 1⟩ (fun hHeldC => ?_)
                clear hKq Kq hb1
                try simp only [Act.put, List.setIfInBounds_toArray, List.set_cons_zero, List.set_cons_succ]
                generalize X0.alloc (.cells #[.int .i64 yf, .int .i64 ya] TPrice) = X21 at X21b X21x X21y X21w hHeldC ⊢
                obtain ⟨b5, hb5⟩ : ∃ b5, b5 = X0.heap.size := ⟨_, rfl⟩
                rw [← hb5] at X21w ⊢
                clear hb5
                refine wpAnyH_ready (rs := [0]) (by kernel_rfl) (by simp) ?_
                refine AllReadyH.cons (o := { dst := some 55, op := Op.buildSlice 29 0 #[], type := 29, pos := "ref.go:86", after := #[], guard := none }) rfl (fun Kq hKq => ?_) AllReadyH.nil
                · go_simp
                  have hb1 : Below X21.heap.size X21 (X21.alloc (.cells #[] TPrice)) := (Below.refl _ _).alloc (Nat.le_refl _) _
                  have X22b : Hid (Below X0.heap.size X0 (X21.alloc (.cells #[] TPrice))) := X21b.out.trans (hb1.mono X21b.out.size)
                  have X22x := Lib.hid (X21x.out.later hb1)
                  have X22y := Lib.hid (X21y.out.later hb1)
                  have X22z : Hid ((X21.alloc (.cells #[] TPrice)).ownsRow lo TPrice 2 (.slice (some ⟨X21.heap.size, 0, none⟩) 0 0) 0 []) := own_zero _ _ _ _ (by rw [HLO.out]; exact X21b.out.size)
                  have X22w := Lib.hid (X21w.out.later hb1)
                  have X22n : Hid (X21.heap.size ≠ b5) := (show X21.heap.size ≠ b5 from fun e => by have h1 := X21w.out.lt; omega)
                  refine hKq.out _ _ ⟨X22y.out.cell 0, X22y.out.cell 1⟩ (fun hHeldC => ?_)
                  clear hKq Kq hb1
                  try simp only [Act.put, List.setIfInBounds_toArray, List.set_cons_zero, List.set_cons_succ]
                  generalize X21.alloc (.cells #[] TPrice) = X22 at X22b X22x X22y X22z X22w hHeldC ⊢
                  obtain ⟨b0, hb0⟩ : ∃ b0, b0 = X21.heap.size := ⟨_, rfl⟩
                  rw [← hb0] at X22z X22n ⊢
                  clear hb0
                  refine wpAnyH_ready (rs := [3]) (by kernel_rfl) (by simp) ?_
                  refine AllReadyH.cons (o := { dst := some 58, op := Op.call { callee := Callee.builtin Builtin.append, args := #[Operand.tmp 55, Operand.tmp 57], argTypes := #[29, 29] }, type := 29, pos := "ref.go:86", after := #[{ on := 0, ground := Ground.data }, { on := 2, ground := Ground.data }], guard := none }) rfl (fun Kq hKq => ?_) AllReadyH.nil
                  · obtain ⟨v1, X23, hrun, hown, hgrow, _, _⟩ := run_append_own_at (P := Try.prog) (w := X22) lo TPrices TPrices TPrice i1 z1 2 16 Try.underlying29 hi1 hy0 hy1 hy2 hy3 (by decide) _ 0 [] X22z.out ⟨ab, ao, none⟩ L.length pc (flatP L) (flatP_len L) (HPR.out _ (X0q.out.trans (X22b.out.mono X0q.out.size))) (flatP_one L) (by unfold maxLen; omega) (by omega) (by rw [HLO.out]; exact X22b.out.size)
                    refine step_append rfl _ _ TPrices rfl _ _ _ _ _ rfl rfl hrun ?_
                    rw [List.nil_append, Nat.zero_add] at hown
                    obtain ⟨a1, c1, rfl⟩ := own_slice hown
                    have X23v := Lib.hid hown
                    have X23b : Hid (Below X0.heap.size X0 X23) := X22b.out.grown hgrow X22b.out.size (fun j hj => by rw [← HLO.out]; exact (X22z.out.lt j hj).1)
                    have kp : Keeps (fun j => j = b0) X22 X23 := (Keeps.refl (fun j => j = b0) X22).grown hgrow fun j hj => .inl (by injection hj with hj; exact hj.symm)
                    have X23x := Lib.hid (X22x.out.keeps kp (fun e => own_type X22z.out X22x.out (by decide) (by rw [e]; rfl)))
                    have X23y := Lib.hid (X22y.out.keeps kp (show ¬ by' = b0 from fun e => by have h1 := (X22z.out.lt b0 rfl).1; have h2 := HYL.out; omega))
                    have hw5 := X22w.out.keeps kp (fun e => X22n.out e.symm)
                    have X23t : Hid (∀ (j : Nat) (u : Value), ([.int .i64 yf, .int .i64 ya] : List Value)[j]? = some u → X23.cell? ((⟨b5, 0, none⟩ : Addr).add j) = some u) := fun j u hu => by
                      rw [Go.WideShapes.add_plain, Nat.zero_add, hw5.cell]
                      exact hu
                    refine hKq.out _ _ ⟨X23y.out.cell 0, X23y.out.cell 1⟩ (fun hHeldC => ?_)
                    clear hKq Kq hrun hown hgrow kp
                    try simp only [Act.put, List.setIfInBounds_toArray, List.set_cons_zero, List.set_cons_succ]
                    refine wpAnyH_ready (rs := [6]) (by kernel_rfl) (by simp) ?_
                    refine AllReadyH.cons (o := { dst := some 61, op := Op.call { callee := Callee.builtin Builtin.append, args := #[Operand.tmp 58, Operand.tmp 60], argTypes := #[29, 29] }, type := 29, pos := "ref.go:86", after := #[{ on := 3, ground := Ground.data }, { on := 5, ground := Ground.data }, { on := 3, ground := Ground.chain }], guard := none }) rfl (fun Kq hKq => ?_) AllReadyH.nil
                    obtain ⟨v2, Y24, hrun, hown, hgrow, _, _⟩ := run_append_own_at (P := Try.prog) (w := X23) lo TPrices TPrices TPrice i1 z1 2 16 Try.underlying29 hi1 hy0 hy1 hy2 hy3 (by decide) _ L.length (flatP L) X23v.out ⟨b5, 0, none⟩ 1 1 [.int .i64 yf, .int .i64 ya] rfl X23t.out (by simp [Value.oneCell']) (by unfold maxLen; omega) (by omega) (by rw [HLO.out]; exact X23b.out.size)
                    refine step_append rfl _ _ TPrices rfl _ _ _ _ _ rfl rfl hrun ?_
                    have Y24b : Hid (Below X0.heap.size X0 Y24) := X23b.out.grown hgrow X23b.out.size (fun j hj => by rw [← HLO.out]; exact (X23v.out.lt j hj).1)
                    have kp : Keeps (fun j => (Value.slice a1 L.length c1).ownBlock = some j) X23 Y24 := (Keeps.refl (fun j => (Value.slice a1 L.length c1).ownBlock = some j) X23).grown hgrow fun j hj => .inl hj
                    have Y24x := Lib.hid (X23x.out.keeps kp (own_type X23v.out X23x.out (by decide)))
                    have Y24y := Lib.hid (X23y.out.keeps kp (show ¬ (Value.slice a1 L.length c1).ownBlock = some by' from fun e => by have h1 := (X23v.out.lt _ e).1; have h2 := HYL.out; omega))
                    obtain ⟨a2, c2, rfl, hr1, hr2, hr3⟩ := HCUT.out Y24 v2 (X0q.out.trans (Y24b.out.mono X0q.out.size)) Y24x.out (own_lower hown (by rw [HLO.out]; exact X0q.out.size))
                    refine hKq.out _ _ ⟨Y24y.out.cell 0, Y24y.out.cell 1⟩ (fun hHeldA => ?_)
                    clear hKq Kq
                    try simp only [Act.put, List.setIfInBounds_toArray, List.set_cons_zero, List.set_cons_succ]
                    refine wpAnyH_take (i := 7) (oi := { dst := some 62, op := Op.fieldAddr 31 (Operand.tmp 9) 3, type := 0, pos := "ref.go:86", after := #[{ on := 0, ground := Ground.phase }, { on := 1, ground := Ground.phase }, { on := 2, ground := Ground.phase }, { on := 3, ground := Ground.phase }, { on := 4, ground := Ground.phase }, { on := 5, ground := Ground.phase }, { on := 6, ground := Ground.phase }], guard := none }) (v := (.pointer (some ⟨bx, 3, none⟩))) rfl (by kernel_rfl) (by kernel_rfl) (by kernel_rfl) (fun _ _ _ h => h) (Or.inl ⟨by rfl, ?_⟩) hHeldA ?_
                    · rintro u ⟨p0, p1⟩
                      go_simp <;> first | rfl | kernel_rfl
                    try simp only [Act.put, List.setIfInBounds_toArray, List.set_cons_zero, List.set_cons_succ]
                    refine wpAnyH_ready (rs := [8]) (by kernel_rfl) (by simp) ?_
                    refine AllReadyH.cons (o := { dst := none, op := Op.store 29 (Operand.tmp 62) (Operand.tmp 61), type := 0, pos := "ref.go:86", after := #[{ on := 7, ground := Ground.data }, { on := 6, ground := Ground.data }, { on := 6, ground := Ground.chain }, { on := 0, ground := Ground.phase }, { on := 1, ground := Ground.phase }, { on := 2, ground := Ground.phase }, { on := 3, ground := Ground.phase }, { on := 4, ground := Ground.phase }, { on := 5, ground := Ground.phase }, { on := 6, ground := Ground.phase }], guard := none }) rfl (fun Kq hKq => ?_) AllReadyH.nil
                    have q3 : Y24.cell? ⟨bx, 3, none⟩ = some (.slice (some ⟨ab, ao, none⟩) L.length pc) := Y24x.out.cell 3
                    have f3 := Y24x.out.frozen 3
                    go_simp
                    refine hKq.out _ _ ⟨(Y24y.out.otherCell bx 3 _ (by have := HBX.out; omega)).cell 0, (Y24y.out.otherCell bx 3 _ (by have := HBX.out; omega)).cell 1⟩ (fun hHeldB => ?_)
                    clear hKq Kq
                    try simp only [Act.put, List.setIfInBounds_toArray, List.set_cons_zero, List.set_cons_succ]
                    refine wpAnyH_done (by kernel_rfl) ?_ _
                    go_wp2_with fail
                    go_meet
                    exact ⟨rfl, a2, c2, hr1, hr2, hr3⟩
            · go_simp
              have hb1 : Below X0.heap.size X0 (X0.alloc (.cells #[.int .i64 yf, .int .i64 ya] TPrice)) := (Below.refl _ _).alloc (Nat.le_refl _) _
              have X25b : Hid (Below X0.heap.size X0 (X0.alloc (.cells #[.int .i64 yf, .int .i64 ya] TPrice))) := X0b.out.trans (hb1.mono X0b.out.size)
              have X25x := Lib.hid (X0x.out.later hb1)
              have X25y := Lib.hid (X0y.out.later hb1)
              have X25w : Hid (Rw (X0.alloc (.cells #[.int .i64 yf, .int .i64 ya] TPrice)) X0.heap.size TPrice [.int .i64 yf, .int .i64 ya]) := Rw.new _ _ _
              refine hKq.out _ _ ⟨X25y.out.cell 0, X25y.out.cell 1⟩ (fun hHeldC => ?_)
              clear hKq Kq hb1
              try simp only [Act.put, List.setIfInBounds_toArray, List.set_cons_zero, List.set_cons_succ]
              generalize X0.alloc (.cells #[.int .i64 yf, .int .i64 ya] TPrice) = X25 at X25b X25x X25y X25w hHeldC ⊢
              obtain ⟨b5, hb5⟩ : ∃ b5, b5 = X0.heap.size := ⟨_, rfl⟩
              rw [← hb5] at X25w ⊢
              clear hb5
              refine wpAnyH_ready (rs := [0, 2]) (by kernel_rfl) (by simp) ?_
              refine AllReadyH.cons (o := { dst := some 55, op := Op.buildSlice 29 0 #[], type := 29, pos := "ref.go:86", after := #[], guard := none }) rfl (fun Kq hKq => ?_) (AllReadyH.cons (o := { dst := some 57, op := Op.load 29 (Operand.tmp 56), type := 29, pos := "ref.go:86", after := #[{ on := 1, ground := Ground.data }], guard := none }) rfl (fun Kq hKq => ?_) AllReadyH.nil)
              · go_simp
                have hb1 : Below X25.heap.size X25 (X25.alloc (.cells #[] TPrice)) := (Below.refl _ _).alloc (Nat.le_refl _) _
                have X26b : Hid (Below X0.heap.size X0 (X25.alloc (.cells #[] TPrice))) := X25b.out.trans (hb1.mono X25b.out.size)
                have X26x := Lib.hid (X25x.out.later hb1)
                have X26y := Lib.hid (X25y.out.later hb1)
                have X26z : Hid ((X25.alloc (.cells #[] TPrice)).ownsRow lo TPrice 2 (.slice (some ⟨X25.heap.size, 0, none⟩) 0 0) 0 []) := own_zero _ _ _ _ (by rw [HLO.out]; exact X25b.out.size)
                have X26w := Lib.hid (X25w.out.later hb1)
                have X26n : Hid (X25.heap.size ≠ b5) := (show X25.heap.size ≠ b5 from fun e => by have h1 := X25w.out.lt; omega)
                refine hKq.out _ _ ⟨X26y.out.cell 0, X26y.out.cell 1⟩ (fun hHeldC => ?_)
                clear hKq Kq hb1
                try simp only [Act.put, List.setIfInBounds_toArray, List.set_cons_zero, List.set_cons_succ]
                generalize X25.alloc (.cells #[] TPrice) = X26 at X26b X26x X26y X26z X26w hHeldC ⊢
                obtain ⟨b0, hb0⟩ : ∃ b0, b0 = X25.heap.size := ⟨_, rfl⟩
                rw [← hb0] at X26z X26n ⊢
                clear hb0
                refine wpAnyH_ready (rs := [2]) (by kernel_rfl) (by simp) ?_
                refine AllReadyH.cons (o := { dst := some 57, op := Op.load 29 (Operand.tmp 56), type := 29, pos := "ref.go:86", after := #[{ on := 1, ground := Ground.data }], guard := none }) rfl (fun Kq hKq => ?_) AllReadyH.nil
                · have q3 : X26.cell? ⟨bx, 3, none⟩ = some (.slice (some ⟨ab, ao, none⟩) L.length pc) := X26x.out.cell 3
                  go_simp
                  refine hKq.out _ _ ⟨X26y.out.cell 0, X26y.out.cell 1⟩ (fun hHeldC => ?_)
                  clear hKq Kq q3
                  try simp only [Act.put, List.setIfInBounds_toArray, List.set_cons_zero, List.set_cons_succ]
                  refine wpAnyH_ready (rs := [3]) (by kernel_rfl) (by simp) ?_
                  refine AllReadyH.cons (o := { dst := some 58, op := Op.call { callee := Callee.builtin Builtin.append, args := #[Operand.tmp 55, Operand.tmp 57], argTypes := #[29, 29] }, type := 29, pos := "ref.go:86", after := #[{ on := 0, ground := Ground.data }, { on := 2, ground := Ground.data }], guard := none }) rfl (fun Kq hKq => ?_) AllReadyH.nil
                  · obtain ⟨v1, X28, hrun, hown, hgrow, _, _⟩ := run_append_own_at (P := Try.prog) (w := X26) lo TPrices TPrices TPrice i1 z1 2 16 Try.underlying29 hi1 hy0 hy1 hy2 hy3 (by decide) _ 0 [] X26z.out ⟨ab, ao, none⟩ L.length pc (flatP L) (flatP_len L) (HPR.out _ (X0q.out.trans (X26b.out.mono X0q.out.size))) (flatP_one L) (by unfold maxLen; omega) (by omega) (by rw [HLO.out]; exact X26b.out.size)
                    refine step_append rfl _ _ TPrices rfl _ _ _ _ _ rfl rfl hrun ?_
                    rw [List.nil_append, Nat.zero_add] at hown
                    obtain ⟨a1, c1, rfl⟩ := own_slice hown
                    have X28v := Lib.hid hown
                    have X28b : Hid (Below X0.heap.size X0 X28) := X26b.out.grown hgrow X26b.out.size (fun j hj => by rw [← HLO.out]; exact (X26z.out.lt j hj).1)
                    have kp : Keeps (fun j => j = b0) X26 X28 := (Keeps.refl (fun j => j = b0) X26).grown hgrow fun j hj => .inl (by injection hj with hj; exact hj.symm)
                    have X28x := Lib.hid (X26x.out.keeps kp (fun e => own_type X26z.out X26x.out (by decide) (by rw [e]; rfl)))
                    have X28y := Lib.hid (X26y.out.keeps kp (show ¬ by' = b0 from fun e => by have h1 := (X26z.out.lt b0 rfl).1; have h2 := HYL.out; omega))
                    have hw5 := X26w.out.keeps kp (fun e => X26n.out e.symm)
                    have X28t : Hid (∀ (j : Nat) (u : Value), ([.int .i64 yf, .int .i64 ya] : List Value)[j]? = some u → X28.cell? ((⟨b5, 0, none⟩ : Addr).add j) = some u) := fun j u hu => by
                      rw [Go.WideShapes.add_plain, Nat.zero_add, hw5.cell]
                      exact hu
                    refine hKq.out _ _ ⟨X28y.out.cell 0, X28y.out.cell 1⟩ (fun hHeldC => ?_)
                    clear hKq Kq hrun hown hgrow kp
                    try simp only [Act.put, List.setIfInBounds_toArray, List.set_cons_zero, List.set_cons_succ]
                    refine wpAnyH_ready (rs := [6]) (by kernel_rfl) (by simp) ?_
                    refine AllReadyH.cons (o := { dst := some 61, op := Op.call { callee := Callee.builtin Builtin.append, args := #[Operand.tmp 58, Operand.tmp 60], argTypes := #[29, 29] }, type := 29, pos := "ref.go:86", after := #[{ on := 3, ground := Ground.data }, { on := 5, ground := Ground.data }, { on := 3, ground := Ground.chain }], guard := none }) rfl (fun Kq hKq => ?_) AllReadyH.nil
                    obtain ⟨v2, Y29, hrun, hown, hgrow, _, _⟩ := run_append_own_at (P := Try.prog) (w := X28) lo TPrices TPrices TPrice i1 z1 2 16 Try.underlying29 hi1 hy0 hy1 hy2 hy3 (by decide) _ L.length (flatP L) X28v.out ⟨b5, 0, none⟩ 1 1 [.int .i64 yf, .int .i64 ya] rfl X28t.out (by simp [Value.oneCell']) (by unfold maxLen; omega) (by omega) (by rw [HLO.out]; exact X28b.out.size)
                    refine step_append rfl _ _ TPrices rfl _ _ _ _ _ rfl rfl hrun ?_
                    have Y29b : Hid (Below X0.heap.size X0 Y29) := X28b.out.grown hgrow X28b.out.size (fun j hj => by rw [← HLO.out]; exact (X28v.out.lt j hj).1)
                    have kp : Keeps (fun j => (Value.slice a1 L.length c1).ownBlock = some j) X28 Y29 := (Keeps.refl (fun j => (Value.slice a1 L.length c1).ownBlock = some j) X28).grown hgrow fun j hj => .inl hj
                    have Y29x := Lib.hid (X28x.out.keeps kp (own_type X28v.out X28x.out (by decide)))
                    have Y29y := Lib.hid (X28y.out.keeps kp (show ¬ (Value.slice a1 L.length c1).ownBlock = some by' from fun e => by have h1 := (X28v.out.lt _ e).1; have h2 := HYL.out; omega))
                    obtain ⟨a2, c2, rfl, hr1, hr2, hr3⟩ := HCUT.out Y29 v2 (X0q.out.trans (Y29b.out.mono X0q.out.size)) Y29x.out (own_lower hown (by rw [HLO.out]; exact X0q.out.size))
                    refine hKq.out _ _ ⟨Y29y.out.cell 0, Y29y.out.cell 1⟩ (fun hHeldA => ?_)
                    clear hKq Kq
                    try simp only [Act.put, List.setIfInBounds_toArray, List.set_cons_zero, List.set_cons_succ]
                    refine wpAnyH_take (i := 7) (oi := { dst := some 62, op := Op.fieldAddr 31 (Operand.tmp 9) 3, type := 0, pos := "ref.go:86", after := #[{ on := 0, ground := Ground.phase }, { on := 1, ground := Ground.phase }, { on := 2, ground := Ground.phase }, { on := 3, ground := Ground.phase }, { on := 4, ground := Ground.phase }, { on := 5, ground := Ground.phase }, { on := 6, ground := Ground.phase }], guard := none }) (v := (.pointer (some ⟨bx, 3, none⟩))) rfl (by kernel_rfl) (by kernel_rfl) (by kernel_rfl) (fun _ _ _ h => h) (Or.inl ⟨by rfl, ?_⟩) hHeldA ?_
                    · rintro u ⟨p0, p1⟩
                      go_simp <;> first | rfl | kernel_rfl
                    try simp only [Act.put, List.setIfInBounds_toArray, List.set_cons_zero, List.set_cons_succ]
                    refine wpAnyH_ready (rs := [8]) (by kernel_rfl) (by simp) ?_
                    refine AllReadyH.cons (o := { dst := none, op := Op.store 29 (Operand.tmp 62) (Operand.tmp 61), type := 0, pos := "ref.go:86", after := #[{ on := 7, ground := Ground.data }, { on := 6, ground := Ground.data }, { on := 6, ground := Ground.chain }, { on := 0, ground := Ground.phase }, { on := 1, ground := Ground.phase }, { on := 2, ground := Ground.phase }, { on := 3, ground := Ground.phase }, { on := 4, ground := Ground.phase }, { on := 5, ground := Ground.phase }, { on := 6, ground := Ground.phase }], guard := none }) rfl (fun Kq hKq => ?_) AllReadyH.nil
                    have q3 : Y29.cell? ⟨bx, 3, none⟩ = some (.slice (some ⟨ab, ao, none⟩) L.length pc) := Y29x.out.cell 3
                    have f3 := Y29x.out.frozen 3
                    go_simp
                    refine hKq.out _ _ ⟨(Y29y.out.otherCell bx 3 _ (by have := HBX.out; omega)).cell 0, (Y29y.out.otherCell bx 3 _ (by have := HBX.out; omega)).cell 1⟩ (fun hHeldB => ?_)
                    clear hKq Kq
                    try simp only [Act.put, List.setIfInBounds_toArray, List.set_cons_zero, List.set_cons_succ]
                    refine wpAnyH_done (by kernel_rfl) ?_ _
                    go_wp2_with fail
                    go_meet
                    exact ⟨rfl, a2, c2, hr1, hr2, hr3⟩
              · have q3 : X25.cell? ⟨bx, 3, none⟩ = some (.slice (some ⟨ab, ao, none⟩) L.length pc) := X25x.out.cell 3
                go_simp
                refine hKq.out _ _ ⟨X25y.out.cell 0, X25y.out.cell 1⟩ (fun hHeldC => ?_)
                clear hKq Kq q3
                try simp only [Act.put, List.setIfInBounds_toArray, List.set_cons_zero, List.set_cons_succ]
                refine wpAnyH_ready (rs := [0]) (by kernel_rfl) (by simp) ?_
                refine AllReadyH.cons (o := { dst := some 55, op := Op.buildSlice 29 0 #[], type := 29, pos := "ref.go:86", after := #[], guard := none }) rfl (fun Kq hKq => ?_) AllReadyH.nil
                · go_simp
                  have hb1 : Below X25.heap.size X25 (X25.alloc (.cells #[] TPrice)) := (Below.refl _ _).alloc (Nat.le_refl _) _
                  have X31b : Hid (Below X0.heap.size X0 (X25.alloc (.cells #[] TPrice))) := X25b.out.trans (hb1.mono X25b.out.size)
                  have X31x := Lib.hid (X25x.out.later hb1)
                  have X31y := Lib.hid (X25y.out.later hb1)
                  have X31z : Hid ((X25.alloc (.cells #[] TPrice)).ownsRow lo TPrice 2 (.slice (some ⟨X25.heap.size, 0, none⟩) 0 0) 0 []) := own_zero _ _ _ _ (by rw [HLO.out]; exact X25b.out.size)
                  have X31w := Lib.hid (X25w.out.later hb1)
                  have X31n : Hid (X25.heap.size ≠ b5) := (show X25.heap.size ≠ b5 from fun e => by have h1 := X25w.out.lt; omega)
                  refine hKq.out _ _ ⟨X31y.out.cell 0, X31y.out.cell 1⟩ (fun hHeldC => ?_)
                  clear hKq Kq hb1
                  try simp only [Act.put, List.setIfInBounds_toArray, List.set_cons_zero, List.set_cons_succ]
                  generalize X25.alloc (.cells #[] TPrice) = X31 at X31b X31x X31y X31z X31w hHeldC ⊢
                  obtain ⟨b0, hb0⟩ : ∃ b0, b0 = X25.heap.size := ⟨_, rfl⟩
                  rw [← hb0] at X31z X31n ⊢
                  clear hb0
                  refine wpAnyH_ready (rs := [3]) (by kernel_rfl) (by simp) ?_
                  refine AllReadyH.cons (o := { dst := some 58, op := Op.call { callee := Callee.builtin Builtin.append, args := #[Operand.tmp 55, Operand.tmp 57], argTypes := #[29, 29] }, type := 29, pos := "ref.go:86", after := #[{ on := 0, ground := Ground.data }, { on := 2, ground := Ground.data }], guard := none }) rfl (fun Kq hKq => ?_) AllReadyH.nil
                  · obtain ⟨v1, X32, hrun, hown, hgrow, _, _⟩ := run_append_own_at (P := Try.prog) (w := X31) lo TPrices TPrices TPrice i1 z1 2 16 Try.underlying29 hi1 hy0 hy1 hy2 hy3 (by decide) _ 0 [] X31z.out ⟨ab, ao, none⟩ L.length pc (flatP L) (flatP_len L) (HPR.out _ (X0q.out.trans (X31b.out.mono X0q.out.size))) (flatP_one L) (by unfold maxLen; omega) (by omega) (by rw [HLO.out]; exact X31b.out.size)
                    refine step_append rfl _ _ TPrices rfl _ _ _ _ _ rfl rfl hrun ?_
                    rw [List.nil_append, Nat.zero_add] at hown
                    obtain ⟨a1, c1, rfl⟩ := own_slice hown
                    have X32v := Lib.hid hown
                    have X32b : Hid (Below X0.heap.size X0 X32) := X31b.out.grown hgrow X31b.out.size (fun j hj => by rw [← HLO.out]; exact (X31z.out.lt j hj).1)
                    have kp : Keeps (fun j => j = b0) X31 X32 := (Keeps.refl (fun j => j = b0) X31).grown hgrow fun j hj => .inl (by injection hj with hj; exact hj.symm)
                    have X32x := Lib.hid (X31x.out.keeps kp (fun e => own_type X31z.out X31x.out (by decide) (by rw [e]; rfl)))
                    have X32y := Lib.hid (X31y.out.keeps kp (show ¬ by' = b0 from fun e => by have h1 := (X31z.out.lt b0 rfl).1; have h2 := HYL.out; omega))
                    have hw5 := X31w.out.keeps kp (fun e => X31n.out e.symm)
                    have X32t : Hid (∀ (j : Nat) (u : Value), ([.int .i64 yf, .int .i64 ya] : List Value)[j]? = some u → X32.cell? ((⟨b5, 0, none⟩ : Addr).add j) = some u) := fun j u hu => by
                      rw [Go.WideShapes.add_plain, Nat.zero_add, hw5.cell]
                      exact hu
                    refine hKq.out _ _ ⟨X32y.out.cell 0, X32y.out.cell 1⟩ (fun hHeldC => ?_)
                    clear hKq Kq hrun hown hgrow kp
                    try simp only [Act.put, List.setIfInBounds_toArray, List.set_cons_zero, List.set_cons_succ]
                    refine wpAnyH_ready (rs := [6]) (by kernel_rfl) (by simp) ?_
                    refine AllReadyH.cons (o := { dst := some 61, op := Op.call { callee := Callee.builtin Builtin.append, args := #[Operand.tmp 58, Operand.tmp 60], argTypes := #[29, 29] }, type := 29, pos := "ref.go:86", after := #[{ on := 3, ground := Ground.data }, { on := 5, ground := Ground.data }, { on := 3, ground := Ground.chain }], guard := none }) rfl (fun Kq hKq => ?_) AllReadyH.nil
                    obtain ⟨v2, Y33, hrun, hown, hgrow, _, _⟩ := run_append_own_at (P := Try.prog) (w := X32) lo TPrices TPrices TPrice i1 z1 2 16 Try.underlying29 hi1 hy0 hy1 hy2 hy3 (by decide) _ L.length (flatP L) X32v.out ⟨b5, 0, none⟩ 1 1 [.int .i64 yf, .int .i64 ya] rfl X32t.out (by simp [Value.oneCell']) (by unfold maxLen; omega) (by omega) (by rw [HLO.out]; exact X32b.out.size)
                    refine step_append rfl _ _ TPrices rfl _ _ _ _ _ rfl rfl hrun ?_
                    have Y33b : Hid (Below X0.heap.size X0 Y33) := X32b.out.grown hgrow X32b.out.size (fun j hj => by rw [← HLO.out]; exact (X32v.out.lt j hj).1)
                    have kp : Keeps (fun j => (Value.slice a1 L.length c1).ownBlock = some j) X32 Y33 := (Keeps.refl (fun j => (Value.slice a1 L.length c1).ownBlock = some j) X32).grown hgrow fun j hj => .inl hj
                    have Y33x := Lib.hid (X32x.out.keeps kp (own_type X32v.out X32x.out (by decide)))
                    have Y33y := Lib.hid (X32y.out.keeps kp (show ¬ (Value.slice a1 L.length c1).ownBlock = some by' from fun e => by have h1 := (X32v.out.lt _ e).1; have h2 := HYL.out; omega))
                    obtain ⟨a2, c2, rfl, hr1, hr2, hr3⟩ := HCUT.out Y33 v2 (X0q.out.trans (Y33b.out.mono X0q.out.size)) Y33x.out (own_lower hown (by rw [HLO.out]; exact X0q.out.size))
                    refine hKq.out _ _ ⟨Y33y.out.cell 0, Y33y.out.cell 1⟩ (fun hHeldA => ?_)
                    clear hKq Kq
                    try simp only [Act.put, List.setIfInBounds_toArray, List.set_cons_zero, List.set_cons_succ]
                    refine wpAnyH_take (i := 7) (oi := { dst := some 62, op := Op.fieldAddr 31 (Operand.tmp 9) 3, type := 0, pos := "ref.go:86", after := #[{ on := 0, ground := Ground.phase }, { on := 1, ground := Ground.phase }, { on := 2, ground := Ground.phase }, { on := 3, ground := Ground.phase }, { on := 4, ground := Ground.phase }, { on := 5, ground := Ground.phase }, { on := 6, ground := Ground.phase }], guard := none }) (v := (.pointer (some ⟨bx, 3, none⟩))) rfl (by kernel_rfl) (by kernel_rfl) (by kernel_rfl) (fun _ _ _ h => h) (Or.inl ⟨by rfl, ?_⟩) hHeldA ?_
                    · rintro u ⟨p0, p1⟩
                      go_simp <;> first | rfl | kernel_rfl
                    try simp only [Act.put, List.setIfInBounds_toArray, List.set_cons_zero, List.set_cons_succ]
                    refine wpAnyH_ready (rs := [8]) (by kernel_rfl) (by simp) ?_
                    refine AllReadyH.cons (o := { dst := none, op := Op.store 29 (Operand.tmp 62) (Operand.tmp 61), type := 0, pos := "ref.go:86", after := #[{ on := 7, ground := Ground.data }, { on := 6, ground := Ground.data }, { on := 6, ground := Ground.chain }, { on := 0, ground := Ground.phase }, { on := 1, ground := Ground.phase }, { on := 2, ground := Ground.phase }, { on := 3, ground := Ground.phase }, { on := 4, ground := Ground.phase }, { on := 5, ground := Ground.phase }, { on := 6, ground := Ground.phase }], guard := none }) rfl (fun Kq hKq => ?_) AllReadyH.nil
                    have q3 : Y33.cell? ⟨bx, 3, none⟩ = some (.slice (some ⟨ab, ao, none⟩) L.length pc) := Y33x.out.cell 3
                    have f3 := Y33x.out.frozen 3
                    go_simp
                    refine hKq.out _ _ ⟨(Y33y.out.otherCell bx 3 _ (by have := HBX.out; omega)).cell 0, (Y33y.out.otherCell bx 3 _ (by have := HBX.out; omega)).cell 1⟩ (fun hHeldB => ?_)
                    clear hKq Kq
                    try simp only [Act.put, List.setIfInBounds_toArray, List.set_cons_zero, List.set_cons_succ]
                    refine wpAnyH_done (by kernel_rfl) ?_ _
                    go_wp2_with fail
                    go_meet
                    exact ⟨rfl, a2, c2, hr1, hr2, hr3⟩
          obtain ⟨rfl, a2, c2, RX3, HROW, HB3⟩ := hcut
          rename_i hK2
          apply hK2
          clear hK2 q3 RX2 RY2 HB2 HCUT HPR
          obtain ⟨W3, rfl⟩ : ∃ W3, W3 = wc := ⟨_, rfl⟩
          have HLT2 : Hid (lf < yf ∧ (ret = 0 ∨ yf < ret)) := by
            have h1 := HNB.out
            show _ ∧ _
            omega
          go_upto_region 12 with (fail)
          have HA1 := Lib.hid (own_later HO.out HB3.out)
          obtain ⟨_, hgl, hrd⟩ := own_read HA1.out
          have hs1 : w.heap.size ≤ W3.heap.size := HB3.out.size
          have HRD : Hid (∀ j u, (flatN Q)[j]? = some u → (W3.alloc (.cells #[] TPlan)).cell? ⟨g, j, none⟩ = some u) := fun j u hu => by
            rw [((Below.refl W3.heap.size W3).alloc (Nat.le_refl _) _).cell (p := ⟨g, j, none⟩) (by exact hgl)]
            exact hrd j u hu
          clear hgl hrd
          go_wp2_with (at_builtin; refine wpList_append_any rfl _ _ TPlans rfl w.heap.size TPlan i0 z0 5 64 Try.underlying27 hi0 hz0 hz1 hz2 hz3 (by decide) _ 0 [] rfl (own_zero _ _ _ _ hs1) _ Q.length vc (flatN Q) rfl (.inr ⟨_, rfl, ?len1, ?rd1⟩) (flatN_one _) (by unfold maxLen; omega) (by omega) (by simp; omega) ?_)
          case len1 => rw [flatN_len]
          case rd1 =>
            intro j u hu
            try rw [Go.WideShapes.add_plain, Nat.zero_add]
            exact HRD.out j u hu
          intro v1 w4 hown1 hg1 hat1
          have HB4 : Hid (Below w.heap.size w w4) := (HB3.out.alloc hs1 _).grown hg1 (by simp; omega) (fun j hj => by cases hj; exact hs1)
          have HK2 : Hid (Below W3.heap.size W3 w4) := ((Below.refl _ W3).alloc (Nat.le_refl _) _).grown hg1 (by simp) (fun j hj => by cases hj; exact Nat.le_refl _)
          have RB3 := Lib.hid (RX3.out.later HK2.out)
          have HROW4 := Lib.hid (own_later HROW.out HK2.out)
          obtain ⟨a1, c1, rfl⟩ := own_slice hown1
          try simp only [List.nil_append, Nat.zero_add] at hown1
          obtain ⟨g1, rfl⟩ : ∃ g1, a1 = some ⟨g1, 0, none⟩ := by
            rcases hown1.2 with ⟨_, h0⟩ | ⟨g1, _, _, h1, _⟩
            · exact absurd h0 (by omega)
            · cases h1; exact ⟨g1, rfl⟩
          have HO1 := Lib.hid hown1
          have RG : Hid (∃ cur, Rw w4 g1 TPlan cur ∧ Q.length * 5 ≤ cur.length) := by
            rcases hown1.2 with ⟨h1, _⟩ | ⟨g2, vc', cur, h1, _, h2, h3, _, h4, _⟩
            · cases h1
            · obtain ⟨rfl, rfl⟩ : g1 = g2 ∧ c1 = vc' := by simpa using h1
              exact ⟨cur.toList, h2, Nat.le_trans (Nat.mul_le_mul_right 5 h3) (Nat.le_of_eq (by rw [Array.length_toList]; exact h4.symm))⟩
          have b0 : w4.cell? ⟨bx, 0, none⟩ = some (.int .u64 id) := (RB3.out).cell 0
          have b1 : w4.cell? ⟨bx, 1, none⟩ = some (.string name) := (RB3.out).cell 1
          have b2 : w4.cell? ⟨bx, 2, none⟩ = some (.int .i64 every) := (RB3.out).cell 2
          have b3 : w4.cell? ⟨bx, 3, none⟩ = some (.slice a2 (L.length + 1) c2) := (RB3.out).cell 3
          have b4 : w4.cell? ⟨bx, 4, none⟩ = some (.int .i64 ret) := (RB3.out).cell 4
          have HINF : Hid ((Try.prog.info? TPlan).map (·.size) = some 5) := by show _ = _; kernel_rfl
          clear hown1 hg1 hat1 HRD HA1 RX3 HB3 HROW
          try rw [Nat.zero_add]
          go_wp2_with (with_reducible refine wpList_store_mid rfl TPlan _ _ rfl g1 (i * 5) #[.int .u64 id, .string name, .int .i64 every, .slice a2 (L.length + 1) c2, .int .i64 ret] rfl rfl ?thr ?inf ?one ?_)
          case thr => obtain ⟨cur, h1, h2⟩ := RG.out; exact h1.there (i * 5) 5 (by have := HI5.out; omega)
          case inf => simpa using HINF.out
          case one => simp [Value.oneCell']
          go_wp2_with fail
          go_ret2
          rw [HF.out]
          have kp : Keeps (fun j => j = g1) w4 (w4.setCells g1 (i * 5) [.int .u64 id, .string name, .int .i64 every, .slice a2 (L.length + 1) c2, .int .i64 ret]) := (Keeps.refl (fun j => j = g1) _).setCells g1 (i * 5) _ (.inl rfl)
          have hr5 := own_keeps HROW4.out kp fun j hj e => own_own HROW4.out HO1.out (by decide) j hj (by rw [e]; rfl)
          have hr6 : (w4.setCells g1 (i * 5) [.int .u64 id, .string name, .int .i64 every, .slice a2 (L.length + 1) c2, .int .i64 ret]).ownsRow w.heap.size TPrice 2 (.slice a2 (L ++ [Pr.mk yf ya]).length c2) (L ++ [Pr.mk yf ya]).length (flatP (L ++ [Pr.mk yf ya])) := by rw [List.length_append]; exact hr5
          obtain ⟨g2, hg2, _⟩ := own_pv (x := Pn.more ⟨id, name, every, L, ret⟩ ⟨yf, ya⟩) hr6
          have hprs : PrsS S (w4.setCells g1 (i * 5) [.int .u64 id, .string name, .int .i64 every, .slice a2 (L.length + 1) c2, .int .i64 ret]) a2 (L ++ [Pr.mk yf ya]) := by
            refine ⟨by rw [hg2] at hr6 ⊢; exact prs_own hr6, fun q hq _ => HS.out _ (hr6.lt q.block (by rw [hq]; rfl)).1⟩
          refine HSET.out _ _ _ a2 c2 (Keeps.belowT HB4.out kp (fun j hj => by rw [hj]; exact (HO1.out.lt g1 rfl).1) HB4.out.size) HLT2.out.1 (by omega) HLT2.out.2 hprs ?_
          have := own_splice HO1.out (i * 5) (Pf.cells ⟨Pn.more ⟨id, name, every, L, ret⟩ ⟨yf, ya⟩, a2, c2⟩) HI5.out
          have ec : Pf.cells ⟨Pn.more ⟨id, name, every, L, ret⟩ ⟨yf, ya⟩, a2, c2⟩ = [.int .u64 id, .string name, .int .i64 every, .slice a2 (L.length + 1) c2, .int .i64 ret] := by
            unfold Pf.cells Pn.cells Pn.more
            simp
          rw [ec] at this ⊢
          exact this
end Go.Proofs.Ytakpoabpgdmneaa.Pl
