/- Package journal: the document's Reverse. -/
import Derived.Test.YtnblilonjpfdnaaJnRef2
namespace Go.Proofs.Ytnblilonjpfdnaa.Jn
open Go Go.RowKit Ck
section
set_option maxRecDepth 100000
set_option maxHeartbeats 3200000
theorem rreverse_c (d k s : Int) (L : List Ln) (a : Option Addr) (cap : Nat) (day : Int) (w : World) (h : Lns w a L) (hl : L.length ≤ 1000) : Calls Try.prog 15 #[(.agg #[.int .i64 d, .int .u8 k, .int .u64 s, .slice a L.length cap]), .int .i64 day] w (RevRes d k s L day w) := by
  have H := Lib.hid h
  have HL := Lib.hid hl
  have HINF := Lib.hid infoEn
  obtain ⟨i4, z4, hk0, hk1, hk2, hk3, hk4⟩ := info_ln
  have HB0 : Hid (Below w.heap.size w ((w.alloc (.cells #[.int .i64 d, .int .u8 k, .int .u64 s, .slice a L.length cap] TEn)).alloc (.cells #[.int .i64 0, .int .u8 0, .int .u64 0, .slice none 0 0] TEn))) := ((Below.refl _ w).alloc (Nat.le_refl _) _).alloc (by simp) _
  have RE0 : Hid (Rw ((w.alloc (.cells #[.int .i64 d, .int .u8 k, .int .u64 s, .slice a L.length cap] TEn)).alloc (.cells #[.int .i64 0, .int .u8 0, .int .u64 0, .slice none 0 0] TEn)) w.heap.size TEn [.int .i64 d, .int .u8 k, .int .u64 s, .slice a L.length cap]) := (Rw.new w [.int .i64 d, .int .u8 k, .int .u64 s, .slice a L.length cap] TEn).later ((Below.refl _ _).alloc (Nat.le_refl _) _)
  have RZ0 : Hid (Rw ((w.alloc (.cells #[.int .i64 d, .int .u8 k, .int .u64 s, .slice a L.length cap] TEn)).alloc (.cells #[.int .i64 0, .int .u8 0, .int .u64 0, .slice none 0 0] TEn)) (w.heap.size + 1) TEn [.int .i64 0, .int .u8 0, .int .u64 0, .slice none 0 0]) := by
    have := Rw.new (w.alloc (.cells #[.int .i64 d, .int .u8 k, .int .u64 s, .slice a L.length cap] TEn)) [.int .i64 0, .int .u8 0, .int .u64 0, .slice none 0 0] TEn
    rwa [show (w.alloc (.cells #[.int .i64 d, .int .u8 k, .int .u64 s, .slice a L.length cap] TEn)).heap.size = w.heap.size + 1 by simp] at this
  clear h hl
  go_enter Try.func15, Try.ntmps15
  go_upto_region 1 with (fail)
  obtain ⟨lo, hlo⟩ : ∃ lo, lo = w.heap.size := ⟨_, rfl⟩
  have HLO := Lib.hid hlo
  rw [← hlo] at RE0 RZ0 HB0 ⊢
  clear hlo
  obtain ⟨bz, hbz⟩ : ∃ bz, bz = lo + 1 := ⟨_, rfl⟩
  rw [← hbz] at RZ0 ⊢
  have HBZ := Lib.hid hbz
  have HZL : Hid (lo ≤ bz) := by show _ ≤ _; omega
  clear hbz
  generalize (w.alloc (.cells #[.int .i64 d, .int .u8 k, .int .u64 s, .slice a L.length cap] TEn)).alloc (.cells #[.int .i64 0, .int .u8 0, .int .u64 0, .slice none 0 0] TEn) = W2 at HB0 RE0 RZ0 ⊢
  have KC := Lib.hid (rcheck_c d k s L a cap W2 (H.out.later (by rw [← HLO.out]; exact HB0.out)) (by have := HL.out; omega))
  obtain ⟨ch, hch⟩ : ∃ ch, ch = chkM d k L := ⟨_, rfl⟩
  rw [← hch] at KC
  have HCH := Lib.hid hch
  have e0 : W2.cell? ⟨lo, 0, none⟩ = some (.int .i64 d) := RE0.out.cell 0
  have e1 : W2.cell? ⟨lo, 1, none⟩ = some (.int .u8 k) := RE0.out.cell 1
  have e2 : W2.cell? ⟨lo, 2, none⟩ = some (.int .u64 s) := RE0.out.cell 2
  have e3 : W2.cell? ⟨lo, 3, none⟩ = some (.slice a L.length cap) := RE0.out.cell 3
  clear hch
  go_wp2_with fail
  refine KC.out.mono ?_
  rintro _ W3 ⟨rfl, hb3⟩
  have HB3 : Hid (Below lo w W3) := HB0.out.trans (hb3.mono (by rw [HLO.out]; exact HB0.out.size))
  have RE3 := Lib.hid (RE0.out.later hb3)
  have RZ3 := Lib.hid (RZ0.out.later hb3)
  clear e0 e1 e2 e3 hb3 HB0 RE0 RZ0 KC
  by_cases hc0 : ch = 0
  · subst hc0
    have HCK := Lib.hid (chk_ok' HCH.out.symm)
    have HLEN : Hid (L.length ≤ 64) := by
      have := HCK.out.1
      unfold badB at this
      simp at this
      show _ ≤ _
      omega
    cases hdb : dayB day with
    | false =>
      have HDY := Lib.hid hdb
      have hbd : day < 1 ∨ 3652059 < day := by
        unfold dayB at hdb
        by_cases h1 : 1 ≤ day
        · by_cases h2 : day ≤ 3652059
          · simp [h1, h2] at hdb
          · right; omega
        · left; omega
      clear hdb
      rcases hbd with hd1 | hd1
      · have R9 : Rw (W3.setCells bz 0 #[.int .i64 0, .int .u8 0, .int .u64 0, .slice none 0 0].toList) bz TEn [.int .i64 0, .int .u8 0, .int .u64 0, .slice none 0 0] := RZ3.out.setCells (cs := [.int .i64 0, .int .u8 0, .int .u64 0, .slice none 0 0]) 0 (by simp)
        have kp9 : Keeps (fun j => j = bz) W3 (W3.setCells bz 0 #[.int .i64 0, .int .u8 0, .int .u64 0, .slice none 0 0].toList) := (Keeps.refl (fun j => j = bz) _).setCells bz 0 _ (.inl rfl)
        have B9 : Below lo w (W3.setCells bz 0 #[.int .i64 0, .int .u8 0, .int .u64 0, .slice none 0 0].toList) := Keeps.belowT HB3.out kp9 (fun j hj => by rw [hj]; exact HZL.out) (by rw [HLO.out]; exact HB3.out.size)
        have RZ9 := Lib.hid R9
        have HB9 := Lib.hid B9
        have KP9 := Lib.hid kp9
        clear R9 B9 kp9
        go_wp2_with (with_reducible refine wpList_store_mid rfl TEn _ _ rfl bz 0 #[.int .i64 0, .int .u8 0, .int .u64 0, .slice none 0 0] rfl rfl ?thr ?inf ?one ?_)
        case thr => exact RZ3.out.there 0 4 (by simp)
        case inf => simpa using HINF.out
        case one => simp [Value.oneCell']
        generalize W3.setCells bz 0 #[.int .i64 0, .int .u8 0, .int .u64 0, .slice none 0 0].toList = W9 at RZ9 HB9 KP9 ⊢
        go_wp2_with fail
        have r0 : W9.cell? ⟨bz, 0, none⟩ = some (.int .i64 0) := RZ9.out.cell 0
        have r1 : W9.cell? ⟨bz, 1, none⟩ = some (.int .u8 0) := RZ9.out.cell 1
        have r2 : W9.cell? ⟨bz, 2, none⟩ = some (.int .u64 0) := RZ9.out.cell 2
        have r3 : W9.cell? ⟨bz, 3, none⟩ = some (.slice none 0 0) := RZ9.out.cell 3
        refine bodyPost_ret (v := .tuple #[.agg #[.int .i64 0, .int .u8 0, .int .u64 0, .slice none 0 0], .int .i64 2]) (by simp [results, Try.results15, go_sem, r0, r1, r2, r3]) rfl ?_
        exact ⟨by rw [← HLO.out]; exact HB9.out, .inr (.inl ⟨HCH.out.symm, HDY.out, rfl⟩)⟩
      · have R9 : Rw (W3.setCells bz 0 #[.int .i64 0, .int .u8 0, .int .u64 0, .slice none 0 0].toList) bz TEn [.int .i64 0, .int .u8 0, .int .u64 0, .slice none 0 0] := RZ3.out.setCells (cs := [.int .i64 0, .int .u8 0, .int .u64 0, .slice none 0 0]) 0 (by simp)
        have kp9 : Keeps (fun j => j = bz) W3 (W3.setCells bz 0 #[.int .i64 0, .int .u8 0, .int .u64 0, .slice none 0 0].toList) := (Keeps.refl (fun j => j = bz) _).setCells bz 0 _ (.inl rfl)
        have B9 : Below lo w (W3.setCells bz 0 #[.int .i64 0, .int .u8 0, .int .u64 0, .slice none 0 0].toList) := Keeps.belowT HB3.out kp9 (fun j hj => by rw [hj]; exact HZL.out) (by rw [HLO.out]; exact HB3.out.size)
        have RZ9 := Lib.hid R9
        have HB9 := Lib.hid B9
        have KP9 := Lib.hid kp9
        clear R9 B9 kp9
        go_wp2_with (with_reducible refine wpList_store_mid rfl TEn _ _ rfl bz 0 #[.int .i64 0, .int .u8 0, .int .u64 0, .slice none 0 0] rfl rfl ?thr ?inf ?one ?_)
        case thr => exact RZ3.out.there 0 4 (by simp)
        case inf => simpa using HINF.out
        case one => simp [Value.oneCell']
        generalize W3.setCells bz 0 #[.int .i64 0, .int .u8 0, .int .u64 0, .slice none 0 0].toList = W9 at RZ9 HB9 KP9 ⊢
        go_wp2_with fail
        have r0 : W9.cell? ⟨bz, 0, none⟩ = some (.int .i64 0) := RZ9.out.cell 0
        have r1 : W9.cell? ⟨bz, 1, none⟩ = some (.int .u8 0) := RZ9.out.cell 1
        have r2 : W9.cell? ⟨bz, 2, none⟩ = some (.int .u64 0) := RZ9.out.cell 2
        have r3 : W9.cell? ⟨bz, 3, none⟩ = some (.slice none 0 0) := RZ9.out.cell 3
        refine bodyPost_ret (v := .tuple #[.agg #[.int .i64 0, .int .u8 0, .int .u64 0, .slice none 0 0], .int .i64 2]) (by simp [results, Try.results15, go_sem, r0, r1, r2, r3]) rfl ?_
        exact ⟨by rw [← HLO.out]; exact HB9.out, .inr (.inl ⟨HCH.out.symm, HDY.out, rfl⟩)⟩
    | true =>
      have HDY := Lib.hid hdb
      have hd1 : 1 ≤ day := by unfold dayB at hdb; simp at hdb; exact hdb.1
      have hd2 : day ≤ 3652059 := by unfold dayB at hdb; simp at hdb; exact hdb.2
      clear hdb
      have e1 : W3.cell? ⟨lo, 1, none⟩ = some (.int .u8 k) := RE3.out.cell 1
      have e2 : W3.cell? ⟨lo, 2, none⟩ = some (.int .u64 s) := RE3.out.cell 2
      go_upto_region 8 with (fail)
      have hb1 : Below W3.heap.size W3 (W3.alloc (.cells #[.int .i64 day, .int .u8 k, .int .u64 s, .slice none 0 0] TEn)) := (Below.refl _ W3).alloc (Nat.le_refl _) _
      have HB4 : Hid (Below lo w (W3.alloc (.cells #[.int .i64 day, .int .u8 k, .int .u64 s, .slice none 0 0] TEn))) := HB3.out.trans (hb1.mono (by rw [HLO.out]; exact HB3.out.size))
      have RE4 := Lib.hid (RE3.out.later hb1)
      have RZ4 := Lib.hid (RZ3.out.later hb1)
      have RO4 : Hid (Rw (W3.alloc (.cells #[.int .i64 day, .int .u8 k, .int .u64 s, .slice none 0 0] TEn)) W3.heap.size TEn [.int .i64 day, .int .u8 k, .int .u64 s, .slice none 0 0]) := Rw.new W3 [.int .i64 day, .int .u8 k, .int .u64 s, .slice none 0 0] TEn
      have HBO : Hid (bz < W3.heap.size) := RZ3.out.lt
      obtain ⟨bo, hbo⟩ : ∃ bo, bo = W3.heap.size := ⟨_, rfl⟩
      rw [← hbo] at RO4 HBO ⊢
      generalize W3.alloc (.cells #[.int .i64 day, .int .u8 k, .int .u64 s, .slice none 0 0] TEn) = W4 at HB4 RE4 RZ4 RO4 ⊢
      clear hb1 hbo HB3 RE3 RZ3 e1 e2 hd1 hd2
      go_loopg [8] L.length (fun kx s8 wr => ∃ (i : Nat) (vv : Value), s8 = .int .i64 (i : Int) ∧ i ≤ L.length ∧ Hid (wr.ownsRow (bo + 1) TLine 4 vv ((L.take i).map Ln.neg).length (flatL ((L.take i).map Ln.neg))) ∧ Hid (Rw wr bo TEn [.int .i64 day, .int .u8 k, .int .u64 s, vv]) ∧ Hid (Rw wr lo TEn [.int .i64 d, .int .u8 k, .int .u64 s, .slice a L.length cap]) ∧ Hid (Rw wr bz TEn [.int .i64 0, .int .u8 0, .int .u64 0, .slice none 0 0]) ∧ Hid (Below lo w wr) ∧ L.length ≤ i + kx)
      case atStart => exact ⟨0, .slice none 0 0, rfl, Nat.zero_le _, World.ownsRow_nil _ _ _ _, RO4.out, RE4.out, RZ4.out, HB4.out, by omega⟩
      case round =>
        obtain ⟨i, vv, rfl, hi9, HO, RO, RE, RZ, HB, hkx⟩ := hrel
        obtain ⟨va, vc, rfl⟩ := own_any HO.out
        have e3 : wr.cell? ⟨lo, 3, none⟩ = some (.slice a L.length cap) := RE.out.cell 3
        by_cases hlt : i < L.length
        · obtain ⟨ab, ao, rfl, _, hc⟩ := (H.out.later (by rw [← HLO.out]; exact HB.out)) i hlt
          have c0 := hc 0 _ rfl
          have c1 := hc 1 _ rfl
          have c2 := hc 2 _ rfl
          have c3 := hc 3 _ rfl
          have HSN : Hid ((L.take (i + 1)).map Ln.neg = (L.take i).map Ln.neg ++ [L[i].neg]) := by show _ = _; rw [List.take_succ_eq_append_getElem hlt, List.map_append]; rfl
          have HRG : Hid (-4611686018427387904 ≤ L[i].amt ∧ L[i].amt ≤ 4611686018427387904) := by
            have := okB_amt (List.all_eq_true.1 HCK.out.2.1 _ (List.getElem_mem hlt))
            exact ⟨this.2.1, this.2.2.1⟩
          have HN : Hid (((L.take i).map Ln.neg).length ≤ 64) := by
            have := HLEN.out
            show _ ≤ _
            simp
            omega
          obtain ⟨P, hP⟩ : ∃ P, P = (L.take i).map Ln.neg := ⟨_, rfl⟩
          rw [← hP] at HO RO HSN HN
          obtain ⟨Q, hQ⟩ : ∃ Q, Q = (L.take (i + 1)).map Ln.neg := ⟨_, rfl⟩
          rw [← hQ] at HSN
          have HQ := Lib.hid hQ
          obtain ⟨x, hx⟩ : ∃ x, x = L[i] := ⟨_, rfl⟩
          rw [← hx] at c0 c1 c2 c3 HSN HRG
          rw [Nat.add_zero] at c0
          have j0 : (0 : Int) ≤ (i : Int) := by omega
          have j1 : (i : Int) < (L.length : Int) := by omega
          have j2 : L.length ≤ 64 := HLEN.out
          have HLT := Lib.hid hlt
          have HKX := Lib.hid hkx
          clear hc hx hP hQ hlt hkx
          obtain ⟨xa, xb, xc, xd⟩ := x
          unfold Ln.neg at HSN
          simp only at c0 c1 c2 c3 HRG HSN
          go_upto_region 11 with (fail)
          have hb1 : Below wr.heap.size wr (wr.alloc (.cells #[.int .i64 xa, .int .u64 xb, .int .u64 xc, .int .i64 xd] TLine)) := (Below.refl _ _).alloc (Nat.le_refl _) _
          have HB5 : Hid (Below lo w (wr.alloc (.cells #[.int .i64 xa, .int .u64 xb, .int .u64 xc, .int .i64 xd] TLine))) := HB.out.trans (hb1.mono (by rw [HLO.out]; exact HB.out.size))
          have HO5 := Lib.hid (own_later HO.out hb1)
          have RO5 := Lib.hid (RO.out.later hb1)
          have RE5 := Lib.hid (RE.out.later hb1)
          have RZ5 := Lib.hid (RZ.out.later hb1)
          have RX5 : Hid (Rw (wr.alloc (.cells #[.int .i64 xa, .int .u64 xb, .int .u64 xc, .int .i64 xd] TLine)) wr.heap.size TLine [.int .i64 xa, .int .u64 xb, .int .u64 xc, .int .i64 xd]) := Rw.new wr [.int .i64 xa, .int .u64 xb, .int .u64 xc, .int .i64 xd] TLine
          have HXO : Hid (bo < wr.heap.size ∧ lo < wr.heap.size ∧ bz < wr.heap.size ∧ ∀ j, (Value.slice va P.length vc).ownBlock = some j → j < wr.heap.size) := ⟨RO.out.lt, RE.out.lt, RZ.out.lt, fun j hj => (HO.out.lt j hj).2⟩
          obtain ⟨bx, hbx⟩ : ∃ bx, bx = wr.heap.size := ⟨_, rfl⟩
          rw [← hbx] at RX5 HXO ⊢
          have HXL : Hid (lo ≤ bx) := by show _ ≤ _; rw [hbx, HLO.out]; exact HB.out.size
          generalize wr.alloc (.cells #[.int .i64 xa, .int .u64 xb, .int .u64 xc, .int .i64 xd] TLine) = W5 at HB5 HO5 RO5 RE5 RZ5 RX5 ⊢
          clear c0 c1 c2 c3 e3 hb1 hbx HB HO RO RE RZ
          have d3 : W5.cell? ⟨bx, 3, none⟩ = some (.int .i64 xd) := RX5.out.cell 3
          have f3 : W5.frozen? ⟨bx, 3, none⟩ = false := RX5.out.frozen 3
          have hr1 := HRG.out.1
          have hr2 := HRG.out.2
          go_upto_region 12 with (fail)
          have kp : Keeps (fun j => j = bx) W5 (W5.setCell ⟨bx, 3, none⟩ (.int .i64 (-xd))) := (Keeps.refl (fun j => j = bx) W5).setCell bx 3 _ (.inl rfl)
          have HB6 : Hid (Below lo w (W5.setCell ⟨bx, 3, none⟩ (.int .i64 (-xd)))) := Keeps.belowT HB5.out kp (fun j hj => by rw [hj]; exact HXL.out) (by rw [HLO.out]; exact HB5.out.size)
          have HO6 := Lib.hid (own_keeps HO5.out kp (fun j hj e => by have e1 : j = bx := e; have := HXO.out.2.2.2 j hj; omega))
          have RO6 := Lib.hid (RO5.out.keeps kp (by have := HXO.out; omega))
          have RE6 := Lib.hid (RE5.out.keeps kp (by have := HXO.out; omega))
          have RZ6 := Lib.hid (RZ5.out.keeps kp (by have := HXO.out; omega))
          have RX6 : Hid (Rw (W5.setCell ⟨bx, 3, none⟩ (.int .i64 (-xd))) bx TLine [.int .i64 xa, .int .u64 xb, .int .u64 xc, .int .i64 (-xd)]) := RX5.out.setCell 3 _
          generalize W5.setCell ⟨bx, 3, none⟩ (.int .i64 (-xd)) = W6 at HB6 HO6 RO6 RE6 RZ6 RX6 ⊢
          clear d3 f3 kp HB5 HO5 RO5 RE5 RZ5 RX5 hr1 hr2
          have d0 : W6.cell? ⟨bx, 0, none⟩ = some (.int .i64 xa) := RX6.out.cell 0
          have d1 : W6.cell? ⟨bx, 1, none⟩ = some (.int .u64 xb) := RX6.out.cell 1
          have d2 : W6.cell? ⟨bx, 2, none⟩ = some (.int .u64 xc) := RX6.out.cell 2
          have d3 : W6.cell? ⟨bx, 3, none⟩ = some (.int .i64 (-xd)) := RX6.out.cell 3
          have o3 : W6.cell? ⟨bo, 3, none⟩ = some (.slice va P.length vc) := RO6.out.cell 3
          go_wp2_with (at_builtin; refine wpList_append_own_at _ rfl _ _ TLines rfl (bo + 1) TLine i4 z4 4 32 Try.underlying23 hk0 hk1 hk2 hk3 hk4 (by decide) _ _ _ rfl (HO6.out.alloc _) ⟨W6.heap.size, 0, none⟩ 1 1 [.int .i64 xa, .int .u64 xb, .int .u64 xc, .int .i64 (-xd)] rfl rfl (rw_news (Rw.new W6 [.int .i64 xa, .int .u64 xb, .int .u64 xc, .int .i64 (-xd)] TLine)) (by simp [Value.oneCell']) (by have := HN.out; unfold maxLen; omega) (by have := HN.out; omega) (by have := RO6.out.lt; simp; omega) ?_)
          intro v7 W7 hown7 hg7 hnil7 hat7
          have kp7 : Keeps (fun j => (Value.slice va P.length vc).ownBlock = some j) W6 W7 := (Keeps.of _ ((Below.refl _ W6).alloc (Nat.le_refl _) _)).grown hg7 fun j hj => .inl hj
          have HB7 : Hid (Below lo w W7) := Keeps.belowT HB6.out kp7 (fun j hj => by have h1 := (HO6.out.lt j hj).1; have h2 := HBO.out; have h3 := HZL.out; omega) (by rw [HLO.out]; exact HB6.out.size)
          have RO7 := Lib.hid (RO6.out.keeps kp7 (own_type HO6.out RO6.out (by decide)))
          have RE7 := Lib.hid (RE6.out.keeps kp7 (own_type HO6.out RE6.out (by decide)))
          have RZ7 := Lib.hid (RZ6.out.keeps kp7 (own_type HO6.out RZ6.out (by decide)))
          have HO7 : Hid (W7.ownsRow (bo + 1) TLine 4 v7 Q.length (flatL Q)) := by
            show World.ownsRow _ _ _ _ _ _ _
            rw [HSN.out, flatL_snoc, List.length_append]
            exact hown7
          obtain ⟨va7, vc7, rfl⟩ := own_any HO7.out
          clear hown7 hg7 hnil7 hat7 kp7 HB6 HO6 RO6 RE6 RZ6 RX6 d0 d1 d2 d3 o3
          have o3 : (W7.cell? ⟨bo, 3, none⟩).isSome = true := by rw [RO7.out.cell 3]; rfl
          have o4 : W7.cell? ⟨bo, 3, none⟩ = some (.slice va P.length vc) := RO7.out.cell 3
          have f3 : W7.frozen? ⟨bo, 3, none⟩ = false := RO7.out.frozen 3
          have kp8 : Keeps (fun j => j = bo) W7 (W7.setCell ⟨bo, 3, none⟩ (.slice va7 Q.length vc7)) := (Keeps.refl (fun j => j = bo) W7).setCell bo 3 _ (.inl rfl)
          have HB8 : Hid (Below lo w (W7.setCell ⟨bo, 3, none⟩ (.slice va7 Q.length vc7))) := Keeps.belowT HB7.out kp8 (fun j hj => by rw [hj]; have h2 := HBO.out; have h3 := HZL.out; omega) (by rw [HLO.out]; exact HB7.out.size)
          have HO8 := Lib.hid (own_keeps HO7.out kp8 (fun j hj e => by have e1 : j = bo := e; have := (HO7.out.lt j hj).1; omega))
          have RO8 : Hid (Rw (W7.setCell ⟨bo, 3, none⟩ (.slice va7 Q.length vc7)) bo TEn [.int .i64 day, .int .u8 k, .int .u64 s, (.slice va7 Q.length vc7)]) := RO7.out.setCell 3 _
          have RE8 := Lib.hid (RE7.out.keeps kp8 (by have h2 := HBO.out; have h3 := HZL.out; omega))
          have RZ8 := Lib.hid (RZ7.out.keeps kp8 (by have h2 := HBO.out; omega))
          clear kp8 HB7 HO7 RO7 RE7 RZ7
          go_wp2_with fail
          have hlt := HLT.out
          have hkx := HKX.out
          go_roundg (L.length - (i + 1))
          case measure => omega
          case rel => exact ⟨i + 1, .slice va7 Q.length vc7, by simp, by omega, by rw [← HQ.out]; exact HO8, RO8, RE8, RZ8, HB8, by omega⟩
        · obtain rfl : i = L.length := by omega
          rw [List.take_length] at HO RO
          clear hkx hlt hi9
          rw [List.length_map] at HO RO
          have o0 : wr.cell? ⟨bo, 0, none⟩ = some (.int .i64 day) := RO.out.cell 0
          have o1 : wr.cell? ⟨bo, 1, none⟩ = some (.int .u8 k) := RO.out.cell 1
          have o2 : wr.cell? ⟨bo, 2, none⟩ = some (.int .u64 s) := RO.out.cell 2
          have o3 : wr.cell? ⟨bo, 3, none⟩ = some (.slice va L.length vc) := RO.out.cell 3
          have R9 : Rw (wr.setCells bz 0 #[.int .i64 day, .int .u8 k, .int .u64 s, .slice va L.length vc].toList) bz TEn [.int .i64 day, .int .u8 k, .int .u64 s, .slice va L.length vc] := RZ.out.setCells (cs := [.int .i64 day, .int .u8 k, .int .u64 s, .slice va L.length vc]) 0 (by simp)
          have kp9 : Keeps (fun j => j = bz) wr (wr.setCells bz 0 #[.int .i64 day, .int .u8 k, .int .u64 s, .slice va L.length vc].toList) := (Keeps.refl (fun j => j = bz) _).setCells bz 0 _ (.inl rfl)
          have B9 : Below lo w (wr.setCells bz 0 #[.int .i64 day, .int .u8 k, .int .u64 s, .slice va L.length vc].toList) := Keeps.belowT HB.out kp9 (fun j hj => by rw [hj]; exact HZL.out) (by rw [HLO.out]; exact HB.out.size)
          have RZ9 := Lib.hid R9
          have HB9 := Lib.hid B9
          have KP9 := Lib.hid kp9
          clear R9 B9 kp9
          go_wp2_with (with_reducible refine wpList_store_mid rfl TEn _ _ rfl bz 0 #[.int .i64 day, .int .u8 k, .int .u64 s, .slice va L.length vc] rfl rfl ?thr ?inf ?one ?_)
          case thr => exact RZ.out.there 0 4 (by simp)
          case inf => simpa using HINF.out
          case one => simp [Value.oneCell']
          generalize wr.setCells bz 0 #[.int .i64 day, .int .u8 k, .int .u64 s, .slice va L.length vc].toList = W9 at RZ9 HB9 KP9 ⊢
          go_wp2_with fail
          have HO9 := Lib.hid (own_keeps HO.out KP9.out (fun j hj e => by have e1 : j = bz := e; have h1 := (HO.out.lt j hj).1; have h2 := HBO.out; omega))
          have r0 : W9.cell? ⟨bz, 0, none⟩ = some (.int .i64 day) := RZ9.out.cell 0
          have r1 : W9.cell? ⟨bz, 1, none⟩ = some (.int .u8 k) := RZ9.out.cell 1
          have r2 : W9.cell? ⟨bz, 2, none⟩ = some (.int .u64 s) := RZ9.out.cell 2
          have r3 : W9.cell? ⟨bz, 3, none⟩ = some (.slice va L.length vc) := RZ9.out.cell 3
          refine bodyPost_ret (v := .tuple #[.agg #[.int .i64 day, .int .u8 k, .int .u64 s, .slice va L.length vc], .int .i64 0]) (by simp [results, Try.results15, go_sem, r0, r1, r2, r3]) rfl ?_
          exact ⟨by rw [← HLO.out]; exact HB9.out, .inr (.inr ⟨HCH.out.symm, HDY.out, _, rfl, own_low HO9.out (by rw [← HLO.out]; have h2 := HBO.out; have h3 := HZL.out; omega)⟩)⟩
  · have n1 : (ch == 0) = false := beq_eq_false_iff_ne.2 hc0
    have n2 : (ch != 0) = true := by simpa using hc0
    have HNE := Lib.hid hc0
    clear hc0
    have R9 : Rw (W3.setCells bz 0 #[.int .i64 0, .int .u8 0, .int .u64 0, .slice none 0 0].toList) bz TEn [.int .i64 0, .int .u8 0, .int .u64 0, .slice none 0 0] := RZ3.out.setCells (cs := [.int .i64 0, .int .u8 0, .int .u64 0, .slice none 0 0]) 0 (by simp)
    have kp9 : Keeps (fun j => j = bz) W3 (W3.setCells bz 0 #[.int .i64 0, .int .u8 0, .int .u64 0, .slice none 0 0].toList) := (Keeps.refl (fun j => j = bz) _).setCells bz 0 _ (.inl rfl)
    have B9 : Below lo w (W3.setCells bz 0 #[.int .i64 0, .int .u8 0, .int .u64 0, .slice none 0 0].toList) := Keeps.belowT HB3.out kp9 (fun j hj => by rw [hj]; exact HZL.out) (by rw [HLO.out]; exact HB3.out.size)
    have RZ9 := Lib.hid R9
    have HB9 := Lib.hid B9
    have KP9 := Lib.hid kp9
    clear R9 B9 kp9
    go_wp2_with (with_reducible refine wpList_store_mid rfl TEn _ _ rfl bz 0 #[.int .i64 0, .int .u8 0, .int .u64 0, .slice none 0 0] rfl rfl ?thr ?inf ?one ?_)
    case thr => exact RZ3.out.there 0 4 (by simp)
    case inf => simpa using HINF.out
    case one => simp [Value.oneCell']
    generalize W3.setCells bz 0 #[.int .i64 0, .int .u8 0, .int .u64 0, .slice none 0 0].toList = W9 at RZ9 HB9 KP9 ⊢
    go_wp2_with fail
    have r0 : W9.cell? ⟨bz, 0, none⟩ = some (.int .i64 0) := RZ9.out.cell 0
    have r1 : W9.cell? ⟨bz, 1, none⟩ = some (.int .u8 0) := RZ9.out.cell 1
    have r2 : W9.cell? ⟨bz, 2, none⟩ = some (.int .u64 0) := RZ9.out.cell 2
    have r3 : W9.cell? ⟨bz, 3, none⟩ = some (.slice none 0 0) := RZ9.out.cell 3
    refine bodyPost_ret (v := .tuple #[.agg #[.int .i64 0, .int .u8 0, .int .u64 0, .slice none 0 0], .int .i64 ch]) (by simp [results, Try.results15, go_sem, r0, r1, r2, r3]) rfl ?_
    exact ⟨by rw [← HLO.out]; exact HB9.out, .inl ⟨by rw [← HCH.out]; exact HNE.out, by rw [← HCH.out]; rfl⟩⟩
end
end Go.Proofs.Ytnblilonjpfdnaa.Jn
