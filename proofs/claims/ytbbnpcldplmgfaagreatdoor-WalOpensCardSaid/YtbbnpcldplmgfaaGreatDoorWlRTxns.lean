/- Package quittanceref06: New, Txns, Same, by definition. -/
import Derived.Test.YtbbnpcldplmgfaaGreatDoorWlSav
namespace Go.Proofs.YtbbnpcldplmgfaaGreatDoor.Wl
open Go Go.RowKit Dv Rf Shf Rk
open Tal (Strs bas)
/-- The texts are the lists. -/
structure Ps (T : List Rk.Sec) (LL : List (List Rk.Sec)) : Prop where
  len : LL.length = T.length
  eq : ∀ i (h : i < LL.length) (h' : i < T.length), parse T[i] = some LL[i]
theorem Ps.one {T : List Rk.Sec} {LL LL' : List (List Rk.Sec)} (h : Ps T LL) (k : Ps T LL') : LL = LL' := by
  refine List.ext_getElem (by rw [h.len, k.len]) fun i h1 h2 => ?_
  have e1 := h.eq i h1 (by have := h.len; omega)
  have e2 := k.eq i h2 (by have := h.len; omega)
  exact Option.some.inj (e1.symm.trans e2)
theorem ow_ls {base : Nat} {w : World} {v : Value} {l : List Rk.Sec} (h : Ow base w v l) : Ls w v l := by
  obtain ⟨A, cap, rfl, h1, h2, h3, _⟩ := h.form
  exact ⟨A, cap, rfl, h1, h2, h3⟩
def RtxRes (T : List Rk.Sec) (w : World) (e : Ending) (w' : World) : Prop :=
  Below w.heap.size w w' ∧ ((∃ LL v, Ps T LL ∧ e = .returned (.tuple #[v, .bool true]) ∧ Lss w.heap.size w' v LL) ∨ ((∀ LL, ¬ Ps T LL) ∧ e = .returned (.tuple #[.slice none 0 0, .bool false])))
set_option maxRecDepth 100000 in
set_option maxHeartbeats 3200000 in
theorem rtxns_c {base : Nat} {w : World} {vA vB : Value} {A B : List Rk.Sec} {SA SB : Ld} {n : Nat} (h : Lg base w vA vB A B) (hr : Rd n A B SA SB) (ht : ∀ t ∈ (lgS SA SB).T, t.length ≤ 98304) :
    Calls Tryz.prog 14 #[.agg #[vA, vB]] w (RtxRes (lgS SA SB).T w) := by
  obtain ⟨i0, hi, hz0, hz1, hz2⟩ := info_parts infoLs
  obtain ⟨aH, cH, _, k1, k2⟩ := log_o h hr
  have K1 := Lib.hid k1
  have K2 := Lib.hid k2
  have hT9 : (lgS SA SB).T.length ≤ 1000 := by
    have h1 := hr.l.r.fine
    have h2 := h1.le
    have h3 := h1.tl
    have := hr.ll; have := hr.n9
    omega
  obtain ⟨aA, cA, rfl⟩ := own_len h.a hr.la
  obtain ⟨aB, cB, rfl⟩ := own_len h.b hr.lb
  have hb1 : Hid (Below w.heap.size w (w.alloc (.cells #[.slice aA n cA, .slice aB n cB] TLg))) := (Below.refl _ w).alloc (Nat.le_refl _) _
  obtain ⟨S, hS⟩ : ∃ S, S = lgS SA SB := ⟨_, rfl⟩
  rw [← hS] at K2 ht hT9 ⊢
  have HTL := Lib.hid ht
  obtain ⟨T, hTe⟩ : ∃ T, T = S.T := ⟨_, rfl⟩
  rw [← hTe] at K2 HTL hT9 ⊢
  obtain ⟨sf, hsf⟩ : ∃ sf : Nat, sf = S.first := ⟨_, rfl⟩
  obtain ⟨se, hse⟩ : ∃ se : Nat, se = S.e := ⟨_, rfl⟩
  rw [← hsf, ← hse] at K2
  clear h hr k1 k2 hS ht hTe hsf hse
  go_enter Tryz.func14, Tryz.ntmps14
  go_wp2_with fail
  refine (K1.out _ hb1.out).mono ?_
  rintro e w1 ⟨rfl, hb⟩
  have HB1 : Hid (Below w.heap.size w w1) := hb1.out.trans (hb.mono hb1.out.size)
  clear hb
  go_wp2_with fail
  refine (K2.out _ HB1.out).mono ?_
  rintro e w3 ⟨v2, rfl, ho, hb⟩
  obtain ⟨a2, c2, rfl, hd1, hst, hd2, hd3⟩ := ho.form
  have HS4 := Lib.hid hst
  have HB3 : Hid (Below w.heap.size w w3) := HB1.out.trans (hb.mono HB1.out.size)
  clear ho hb hst hd1 hd2 hd3
  go_wp2_with fail
  go_loopg [7, 8] T.length (fun kx s3 s20 wr => ∃ (i : Nat) (vv : Value) (LL : List (List Rk.Sec)), s20 = .int .i64 (i : Int) ∧ vv = s3 ∧ i ≤ T.length ∧ LL.length = i ∧ Hid (Ps (T.take i) LL) ∧ Hid (Lss w3.heap.size wr vv LL) ∧ Hid (Below w.heap.size w wr) ∧ Hid (Below w3.heap.size w3 wr) ∧ T.length ≤ i + kx)
  case atStart => exact ⟨0, _, [], rfl, rfl, Nat.zero_le _, rfl, ⟨rfl, fun i h => (by simp at h)⟩, ⟨[], rfl, World.ownsRow_nil _ _ _ _, fun i u l hu _ => (by simp at hu), fun u hu => (by cases hu)⟩, HB3, Below.refl _ _, by omega⟩
  case round =>
    obtain ⟨i, vv, LL, rfl, hvv, hi9, hlk, HP, HL, HB, HB4, hkx⟩ := hrel
    have hsh : ∃ a c, vv = Value.slice a i c := by
      obtain ⟨vs, hvs⟩ := HL.out
      have := own_slice hvs.own
      rwa [hlk] at this
    obtain ⟨a9, c9, rfl⟩ := hsh
    subst hvv
    by_cases hlt : i < T.length
    · obtain ⟨bb, off, rfl, hbl, hc⟩ := (HS4.out.later HB4.out) i (by rw [bas_len]; exact hlt)
      have e1 : (bas T)[i]'(by rw [bas_len]; exact hlt) = ⟨(T[i]'hlt).toArray⟩ := by simp [bas]
      rw [e1] at hc
      have htl := HTL.out _ (List.getElem_mem hlt)
      obtain ⟨t, hte⟩ : ∃ t, t = (⟨(T[i]'hlt).toArray⟩ : ByteArray) := ⟨_, rfl⟩
      have hts : t.data.toList = T[i]'hlt := by rw [hte]
      rw [← hte] at hc
      have KR := Lib.hid (Tal.refTakeRow_c t wr (by rw [hte]; show (T[i]'hlt).length ≤ _; omega))
      have HTK : Hid (T.take (i + 1) = T.take i ++ [t.data.toList]) := by show _ = _; rw [List.take_succ_eq_append_getElem hlt, hts]
      have HTT : Hid (t.data.toList = T[i]'hlt) := hts
      have j0 : (0 : Int) ≤ (i : Int) := by omega
      have j1 : (i : Int) < (T.length : Int) := by omega
      have hs0 := HB.out.size
      have hs04 := HB4.out.size
      have HNO : Hid (parse t.data.toList = none → ∀ LL, ¬ Ps T LL) := fun hn LL' hp => by
        have := hp.eq i (by rw [hp.len]; exact hlt) hlt
        rw [← HTT.out, hn] at this
        cases this
      clear e1 htl hte hts hbl
      cases ho : Tal.takeRow t.data.toList with
      | none =>
        rw [ho] at KR
        have KR' : Hid (Calls Tryz.prog 44 #[.string t] wr fun e w' => ∃ v, e = .returned (.tuple #[v, .string ⟨#[]⟩, .bool false]) ∧ Below wr.heap.size wr w' ∧ w'.ownsRow wr.heap.size TStr 1 v 0 []) := KR.out
        have HN := Lib.hid (HNO.out (by unfold parse; rw [ho]))
        clear ho KR HNO hkx
        go_wp2_with fail
        refine KR'.out.mono ?_
        rintro e w5 ⟨v, rfl, hb, hv⟩
        obtain ⟨av, cv, rfl⟩ := own_slice hv
        have HB5 : Hid (Below w.heap.size w w5) := HB.out.trans (hb.mono hs0)
        clear hv hb
        go_wp2_with fail
        go_ret2
        exact ⟨HB5.out, .inr ⟨HN.out, rfl⟩⟩
      | some q =>
        obtain ⟨l, r⟩ := q
        by_cases hre : r = []
        · subst hre
          rw [ho] at KR
          have KR' : Hid (Calls Tryz.prog 44 #[.string t] wr fun e w' => ∃ v, e = .returned (.tuple #[v, .string ⟨#[]⟩, .bool true]) ∧ Below wr.heap.size wr w' ∧ w'.ownsRow wr.heap.size TStr 1 v l.length (l.map sv)) := KR.out
          have HPA : Hid (parse t.data.toList = some l) := by show _ = _; unfold parse; rw [ho]
          have HLK := Lib.hid hlk
          clear ho KR HNO hlk
          go_wp2_with fail
          refine KR'.out.mono ?_
          rintro e w5 ⟨v, rfl, hb, hv⟩
          obtain ⟨vs, hvs⟩ := HL.out
          have hlt3 := hvs.own.lt
          have HV5 := Lib.hid (hvs.later hb)
          have G2 : Hid (w5.ownsRow w3.heap.size TLs 1 (.slice a9 i c9) i vs) := by have := HV5.out.own; rwa [HLK.out] at this
          have HB5 : Hid (Below w.heap.size w w5) := HB.out.trans (hb.mono hs0)
          have HB54 : Hid (Below w3.heap.size w3 w5) := HB4.out.trans (hb.mono HB4.out.size)
          have hs5 := HB5.out.size
          have hs54 := HB54.out.size
          have HV : Hid (Ls w5 v l) := ow_ls (base := wr.heap.size) hv
          have hvl := hv.lt
          have HVO := Lib.hid (fun j hj => (⟨Nat.le_trans hs04 (hvl j hj).1, (hvl j hj).2, fun e => by have := (hlt3 j e).2; have := (hvl j hj).1; omega⟩ : w3.heap.size ≤ j ∧ j < w5.heap.size ∧ (Value.slice a9 i c9).ownBlock ≠ some j))
          obtain ⟨a7, c7, rfl⟩ := own_slice hv
          clear hv hb hvs hlt3 KR' HL hc hvl
          go_wp2_with (at_builtin; refine wpList_append_own_at _ rfl _ _ 44 rfl w3.heap.size TLs i0 (.slice none 0 0) 1 24 Tryz.underlying44 hi hz0 hz1 hz2 rfl (by decide) _ _ _ rfl (G2.out.alloc _) ⟨w5.heap.size, 0, none⟩ 1 1 [.slice a7 l.length c7] rfl rfl (one_new' _ _ _) (by simp [Value.oneCell']) (by unfold maxLen; omega) (by omega) (by simp; omega) ?_)
          intro v' w6 hown hgrow hnil hat
          obtain ⟨a8, c8, rfl⟩ := own_slice hown
          have HB6 : Hid (Below w.heap.size w w6) := (HB5.out.alloc hs5 _).grown hgrow (by simp; omega) (fun j hj => Nat.le_trans HB3.out.size (G2.out.lt j hj).1)
          have HB64 : Hid (Below w3.heap.size w3 w6) := (HB54.out.alloc HB54.out.size _).grown hgrow (by have := HB54.out.size; simp; omega) (fun j hj => (G2.out.lt j hj).1)
          have HL6 : Hid (Lss w3.heap.size w6 (.slice a8 (i + 1) c8) (LL ++ [l])) :=
            ⟨_, HV5.out.push HV.out HVO.out (by rw [HLK.out]; exact hown) hgrow (by simpa using hat)⟩
          have HP6 : Hid (Ps (T.take (i + 1)) (LL ++ [l])) := by
            refine ⟨by rw [List.length_append, HP.out.len, HTK.out, List.length_append]; rfl, fun j h1 h2 => ?_⟩
            have hq := HP.out.len
            have hq2 : (T.take i).length = i := by rw [List.length_take]; omega
            by_cases hj : j < i
            · have := HP.out.eq j (by rw [HLK.out]; exact hj) (by omega)
              rw [List.getElem_append_left (by rw [HLK.out]; exact hj), ← this]
              congr 1
              simp only [HTK.out]
              rw [List.getElem_append_left (by omega)]
            · obtain rfl : j = i := by rw [List.length_append, HLK.out] at h1; simp at h1; omega
              have e1 : (LL ++ [l])[j] = l := by rw [List.getElem_append_right (by rw [HLK.out]; omega)]; simp
              rw [e1, ← HPA.out]
              congr 1
              simp only [HTK.out]
              rw [List.getElem_append_right (by omega)]
              simp
          have HL1 : Hid ((LL ++ [l]).length = i + 1) := by show _ = _; rw [List.length_append, HLK.out]; rfl
          clear hown hgrow hnil hat
          go_wp2_with fail
          go_roundg (T.length - (i + 1))
          case measure => omega
          case rel => exact ⟨i + 1, _, _, by simp, rfl, by omega, HL1.out, HP6, HL6, HB6, HB64, by omega⟩
        · rw [ho] at KR
          have he1 : (!r.isEmpty) = true := by cases r with | nil => exact absurd rfl hre | cons => rfl
          have he2 : r.isEmpty = false := by cases r with | nil => exact absurd rfl hre | cons => rfl
          have KR' : Hid (Calls Tryz.prog 44 #[.string t] wr fun e w' => ∃ v, e = .returned (.tuple #[v, .string ⟨r.toArray⟩, .bool true]) ∧ Below wr.heap.size wr w' ∧ w'.ownsRow wr.heap.size TStr 1 v l.length (l.map sv)) := KR.out
          have HN := Lib.hid (HNO.out (by unfold parse; rw [ho]; cases r with | nil => exact absurd rfl hre | cons => rfl))
          clear ho KR HNO hre hkx
          go_wp2_with fail
          refine KR'.out.mono ?_
          rintro e w5 ⟨v, rfl, hb, hv⟩
          obtain ⟨av, cv, rfl⟩ := own_slice hv
          have HB5 : Hid (Below w.heap.size w w5) := HB.out.trans (hb.mono hs0)
          clear hv hb
          go_wp2_with fail
          go_ret2
          exact ⟨HB5.out, .inr ⟨HN.out, rfl⟩⟩
    · obtain rfl : i = T.length := by omega
      have HP9 : Hid (Ps T LL) := by have := HP.out; rwa [List.take_length] at this
      clear hkx hlt hi9 HP
      go_wp2_with fail
      go_ret2
      exact ⟨HB.out, .inl ⟨LL, _, HP9.out, rfl, HL.out.lower HB3.out.size⟩⟩
set_option maxRecDepth 100000 in
set_option maxHeartbeats 1600000 in
theorem rnew06_c (n : Nat) (hn : n ≤ 1000) (w : World) : Calls Tryz.prog 9 #[.int .i64 (n : Int)] w fun e w' => ∃ vA vB, e = .returned (.agg #[vA, vB]) ∧ Lg w.heap.size w' vA vB (List.replicate (n / 2) Rk.zs) (List.replicate (n / 2) Rk.zs) ∧ Below w.heap.size w w' := by
  have KN : Hid (∀ u : World, Calls Tryz.prog 35 #[.int .i64 ((n / 2 : Nat) : Int)] u fun e w' => ∃ v, e = .returned v ∧ Ow u.heap.size w' v (List.replicate (n / 2) Rk.zs) ∧ Below u.heap.size u w') := fun u => rnew_c (n / 2) (by omega) u
  obtain ⟨Z, hZ⟩ : ∃ Z, Z = List.replicate (n / 2) Rk.zs := ⟨_, rfl⟩
  rw [← hZ] at KN ⊢
  clear hZ
  have HB0 : Hid (Below w.heap.size w (w.alloc (.cells #[.slice none 0 0, .slice none 0 0] TLg))) := (Below.refl _ w).alloc (Nat.le_refl _) _
  have HO0 : Hid (Rw (w.alloc (.cells #[.slice none 0 0, .slice none 0 0] TLg)) w.heap.size TLg [.slice none 0 0, .slice none 0 0]) := Rw.new w [.slice none 0 0, .slice none 0 0] TLg
  go_enter Tryz.func9, Tryz.ntmps9
  go_wp2_with fail
  generalize w.alloc (.cells #[.slice none 0 0, .slice none 0 0] TLg) = w0 at *
  rw [show (n : Int) / 2 = ((n / 2 : Nat) : Int) by omega]
  refine (KN.out _).mono ?_
  rintro e w1 ⟨v1, rfl, ho1, hb⟩
  have HB1 : Hid (Below w.heap.size w w1) := HB0.out.trans (hb.mono HB0.out.size)
  have HO1 := Lib.hid (HO0.out.later hb)
  have HL1 : Hid (Ow w.heap.size w1 v1 Z) := ho1.lower HB0.out.size
  obtain ⟨a1, c1, rfl⟩ := own_slice ho1
  clear ho1 hb HO0
  go_wp2_with fail
  rw [show (n : Int) / 2 = ((n / 2 : Nat) : Int) by omega]
  refine (KN.out _).mono ?_
  rintro e w2 ⟨v2, rfl, ho2, hb⟩
  have X2 : Hid (Below w.heap.size w w2) := HB1.out.trans (hb.mono HB1.out.size)
  have HO2 := Lib.hid (HO1.out.later hb)
  have HL2 : Hid (Ow w.heap.size w2 v2 Z) := ho2.lower HB1.out.size
  have HL1' : Hid (Ow w.heap.size w2 (.slice a1 Z.length c1) Z) := HL1.out.later hb
  obtain ⟨a2, c2, rfl⟩ := own_slice ho2
  have o0 : w2.cell? ⟨w.heap.size, 0, none⟩ = some (.slice none 0 0) := HO2.out.cell 0
  have o1 : w2.cell? ⟨w.heap.size, 1, none⟩ = some (.slice none 0 0) := HO2.out.cell 1
  have f0 := HO2.out.frozen 0
  have f1 := HO2.out.frozen 1
  clear ho2 hb HO1 HL1
  go_wp2_with fail
  have HRW : Hid (Rw ((w2.setCell ⟨w.heap.size, 0, none⟩ (.slice a1 Z.length c1)).setCell ⟨w.heap.size, 1, none⟩ (.slice a2 Z.length c2)) w.heap.size TLg [.slice a1 Z.length c1, .slice a2 Z.length c2]) := (HO2.out.setCell 0 _).setCell 1 _
  have HBW : Hid (Below w.heap.size w ((w2.setCell ⟨w.heap.size, 0, none⟩ (.slice a1 Z.length c1)).setCell ⟨w.heap.size, 1, none⟩ (.slice a2 Z.length c2))) := (X2.out.setCell (Nat.le_refl _) _).setCell (Nat.le_refl _) _
  have own : ∀ (v x y : Value), Ow w.heap.size w2 v Z → Ow w.heap.size ((w2.setCell ⟨w.heap.size, 0, none⟩ x).setCell ⟨w.heap.size, 1, none⟩ y) v Z := fun v x y ho =>
    ho.keeps (T := fun j => j = w.heap.size) (((Keeps.refl (fun j => j = w.heap.size) w2).setCell _ 0 _ (.inl rfl)).setCell _ 1 _ (.inl rfl)) fun j hj e => own_type ho HO2.out (by decide) (e ▸ hj)
  have HLG : Hid (Lg w.heap.size ((w2.setCell ⟨w.heap.size, 0, none⟩ (.slice a1 Z.length c1)).setCell ⟨w.heap.size, 1, none⟩ (.slice a2 Z.length c2)) (.slice a1 Z.length c1) (.slice a2 Z.length c2) Z Z) := ⟨own _ _ _ HL1'.out, own _ _ _ HL2.out⟩
  generalize (w2.setCell ⟨w.heap.size, 0, none⟩ (.slice a1 Z.length c1)).setCell ⟨w.heap.size, 1, none⟩ (.slice a2 Z.length c2) = W at HRW HBW HLG ⊢
  have r0 : W.cell? ⟨w.heap.size, 0, none⟩ = some (.slice a1 Z.length c1) := HRW.out.cell 0
  have r1 : W.cell? ⟨w.heap.size, 1, none⟩ = some (.slice a2 Z.length c2) := HRW.out.cell 1
  refine bodyPost_ret (v := .agg #[.slice a1 Z.length c1, .slice a2 Z.length c2]) (by simp [results, Tryz.results9, go_sem, r0, r1]) rfl ?_
  exact ⟨_, _, rfl, HLG.out, HBW.out⟩
theorem bas_inj {x y : List Rk.Sec} (h : bas x = bas y) : x = y := by
  have := congrArg lists h
  rwa [lists_bas, lists_bas] at this
/-- The cell of a list, and what it holds. -/
theorem lss_at {base : Nat} {w : World} {a : Option Addr} {n c : Nat} {LL : List (List Rk.Sec)} {vs : List Value} (h : LssV base w (.slice a n c) LL vs) {i : Nat} (hi : i < LL.length) :
    ∃ g v, g < w.heap.size ∧ a = some ⟨g, 0, none⟩ ∧ w.cell? ⟨g, i, none⟩ = some v ∧ Ls w v LL[i] := by
  have hvl := h.len
  rcases h.own.2 with ⟨e, h0⟩ | ⟨g, cap, cur, e, hg, hb, hn, _⟩
  · rw [h0] at hvl; simp at hvl; omega
  · cases e
    exact ⟨g, vs[i]'(by omega), (Rf.own_cell h.own).1, rfl, (Rf.own_cell h.own).2 i _ (by simp), h.ls i _ _ (by simp) (by simp [hi])⟩
set_option maxRecDepth 100000 in
set_option maxHeartbeats 1600000 in
/-- Two rows of transactions, whether they are the same. -/
theorem same06_c (LL MM : List (List Rk.Sec)) (va vb : Value) (ba bb : Nat) (w : World) (ha : Lss ba w va LL) (hb : Lss bb w vb MM) (hl : LL.length ≤ 100000) (_hm : MM.length ≤ 100000) (hz : ∀ l ∈ LL, l.length ≤ 1000000) (hz' : ∀ l ∈ MM, l.length ≤ 1000000) :
    Calls Tryz.prog 15 #[va, vb] w fun e w' => e = .returned (.bool (decide (LL = MM))) ∧ Below w.heap.size w w' := by
  obtain ⟨vs, ha⟩ := ha
  obtain ⟨ws, hb⟩ := hb
  obtain ⟨a, ca, rfl⟩ := own_slice ha.own
  obtain ⟨b, cb, rfl⟩ := own_slice hb.own
  have HA := Lib.hid ha
  have HB := Lib.hid hb
  have HZ := Lib.hid hz
  have HZ' := Lib.hid hz'
  clear ha hb hz hz'
  by_cases hlen : LL.length = MM.length
  · have hzz : ((LL.length : Int) != (MM.length : Int)) = false := by simp [hlen]
    have HLEN := Lib.hid hlen
    clear hlen
    go_enter Tryz.func15, Tryz.ntmps15
    go_wp2_with fail
    clear hzz
    go_loopg [5] LL.length (fun kx s5 wr => ∃ i : Nat, s5 = .int .i64 (i : Int) ∧ i ≤ LL.length ∧ Hid (LL.take i = MM.take i) ∧ Hid (Below w.heap.size w wr) ∧ LL.length ≤ i + kx)
    case atStart => exact ⟨0, rfl, Nat.zero_le _, (by show _ = _; simp), Below.refl _ _, by omega⟩
    case round =>
      obtain ⟨i, rfl, hi, HT, HW, hkx⟩ := hrel
      by_cases hlt : i < LL.length
      · have hlt2 : i < MM.length := by have := HLEN.out; omega
        have A1 := HA.out.later HW.out
        have B1 := HB.out.later HW.out
        obtain ⟨ga, ra, hga, rfl, hca⟩ := lss_at A1 hlt
        obtain ⟨gb, rb, hgb, rfl, hcb⟩ := lss_at B1 hlt2
        obtain ⟨x, hx⟩ : ∃ x, x = LL[i] := ⟨_, rfl⟩
        obtain ⟨y, hy⟩ : ∃ y, y = MM[i] := ⟨_, rfl⟩
        obtain ⟨Aa, capa, ea, _, hSa, _⟩ := hca.2
        obtain ⟨Ab, capb, eb, _, hSb, _⟩ := hcb.2
        have c1 := hca.1
        have c2 := hcb.1
        rw [ea, ← hx] at c1
        rw [eb, ← hy] at c2
        rw [← hx] at hSa
        rw [← hy] at hSb
        have KS : Hid (Calls Tryz.prog 45 #[.slice Aa x.length capa, .slice Ab y.length capb] wr.drew fun e w' => e = .returned (.bool (decide (x = y))) ∧ Below wr.heap.size wr w') := by
          have h1 := HZ.out x (by rw [hx]; exact List.getElem_mem hlt)
          have h2 := HZ'.out y (by rw [hy]; exact List.getElem_mem hlt2)
          have := Shf.same_c wr.drew Aa Ab capa capb (bas x) (bas y) (hSa.later (Below.refl _ _).drew) (hSb.later (Below.refl _ _).drew) (by rw [bas_len]; omega) (by rw [bas_len]; omega)
          rw [bas_len, bas_len] at this
          have e : decide (bas x = bas y) = decide (x = y) := by
            by_cases h : x = y
            · rw [h]; simp
            · rw [decide_eq_false h, decide_eq_false (fun hh => h (bas_inj hh))]
          rw [e] at this
          exact this.mono fun e w' hq => ⟨hq.1, (Below.refl _ wr).drew.trans hq.2⟩
        obtain ⟨bxy, hbxy⟩ : ∃ q, q = decide (x = y) := ⟨_, rfl⟩
        rw [← hbxy] at KS
        have HBXY := Lib.hid hbxy
        clear hbxy
        have HT1 : Hid (LL.take (i + 1) = LL.take i ++ [x]) := by show _ = _; rw [List.take_succ_eq_append_getElem hlt, ← hx]
        have HT2 : Hid (MM.take (i + 1) = MM.take i ++ [y]) := by show _ = _; rw [List.take_succ_eq_append_getElem hlt2, ← hy]
        have HXY : Hid (x ≠ y → LL ≠ MM) := fun hn e => hn (by rw [hx, hy]; simp only [e])
        have j0 : (0 : Int) ≤ (i : Int) := by omega
        have j1 : (i : Int) < (LL.length : Int) := by omega
        have j2 : (i : Int) < (MM.length : Int) := by omega
        have HGA := Lib.hid hga
        have HGB := Lib.hid hgb
        clear hga hgb hca hcb A1 B1 hx hy ea eb hSa hSb
        go_wp2_with fail
        go_region_held3 (fun u => u.cell? ⟨ga, i, none⟩ = some (.slice Aa x.length capa) ∧ u.cell? ⟨gb, i, none⟩ = some (.slice Ab y.length capb)) (go_keep) ((go_at_call 45; refine KS.out.mono ?_; rintro e w6 ⟨rfl, hb6⟩; have HB6 := Lib.hid hb6; have c1' := (hb6.cell (p := ⟨ga, i, none⟩) HGA.out).trans c1; have c2' := (hb6.cell (p := ⟨gb, i, none⟩) HGB.out).trans c2; clear hb6))
        have HW6 : Hid (Below w.heap.size w w6) := HW.out.trans (HB6.out.mono HW.out.size)
        clear c1 c2 c1' c2'
        cases bxy with
        | true =>
          have hxy : x = y := of_decide_eq_true HBXY.out.symm
          have HT9 : Hid (LL.take (i + 1) = MM.take (i + 1)) := by show _ = _; rw [HT1.out, HT2.out, HT.out, hxy]
          clear hxy
          go_wp2_with fail
          go_roundg (LL.length - (i + 1))
          case measure => omega
          case rel => exact ⟨i + 1, by simp, by omega, HT9, HW6, by omega⟩
        | false =>
          have hxy : ¬ x = y := of_decide_eq_false HBXY.out.symm
          have HN : Hid (decide (LL = MM) = false) := decide_eq_false (HXY.out hxy)
          clear hxy hkx
          go_wp2_with fail
          go_ret
          rw [HN.out]
          exact ⟨rfl, HW6.out⟩
      · obtain rfl : i = LL.length := by omega
        have HE : Hid (decide (LL = MM) = true) := by
          refine decide_eq_true ?_
          have := HT.out
          rw [List.take_length] at this
          rw [this, HLEN.out, List.take_length]
        clear hkx hlt hi
        go_wp2_with fail
        go_ret
        rw [HE.out]
        exact ⟨rfl, HW.out⟩
  · have hzz : ((LL.length : Int) != (MM.length : Int)) = true := by simp; omega
    have HN : Hid (decide (LL = MM) = false) := decide_eq_false fun e => hlen (by rw [e])
    clear hlen
    go_enter Tryz.func15, Tryz.ntmps15
    go_wp2_with fail
    go_ret
    rw [HN.out]
    exact ⟨rfl, Below.refl _ _⟩
end Go.Proofs.YtbbnpcldplmgfaaGreatDoor.Wl
