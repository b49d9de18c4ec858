/- Package plans: the document's Add. -/
import Derived.Test.YtakpoabpgdmneaaPlTied
import Derived.Test.YtakpoabpgdmneaaPlRChk
import Derived.Test.YtakpoabpgdmneaaPlAdd
namespace Go.Proofs.Ytakpoabpgdmneaa.Pl
open Go Go.RowKit Ck Go.Maps
theorem id' {p : Prop} (h : p) : p := h
abbrev TPlans : TypeId := 27
set_option maxRecDepth 100000 in
set_option maxHeartbeats 3200000 in
theorem radd_c {S : Nat → Prop} {w : World} {M : Int → Option Pn} {K : List Int} {Q : List Pf} {va : Option Addr} {vc : Nat} (t : Tied M K Q) (h : Doc S w (.slice va Q.length vc) Q) (x : Pn) (a : Option Addr) (cap : Nat) (hp : PrsS S w a x.ps) (hu : U64 x.id) (hQ : Q.length ≤ 1000000) (hS : ∀ j, w.heap.size ≤ j → S j) :
    Calls Try.prog 9 #[.slice va Q.length vc, x.val a cap] w (RRes S Q.length (addM M x).1 (addM M x).2 w) := by
  have G := Lib.hid t
  have H := Lib.hid h
  have KA : Hid (∀ u, Below w.heap.size w u → Calls Try.prog 24 #[.slice va Q.length vc, .int .u64 x.id] u (AtRes M Q x.id u)) := fun u hu => at_c t (h.later hu) x.id hQ
  have KC : Hid (∀ u, Below w.heap.size w u → Calls Try.prog 20 #[x.val a cap] u fun e w' => e = .returned (.int .i64 (if x.okB = true then 0 else 2)) ∧ Below u.heap.size u w') := fun u h' => rcheck_c x a cap u (hp.1.later h') hu.1
  have HB0 : Hid (Below w.heap.size w (w.alloc (.cells (x.cells a cap).toArray TPlan))) := (Below.refl _ w).alloc (Nat.le_refl _) _
  have RB0 : Hid (Rw (w.alloc (.cells (x.cells a cap).toArray TPlan)) w.heap.size TPlan (x.cells a cap)) := Rw.new w (x.cells a cap) TPlan
  obtain ⟨i0, z0, hi0, hz0, hz1, hz2, hz3⟩ := info_pn
  obtain ⟨R, hR⟩ : ∃ R, R = addM M x := ⟨_, rfl⟩
  rw [← hR]
  unfold addM at hR
  have HP := Lib.hid hp
  have HS := Lib.hid hS
  have HU := Lib.hid hu
  have HX : Hid (∃ p : Pf, p.x = x ∧ p.a = a ∧ p.cap = cap) := ⟨⟨x, a, cap⟩, rfl, rfl, rfl⟩
  cases hok : x.okB with
  | false =>
    rw [if_pos hok] at hR
    rw [hok, if_neg (by decide)] at KC
    subst hR
    clear t h hp hu hS HU HX
    unfold Pn.cells at HB0 RB0
    unfold Pn.val at KC ⊢
    go_enter Try.func9, Try.ntmps9
    go_upto_region 1 with (fail)
    generalize w.alloc (.cells #[.int .u64 x.id, .string x.name, .int .i64 x.every, .slice a x.ps.length cap, .int .i64 x.ret] TPlan) = W0 at HB0 RB0 ⊢
    have q0 : W0.cell? ⟨w.heap.size, 0, none⟩ = some (.int .u64 x.id) := RB0.out.cell 0
    have q1 : W0.cell? ⟨w.heap.size, 1, none⟩ = some (.string x.name) := RB0.out.cell 1
    have q2 : W0.cell? ⟨w.heap.size, 2, none⟩ = some (.int .i64 x.every) := RB0.out.cell 2
    have q3 : W0.cell? ⟨w.heap.size, 3, none⟩ = some (.slice a x.ps.length cap) := RB0.out.cell 3
    have q4 : W0.cell? ⟨w.heap.size, 4, none⟩ = some (.int .i64 x.ret) := RB0.out.cell 4
    go_wp2_with fail
    refine (KC.out _ HB0.out).mono ?_
    rintro _ w1 ⟨rfl, hb1⟩
    clear q0 q1 q2 q3 q4
    go_wp2_with fail
    go_ret2
    exact rres_same G.out H.out (HB0.out.trans (hb1.mono HB0.out.size))
  | true =>
    rw [if_neg (by rw [hok]; decide)] at hR
    rw [hok, if_pos rfl] at KC
    have HOK := Lib.hid hok
    obtain ⟨id, name, every, L, ret⟩ := x
    unfold Pn.cells at HB0 RB0
    unfold Pn.val at KC ⊢
    simp only at KC KA RB0 HB0 hR HP HU ⊢
    have HR := Lib.hid hR
    clear t h hp hu hS hok hR HX
    go_enter Try.func9, Try.ntmps9
    go_upto_region 1 with (fail)
    generalize w.alloc (.cells #[.int .u64 id, .string name, .int .i64 every, .slice a L.length cap, .int .i64 ret] TPlan) = W0 at HB0 RB0 ⊢
    obtain ⟨bx, hbx⟩ : ∃ bx, bx = w.heap.size := ⟨_, rfl⟩
    rw [← hbx] at RB0 ⊢
    clear hbx
    have q0 : W0.cell? ⟨bx, 0, none⟩ = some (.int .u64 id) := RB0.out.cell 0
    have q1 : W0.cell? ⟨bx, 1, none⟩ = some (.string name) := RB0.out.cell 1
    have q2 : W0.cell? ⟨bx, 2, none⟩ = some (.int .i64 every) := RB0.out.cell 2
    have q3 : W0.cell? ⟨bx, 3, none⟩ = some (.slice a L.length cap) := RB0.out.cell 3
    have q4 : W0.cell? ⟨bx, 4, none⟩ = some (.int .i64 ret) := RB0.out.cell 4
    go_wp2_with fail
    refine (KC.out _ HB0.out).mono ?_
    rintro _ w1 ⟨rfl, hb1⟩
    have HB1 : Hid (Below w.heap.size w w1) := HB0.out.trans (hb1.mono HB0.out.size)
    have RB1 := Lib.hid (RB0.out.later hb1)
    clear hb1 q0 q1 q2 q3 q4 KC HB0 RB0
    have q0 : w1.cell? ⟨bx, 0, none⟩ = some (.int .u64 id) := RB1.out.cell 0
    go_wp2_with fail
    refine (KA.out _ HB1.out).mono ?_
    rintro _ _ ⟨rfl, z, rfl, hz⟩
    rcases hz with ⟨rfl, hm⟩ | ⟨i, hi, hm, hid, rfl⟩
    · have HR2 : Hid (R = (upd M id ⟨id, name, every, L, ret⟩, 0)) := by
        show _ = _
        rw [HR.out, hm]
        rfl
      have HT := Lib.hid (G.out.add (p := ⟨⟨id, name, every, L, ret⟩, a, cap⟩) hm HOK.out HU.out)
      clear HR hm KA
      obtain ⟨KQ, hKQ⟩ : ∃ KQ, KQ = K := ⟨_, rfl⟩
      have HLEN : Hid (Q.length = K.length) := G.out.len
      have HKEY : Hid (∀ i (h : i < Q.length), Q[i].x.id = K[i]'(by rw [← HLEN.out]; exact h)) := fun i h => G.out.key h
      clear q0
      go_upto_region 5 with (fail)
      go_cut [6] (fun s6 wx => s6 = .int .i64 0 ∧ w1 = wx)
      case first =>
        go_wp2_with fail
        go_meet
        exact ⟨rfl, rfl⟩
      obtain ⟨rfl, rfl⟩ := hcut
      rename_i hKK
      apply hKK
      refine wp_seq_k (fun K5 hK5 => ?_)
      go_cut [6] (fun s6 wx => s6 = .int .i64 (place' K id : Int) ∧ Hid (Below w1.heap.size w1 wx))
      case first =>
        clear HT HR2 hi0 hz0 hz1 hz2 hz3
        go_wp2_with fail
        go_loopg [6] Q.length (fun kx s6 wr => ∃ i : Nat, s6 = .int .i64 (i : Int) ∧ i ≤ Q.length ∧ Hid (Below w1.heap.size w1 wr) ∧ Hid (∀ j (h : j < Q.length), j < i → Q[j].x.id < id) ∧ Q.length ≤ i + kx)
        case atStart => exact ⟨0, rfl, Nat.zero_le _, Below.refl _ _, fun j _ hj => by omega, by omega⟩
        case round =>
          obtain ⟨i, rfl, hi9, HW, HJ, hkx⟩ := hrel
          have hKJ : Hid (∀ j (h : j < K.length), j < i → K[j] < id) := fun j h hj => by
            have h' : j < Q.length := by rw [HLEN.out]; exact h
            have := HJ.out j h' hj
            rw [HKEY.out j h'] at this
            exact this
          have b0 : wr.cell? ⟨bx, 0, none⟩ = some (.int .u64 id) := (RB1.out.later HW.out).cell 0
          by_cases hlt : i < Q.length
          · obtain ⟨g, gc, hv, hf⟩ := (H.out.later (HB1.out.trans (HW.out.mono HB1.out.size))).five hlt
            obtain ⟨rfl, rfl⟩ : va = some ⟨g, 0, none⟩ ∧ vc = gc := by simpa using hv
            have c0 := hf.c0
            have j0 : (0 : Int) ≤ (i : Int) := by omega
            have j1 : (i : Int) < (Q.length : Int) := by omega
            have HKI := Lib.hid (HKEY.out i hlt)
            obtain ⟨k, hk⟩ : ∃ k, k = Q[i].x.id := ⟨_, rfl⟩
            rw [← hk] at c0 HKI
            have HKK := Lib.hid hk
            have HLT := Lib.hid hlt
            clear hf hv hk
            by_cases hkc : k < id
            · have HJ2 : Hid (∀ j (h : j < Q.length), j < i + 1 → Q[j].x.id < id) := fun j hj hji => by
                by_cases e : j = i
                · subst e; rw [← HKK.out]; exact hkc
                · exact HJ.out j hj (by omega)
              clear HJ hKJ
              go_wp2_with fail
              go_quiet (fail)
              go_wp2_with fail
              go_roundg (Q.length - (i + 1))
              case measure => omega
              case rel => exact ⟨i + 1, by simp, by omega, below_drewN HW.out _, HJ2, by omega⟩
            · have hpl : Hid (i = place' K id) := place_eq hKJ.out (by rw [← HLEN.out]; exact hi9) fun h => by rw [← HKI.out]; exact hkc
              have hd : decide (k < id) = false := decide_eq_false hkc
              clear hkc HJ hKJ
              go_wp2_with fail
              go_quiet (fail)
              go_wp2_with fail
              go_meet
              exact ⟨by rw [hpl.out], below_drewN HW.out _⟩
          · have hpl : Hid (i = place' K id) := place_eq hKJ.out (by rw [← HLEN.out]; exact hi9) fun h => absurd (by rw [HLEN.out]; exact h) hlt
            have hd : decide ((i : Int) < (Q.length : Int)) = false := decide_eq_false (by omega)
            clear HJ hKJ
            go_wp2_with fail
            go_quiet (fail)
            go_wp2_with fail
            go_meet
            exact ⟨by rw [hpl.out], below_drewN HW.out _⟩
      obtain ⟨rfl, HW⟩ := hcut
      apply hK5
      clear hK5 hKK
      have HB2 : Hid (Below w.heap.size w wc) := HB1.out.trans (HW.out.mono HB1.out.size)
      have RB2 := Lib.hid (RB1.out.later HW.out)
      clear HB1 RB1 HW HKEY
      obtain ⟨W1, rfl⟩ : ∃ W1, W1 = wc := ⟨_, rfl⟩
      have hpl : place' K id ≤ Q.length := by rw [HLEN.out]; exact place_le K id
      have HPL := Lib.hid hpl
      have HT2 : Hid (Tied (upd M id ⟨id, name, every, L, ret⟩) (ins K (place' K id) id) (Q.take (place' K id) ++ ⟨⟨id, name, every, L, ret⟩, a, cap⟩ :: Q.drop (place' K id))) := HT.out
      clear HT
      obtain ⟨i, hi⟩ : ∃ i, i = place' K id := ⟨_, rfl⟩
      rw [← hi] at hpl HPL HT2 ⊢
      clear hi
      have hs1 : w.heap.size ≤ W1.heap.size := HB2.out.size
      have HA1 := Lib.hid (own_later H.out.own HB2.out)
      have HFIN : Hid (∀ (v' : Value) (w' : World), w'.ownsRow w.heap.size TPlan 5 v' (i + 1 + (Q.length - i)) (flatN (Q.take i) ++ [.int .u64 id, .string name, .int .i64 every, .slice a L.length cap, .int .i64 ret] ++ flatN (Q.drop i)) → Below w.heap.size w w' → RRes S Q.length R.1 R.2 w (.returned (.tuple #[v', .int .i64 0])) w') := fun v' w' ho hb => by
        rw [HR2.out]
        obtain ⟨a', c', rfl⟩ := own_slice ho
        have e1 : (Q.take i ++ (⟨⟨id, name, every, L, ret⟩, a, cap⟩ : Pf) :: Q.drop i).length = i + 1 + (Q.length - i) := by
          rw [List.length_append, List.length_cons, List.length_take, List.length_drop, Nat.min_eq_left HPL.out]; omega
        have e2 : flatN (Q.take i ++ (⟨⟨id, name, every, L, ret⟩, a, cap⟩ : Pf) :: Q.drop i) = flatN (Q.take i) ++ [.int .u64 id, .string name, .int .i64 every, .slice a L.length cap, .int .i64 ret] ++ flatN (Q.drop i) := by
          rw [flatN_app, flatN_cons, List.append_assoc]; rfl
        refine ⟨a', c', _, _, by rw [e1], HT2.out, ⟨by rw [e1, e2]; exact own_lower ho (Nat.zero_le _), fun j hj => ?_, fun p hp => ?_⟩, hb, by rw [e1]; have := HPL.out; omega⟩
        · refine HS.out j (ho.lt j ?_).1
          cases a' with
          | none => cases hj
          | some b => exact hj
        · have h1 : p = ⟨⟨id, name, every, L, ret⟩, a, cap⟩ ∨ p ∈ Q := by
            rcases List.mem_append.1 hp with h | h
            · exact .inr (List.mem_of_mem_take h)
            · rcases List.mem_cons.1 h with h | h
              · exact .inl h
              · exact .inr (List.mem_of_mem_drop h)
          rcases h1 with rfl | h1
          · exact HP.out.keeps (Keeps.of (fun _ => False) hb) fun _ _ _ h => h
          · exact (H.out.later hb).prs p h1
      clear HT2 HR2
      have LT : Hid (flatN (Q.take i) = (flatN Q).take (i * 5)) := flatN_take Q i hpl
      have LD : Hid (flatN (Q.drop i) = (flatN Q).drop (i * 5)) := flatN_drop Q i hpl
      rcases id' H.out.own.2 with ⟨hv0, h0⟩ | ⟨g, gcap, cur, hv, hg1, hg2, hg3, _⟩
      · obtain ⟨rfl, hKL, rfl⟩ : va = none ∧ Q.length = 0 ∧ vc = 0 := by simpa using hv0
        have hi0' : i = 0 := by omega
        have HL0 : Hid (flatN (Q.take i) = [] ∧ flatN (Q.drop i) = [] ∧ i = 0 ∧ Q.length = 0) := by
          have : Q = [] := List.length_eq_zero_iff.1 hKL
          show _ ∧ _ ∧ _ ∧ _
          refine ⟨?_, ?_, hi0', hKL⟩ <;> rw [this] <;> simp [flatN]
        rw [hKL, hi0']
        clear hv0 h0 hpl
        go_upto_region 8 with (fail)
        go_wp2_with (at_builtin; refine wpList_append_any rfl _ _ TPlans rfl w.heap.size TPlan i0 z0 5 64 Try.underlying27 hi0 hz0 hz1 hz2 hz3 (by decide) _ 0 [] rfl (own_zero _ _ _ _ hs1) _ 0 0 [] rfl (.inl ⟨rfl, rfl, rfl, rfl⟩) (by simp) (by unfold maxLen; omega) (by omega) (by simp; omega) ?_)
        intro v1 w1 hown1 hg1 hat1
        have HB3 : Hid (Below w.heap.size w w1) := (HB2.out.alloc hs1 _).grown hg1 (by simp; omega) (fun j hj => by cases hj; exact hs1)
        have HK2 : Hid (Below W1.heap.size W1 w1) := ((Below.refl _ W1).alloc (Nat.le_refl _) _).grown hg1 (by simp) (fun j hj => by cases hj; exact Nat.le_refl _)
        have RB3 := Lib.hid (RB2.out.later HK2.out)
        obtain ⟨a1, c1, rfl⟩ := own_slice hown1
        have HO1 := Lib.hid hown1
        have hs2 : w.heap.size ≤ w1.heap.size := HB3.out.size
        have b0 : w1.cell? ⟨bx, 0, none⟩ = some (.int .u64 id) := (RB3.out).cell 0
        have b1 : w1.cell? ⟨bx, 1, none⟩ = some (.string name) := (RB3.out).cell 1
        have b2 : w1.cell? ⟨bx, 2, none⟩ = some (.int .i64 every) := (RB3.out).cell 2
        have b3 : w1.cell? ⟨bx, 3, none⟩ = some (.slice a L.length cap) := (RB3.out).cell 3
        have b4 : w1.cell? ⟨bx, 4, none⟩ = some (.int .i64 ret) := (RB3.out).cell 4
        clear hown1 hg1 hat1 HB2 RB2 HA1
        go_wp2_with (at_builtin; refine wpList_append_own_at _ rfl _ _ TPlans rfl w.heap.size TPlan i0 z0 5 64 Try.underlying27 hi0 hz0 hz1 hz2 hz3 (by decide) _ _ _ rfl (HO1.out.alloc _) ⟨w1.heap.size, 0, none⟩ 1 1 [.int .u64 id, .string name, .int .i64 every, .slice a L.length cap, .int .i64 ret] rfl rfl (new_plan _ ⟨⟨id, name, every, L, ret⟩, a, cap⟩) (by simp [Value.oneCell']) (by unfold maxLen; omega) (by omega) (by simp; omega) ?_)
        intro v2 w2 hown2 hg2 hnil2 hat2
        have HB4 : Hid (Below w.heap.size w w2) := (HB3.out.alloc hs2 _).grown hg2 (by simp; omega) (fun j hj => (HO1.out.lt j hj).1)
        obtain ⟨a2, c2, rfl⟩ := own_slice hown2
        have HO2 := Lib.hid hown2
        have hs3 : w.heap.size ≤ w2.heap.size := HB4.out.size
        clear hown2 hg2 hat2 hnil2 b0 b1 b2 b3 b4 HB3 RB3 HK2
        go_wp2_with (at_builtin; refine wpList_append_any rfl _ _ TPlans rfl w.heap.size TPlan i0 z0 5 64 Try.underlying27 hi0 hz0 hz1 hz2 hz3 (by decide) _ _ _ rfl HO2.out _ _ _ [] rfl (.inl ⟨rfl, rfl, rfl, rfl⟩) (by simp) (by unfold maxLen; omega) (by omega) hs3 ?_)
        intro v3 w3 hown3 hg3 hat3
        have HO3 := Lib.hid hown3
        have HG3 := Lib.hid hg3
        clear hown3 hg3 hat3
        obtain ⟨a3, c3, rfl⟩ := own_slice HO3.out
        go_wp2_with fail
        go_ret2
        refine HFIN.out _ _ ?_ (HB4.out.grown HG3.out hs3 fun j hj => (HO2.out.lt j hj).1)
        rw [HL0.out.1, HL0.out.2.1, HL0.out.2.2.1, HL0.out.2.2.2]
        simpa using HO3.out
      · obtain ⟨rfl, rfl⟩ : va = some ⟨g, 0, none⟩ ∧ vc = gcap := by simpa using hv
        clear hv hg2
        obtain ⟨_, hgl, hrd⟩ := own_read HA1.out
        have HG := Lib.hid hgl
        have HRD : Hid (∀ j u, (flatN Q)[j]? = some u → W1.cell? ⟨g, j, none⟩ = some u) := hrd
        clear hgl hrd
        have q0 : (0 : Int) ≤ (i : Int) := by omega
        have q1 : (i : Int) ≤ (Q.length : Int) := by omega
        have q2 : (i : Int) ≤ (vc : Int) := by omega
        have q3 : (Q.length : Int) ≤ (vc : Int) := by omega
        go_upto_region 8 with (fail)
        go_wp2_with (at_builtin; refine wpList_append_any rfl _ _ TPlans rfl w.heap.size TPlan i0 z0 5 64 Try.underlying27 hi0 hz0 hz1 hz2 hz3 (by decide) _ 0 [] rfl (own_zero _ _ _ _ hs1) _ i vc (flatN (Q.take i)) rfl (.inr ⟨_, rfl, ?len1, ?rd1⟩) (flatN_one _) (by unfold maxLen; omega) (by omega) (by simp; omega) ?_)
        case len1 => rw [flatN_len, List.length_take, Nat.min_eq_left HPL.out]
        case rd1 =>
          intro j u hu
          rw [LT.out] at hu
          have hj := (List.getElem?_eq_some_iff.1 hu).1
          rw [List.length_take] at hj
          rw [List.getElem?_take_of_lt (by omega)] at hu
          rw [Go.WideShapes.add_plain, Nat.zero_add, (((Below.refl W1.heap.size W1).alloc (Nat.le_refl _) _).cell (p := ⟨g, j, none⟩) (by simpa using HG.out))]
          exact HRD.out j u hu
        intro v1 w1 hown1 hg1 hat1
        have HB3 : Hid (Below w.heap.size w w1) := (HB2.out.alloc hs1 _).grown hg1 (by simp; omega) (fun j hj => by cases hj; exact hs1)
        have HK2 : Hid (Below W1.heap.size W1 w1) := ((Below.refl _ W1).alloc (Nat.le_refl _) _).grown hg1 (by simp) (fun j hj => by cases hj; exact Nat.le_refl _)
        have RB3 := Lib.hid (RB2.out.later HK2.out)
        obtain ⟨a1, c1, rfl⟩ := own_slice hown1
        have HO1 := Lib.hid hown1
        have hs2 : w.heap.size ≤ w1.heap.size := HB3.out.size
        have b0 : w1.cell? ⟨bx, 0, none⟩ = some (.int .u64 id) := (RB3.out).cell 0
        have b1 : w1.cell? ⟨bx, 1, none⟩ = some (.string name) := (RB3.out).cell 1
        have b2 : w1.cell? ⟨bx, 2, none⟩ = some (.int .i64 every) := (RB3.out).cell 2
        have b3 : w1.cell? ⟨bx, 3, none⟩ = some (.slice a L.length cap) := (RB3.out).cell 3
        have b4 : w1.cell? ⟨bx, 4, none⟩ = some (.int .i64 ret) := (RB3.out).cell 4
        clear hown1 hg1 hat1 HRD HG HB2 RB2 HA1
        go_wp2_with (at_builtin; refine wpList_append_own_at _ rfl _ _ TPlans rfl w.heap.size TPlan i0 z0 5 64 Try.underlying27 hi0 hz0 hz1 hz2 hz3 (by decide) _ _ _ rfl (HO1.out.alloc _) ⟨w1.heap.size, 0, none⟩ 1 1 [.int .u64 id, .string name, .int .i64 every, .slice a L.length cap, .int .i64 ret] rfl rfl (new_plan _ ⟨⟨id, name, every, L, ret⟩, a, cap⟩) (by simp [Value.oneCell']) (by unfold maxLen; omega) (by omega) (by simp; omega) ?_)
        intro v2 w2 hown2 hg2 hnil2 hat2
        have HB4 : Hid (Below w.heap.size w w2) := (HB3.out.alloc hs2 _).grown hg2 (by simp; omega) (fun j hj => (HO1.out.lt j hj).1)
        obtain ⟨a2, c2, rfl⟩ := own_slice hown2
        have HO2 := Lib.hid hown2
        have hs3 : w.heap.size ≤ w2.heap.size := HB4.out.size
        obtain ⟨_, hgl, hrd⟩ := own_read (own_later H.out.own HB4.out)
        have HRD : Hid (∀ j u, (flatN Q)[j]? = some u → w2.cell? ⟨g, j, none⟩ = some u) := hrd
        clear hgl hrd hown2 hg2 hat2 hnil2 b0 b1 b2 b3 b4 HB3 RB3 HK2
        by_cases hvi : vc = i
        · have hKi : Q.length - i = 0 := by omega
          have LD0 : flatN (Q.drop i) = [] := by
            have : Q.drop i = [] := List.drop_eq_nil_of_le (by omega)
            rw [this]; rfl
          have HL0 := Lib.hid LD0
          have HKi := Lib.hid hKi
          clear LD0
          go_wp2_with (at_builtin; refine wpList_append_any rfl _ _ TPlans rfl w.heap.size TPlan i0 z0 5 64 Try.underlying27 hi0 hz0 hz1 hz2 hz3 (by decide) _ _ _ rfl HO2.out _ _ _ [] rfl (.inr ⟨_, rfl, ?len3, ?rd3⟩) (by simp) (by unfold maxLen; omega) (by omega) hs3 ?_)
          case len3 => simp
          case rd3 =>
            intro j u hu
            cases hu
          intro v3 w3 hown3 hg3 hat3
          have HO3 := Lib.hid hown3
          have HG3 := Lib.hid hg3
          clear hown3 hg3 hat3
          obtain ⟨a3, c3, rfl⟩ := own_slice HO3.out
          go_wp2_with fail
          go_ret2
          refine HFIN.out _ _ ?_ (HB4.out.grown HG3.out hs3 fun j hj => (HO2.out.lt j hj).1)
          rw [HL0.out, HKi.out]
          simpa using HO3.out
        · have hvi' : (vc - i == 0) = false := by simp; omega
          go_wp2_with (at_builtin; refine wpList_append_any rfl _ _ TPlans rfl w.heap.size TPlan i0 z0 5 64 Try.underlying27 hi0 hz0 hz1 hz2 hz3 (by decide) _ _ _ rfl HO2.out _ (Q.length - i) _ (flatN (Q.drop i)) rfl (.inr ⟨_, rfl, ?len3, ?rd3⟩) (flatN_one _) (by unfold maxLen; omega) (by omega) hs3 ?_)
          case len3 => rw [flatN_len, List.length_drop]
          case rd3 =>
            intro j u hu
            rw [LD.out] at hu
            rw [List.getElem?_drop] at hu
            try rw [Go.WideShapes.add_plain]
            have := HRD.out _ u hu
            simpa using this
          intro v3 w3 hown3 hg3 hat3
          have HO3 := Lib.hid hown3
          have HG3 := Lib.hid hg3
          clear hown3 hg3 hat3
          obtain ⟨a3, c3, rfl⟩ := own_slice HO3.out
          go_wp2_with fail
          go_ret2
          refine HFIN.out _ _ ?_ (HB4.out.grown HG3.out hs3 fun j hj => (HO2.out.lt j hj).1)
          simpa using HO3.out
    · have HR2 : Hid (R = (M, 8)) := by
        show _ = _
        rw [HR.out, hm]
        rfl
      clear HR KA HOK HU hm hid
      have z0' : (0 : Int) ≤ (i : Int) := by omega
      go_wp2_with fail
      go_ret2
      rw [HR2.out]
      exact rres_same G.out H.out HB1.out
end Go.Proofs.Ytakpoabpgdmneaa.Pl
