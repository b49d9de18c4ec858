/- ChartTree. -/
import Derived.Test.YtialclecoamobaaChTells
import Derived.Deep.RegionHeld3
namespace Go.Proofs.Ytialclecoamobaa.Ch
open Go Go.RowKit Ck Go.Maps
section
variable {M : Int → Option Acc} {K : List Int}
theorem Gm.alike (g : Gm M K) {u : Int} {q : Acc} (hu : M u = some q) : ∀ b p, M b = some p → und M u b = true → p.cls = q.cls ∧ (q.shut = true → p.shut = true) := by
  refine fun b p hb => g.wd.induct (fun b => ∀ p, M b = some p → und M u b = true → p.cls = q.cls ∧ (q.shut = true → p.shut = true)) ?_ b p hb p hb
  intro b p hb ih p' hp' ht
  rw [hb] at hp'
  cases hp'
  rw [g.wd.step hb] at ht
  by_cases e : b = u
  · subst e; rw [hb] at hu; cases hu; exact ⟨rfl, id⟩
  · simp only [e, decide_false, Bool.false_or] at ht
    have hs := und_some' ht
    cases hm : M p.up with
    | none => rw [hm] at hs; cases hs
    | some r =>
      obtain ⟨h1, h2⟩ := ih r hm r hm ht
      exact ⟨(g.cls b p r hb hm).symm.trans h1, fun h => g.shut b p r hb hm (h2 h)⟩
theorem undL_up (h : Up K) (k : Int) : Up (undL M K k) := List.Pairwise.filter _ h
theorem Gm.upI (g : Gm M K) {b : Int} {p : Acc} (hb : M b = some p) : I64 p.up := by
  rcases g.wd.up b p hb with e | ⟨q, e1, _⟩
  · rw [e]; unfold I64; decide
  · have := g.wd.code _ q e1; unfold I64; omega
theorem Gm.codeI (g : Gm M K) {b : Int} {p : Acc} (hb : M b = some p) : I64 b := by
  have := g.wd.code _ p hb; unfold I64; omega
theorem sm_take {L : List Int} {k : Nat} (hk : k < L.length) (f : Int → Nat) : sm (L.take (k + 1)) f = sm (L.take k) f + f L[k] := by
  unfold sm
  rw [List.take_succ_eq_append_getElem hk, List.map_append, List.sum_append]
  simp
theorem und_le (k : Int) (h : K.length ≤ 9999) : (undL M K k).length ≤ 9999 := Nat.le_trans (List.length_filter_le _ _) h
theorem mem_und {k b : Int} : b ∈ undL M K k ↔ b ∈ K ∧ und M k b = true := List.mem_filter
end
set_option maxRecDepth 100000 in
set_option maxHeartbeats 12800000 in
theorem tree_law (A : List Ta) (a : Option Addr) (cap : Nat) (w : World) (hA : Tas w a A) (hf : ∀ x ∈ A, x.a.Fits) (hl : A.length ≤ maxLen) :
    Calls Try.prog 4 #[.slice a A.length cap] w fun e w' => e = .returned (.bool true) ∧ Below w.heap.size w w' := by
  have HA := Lib.hid hA
  have HF := Lib.hid hf
  have HL := Lib.hid hl
  clear hA hf hl
  go_enter Try.func4, Try.ntmps4
  go_wp2_with fail
  refine (ct_new w).mono ?_
  rintro e w1 ⟨c, rfl, h1, l1⟩
  have H1 := Lib.hid h1
  have B1 : Hid (Below w.heap.size w w1) := l1.b
  clear h1 l1
  go_upto_region 2 with (fail)
  go_cut [4] (fun s4 wx => s4 = .int .i64 0 ∧ w1 = wx)
  case first =>
    go_wp2_with fail
    go_meet
    exact ⟨rfl, rfl⟩
  obtain ⟨rfl, rfl⟩ := hcut
  rename_i K5 hK5 K4 hK4
  apply hK4
  go_cut [4] (fun s4 wx => ∃ (M : Int → Option Acc) (K : List Int) (N : Nat), Hid (Ct w.heap.size wx c M K N) ∧ Hid (Below w.heap.size w wx))
  case first =>
   go_wp2_with fail
   go_loopg [4] 40 (fun kx s4 wr => ∃ (i N : Nat) (M : Int → Option Acc) (K : List Int), s4 = .int .i64 (i : Int) ∧ i ≤ 40 ∧ i ≤ A.length ∧ N ≤ i ∧ Hid (Ct w.heap.size wr c M K N) ∧ Hid (Below w.heap.size w wr) ∧ 40 ≤ i + kx)
   case atStart => exact ⟨0, 0, _, [], rfl, by omega, Nat.zero_le _, Nat.le_refl _, H1, B1, by omega⟩
   case round =>
     obtain ⟨i, N, M, K, rfl, hi40, hiA, hN, HCt, HB, hkx⟩ := hrel
     by_cases hgo : i < A.length ∧ i < 40
     · obtain ⟨hlt, hlt40⟩ := hgo
       obtain ⟨ab, ao, rfl, _, hc⟩ := (HA.out.later HB.out (Nat.le_refl _)) i hlt
       obtain ⟨y, hy⟩ : ∃ y, y = A[i] := ⟨_, rfl⟩
       have hyf := HF.out A[i] (List.getElem_mem hlt)
       rw [← hy] at hc hyf
       have c0 : wr.cell? ⟨ab, ao + i * 6, none⟩ = some (.bool y.what) := hc 0 _ rfl
       have c1 : wr.cell? ⟨ab, ao + i * 6 + 1, none⟩ = some (.int .i64 y.a.code) := hc 1 _ rfl
       have c2 : wr.cell? ⟨ab, ao + i * 6 + 1 + 1, none⟩ = some (.int .i64 y.a.up) := hc 2 _ rfl
       have c3 : wr.cell? ⟨ab, ao + i * 6 + 1 + 2, none⟩ = some (.int .u8 y.a.cls) := hc 3 _ rfl
       have c4 : wr.cell? ⟨ab, ao + i * 6 + 1 + 3, none⟩ = some (.string y.a.name) := hc 4 _ rfl
       have c5 : wr.cell? ⟨ab, ao + i * 6 + 1 + 4, none⟩ = some (.bool y.a.shut) := hc 5 _ rfl
       have HY := Lib.hid hyf
       have HN9 : Hid (N ≤ 400000) := by show _ ≤ _; omega
       have HN1 : Hid (N + 1 ≤ i + 1) := by show _ ≤ _; omega
       have HLT := Lib.hid hlt
       have HLT40 := Lib.hid hlt40
       have HKX := Lib.hid hkx
       have j0 : (0 : Int) ≤ (i : Int) := by omega
       have j1 : (i : Int) < (A.length : Int) := by omega
       have j2 : (i : Int) < 40 := by omega
       have hx9 := HY.out.name
       clear hc hy hyf hN hiA hi40 hkx hlt hlt40
       obtain ⟨what, xa, xb, xc, xs, xd⟩ := y
       simp only at c0 c1 c2 c3 c4 c5 HY hx9
       by_cases h200 : 200 < xs.size
       · have h2 : (200 : Int) < (xs.size : Int) := by omega
         clear h200 hx9
         go_wp2_with fail
         refine (head_c _).mono ?_
         rintro e w2 ⟨rfl, hb⟩
         go_wp2_with fail
         go_ret
         exact ⟨rfl, HB.out.trans (hb.mono HB.out.size)⟩
       have h2 : ¬ (200 : Int) < (xs.size : Int) := by omega
       clear h200 hx9
       cases what with
       | true =>
         have KC := Lib.hid (ct_shut HCt.out HB.out.size xa HY.out.code HN9.out)
         go_wp2_with fail
         refine KC.out.mono ?_
         rintro e w3 ⟨rfl, ⟨K9, h9⟩, l9⟩
         have B10 : Hid (Below w.heap.size w w3) := HB.out.trans l9.b
         have C10 := Lib.hid h9
         clear h9 l9 KC
         go_wp2_with fail
         go_roundg (40 - (i + 1))
         case measure => have := HLT40.out; have := HKX.out; omega
         case rel => have h1 := HLT.out; have h2 := HLT40.out; exact ⟨i + 1, N + 1, _, K9, by simp, by omega, by omega, HN1.out, C10, B10, by omega⟩
       | false =>
         have KC := Lib.hid (ct_add HCt.out HB.out.size ⟨xa, xb, xc, xs, xd⟩ HY.out HN9.out)
         unfold A5.val at KC
         simp only at KC
         go_wp2_with fail
         refine KC.out.mono ?_
         rintro e w3 ⟨rfl, ⟨K9, h9⟩, l9⟩
         have B10 : Hid (Below w.heap.size w w3) := HB.out.trans l9.b
         have C10 := Lib.hid h9
         clear h9 l9 KC
         go_wp2_with fail
         go_roundg (40 - (i + 1))
         case measure => have := HLT40.out; have := HKX.out; omega
         case rel => have h1 := HLT.out; have h2 := HLT40.out; exact ⟨i + 1, N + 1, _, K9, by simp, by omega, by omega, HN1.out, C10, B10, by omega⟩
     · have hout : ((i : Int) < (A.length : Int) ∧ ¬ (i : Int) < 40) ∨ ¬ (i : Int) < (A.length : Int) := by omega
       clear hgo hi40 hiA hN hkx
       rcases hout with ⟨o1, o2⟩ | o1 <;> (go_wp2_with (fail)) <;> go_meet <;> exact ⟨M, K, N, HCt, HB⟩
  obtain ⟨M, K, N, HCt, HB⟩ := hcut
  rename_i wr
  apply hK5
  clear hK5 hK4 HA HF HL H1 B1
  have G := Lib.hid HCt.out.gm
  have hK9 := HCt.out.few
  have KALL := Lib.hid (ct_all HCt.out)
  unfold AccsRes at KALL
  go_wp2_with fail
  refine KALL.out.mono ?_
  rintro e w2 ⟨v, rfl, hv, hb⟩
  obtain ⟨va, vc, rfl, hva, _⟩ := acs_own hv rfl
  rw [lst_len]
  have HAC := Lib.hid hva
  have C2 := Lib.hid (HCt.out.later hb)
  have B2 : Hid (Below w.heap.size w w2) := HB.out.trans (hb.mono HB.out.size)
  have hsz : Hid (w.heap.size ≤ w2.heap.size) := B2.out.size
  have KUN : Hid (∀ k u, I64 k → Below w2.heap.size w2 u → Calls Try.prog 16 #[.pointer (some ⟨c, 0, none⟩), .int .i64 k] u (IntsRes (undL M K k) u)) := fun k u hk hu => ct_under (C2.out.later hu) k hk
  have KGE : Hid (∀ k u, I64 k → Below w2.heap.size w2 u → Calls Try.prog 17 #[.pointer (some ⟨c, 0, none⟩), .int .i64 k] u fun e w' => e = .returned (.tuple #[(getM M k).1.val, .int .i64 (getM M k).2]) ∧ Below u.heap.size u w') := fun k u hk hu => ct_get (C2.out.later hu) k hk
  have KLE : Hid (∀ k u, I64 k → Below w2.heap.size w2 u → Calls Try.prog 19 #[.pointer (some ⟨c, 0, none⟩), .int .i64 k] u fun e w' => e = .returned (.bool (leafM M k)) ∧ Below u.heap.size u w') := fun k u hk hu => ct_leaf (C2.out.later hu) k hk
  clear hv hva hb KALL HCt HB C2
  go_wp2_with fail
  go_loopg [6] K.length (fun kx s6 wr => ∃ (i : Nat), s6 = .int .i64 (i : Int) ∧ i ≤ K.length ∧ Hid (Below w2.heap.size w2 wr) ∧ K.length ≤ i + kx)
  case atStart => exact ⟨0, rfl, Nat.zero_le _, Below.refl _ _, by omega⟩
  case round =>
    obtain ⟨i, rfl, hi9, HB, hkx⟩ := hrel
    by_cases hlt : i < K.length
    · obtain ⟨ab, ao, p, rfl, hp, hfv⟩ := G.out.five (HAC.out.later HB.out) hlt
      obtain ⟨k, hk⟩ : ∃ k, k = K[i] := ⟨_, rfl⟩
      rw [← hk] at hp hfv
      have HP := Lib.hid hp
      have HK := Lib.hid hk
      have HKI : Hid (I64 k) := G.out.codeI hp
      have HKX := Lib.hid hkx
      have HI9 := Lib.hid hi9
      have c0 := hfv.c0
      have j0 : (0 : Int) ≤ (i : Int) := by omega
      have j1 : (i : Int) < (K.length : Int) := by omega
      have KU := Lib.hid (KUN.out k wr HKI.out HB.out)
      unfold IntsRes at KU
      clear hk hkx hi9 hp
      clear_value *
      go_wp2_with fail
      refine KU.out.mono ?_
      rintro e w3 ⟨v, rfl, hv, hb⟩
      have HUL : Hid ((undL M K k).length ≤ 9999) := und_le k hK9
      have HUU : Hid (Up (undL M K k)) := undL_up G.out.ks.up k
      have HUM : Hid (∀ b, b ∈ undL M K k ↔ b ∈ K ∧ und M k b = true) := fun b => mem_und
      have HPA : Hid ((undL M K k).length = 1 + sm K (fun c => if ((M c).getD Acc.zero).up = k then (undL M K c).length else 0)) := G.out.wd.parts G.out.ks HP.out
      obtain ⟨L, hL⟩ : ∃ L, L = undL M K k := ⟨_, rfl⟩
      rw [← hL] at hv HUL HUU HUM HPA
      have HLL := Lib.hid hL
      clear hL
      obtain ⟨ua, uc, rfl, hua, _⟩ := ins_own hv rfl
      have HUA := Lib.hid hua
      have B3 : Hid (Below w2.heap.size w2 w3) := HB.out.trans (hb.mono HB.out.size)
      clear hv hua hb c0 hfv KU HB
      have ul9 := HUL.out
      go_wp2_with fail
      go_loopg [8, 9] K.length (fun kx s8 s9 wr => ∃ kk m : Nat, s9 = .int .i64 (kk : Int) ∧ s8 = .int .i64 (m : Int) ∧ kk ≤ K.length ∧ m ≤ 1 + kk * 9999 ∧ Hid (m = 1 + sm (K.take kk) (fun c => if ((M c).getD Acc.zero).up = k then (undL M K c).length else 0)) ∧ Hid (Below w3.heap.size w3 wr) ∧ K.length ≤ kk + kx)
      case atStart => exact ⟨0, 1, rfl, rfl, Nat.zero_le _, by omega, rfl, Below.refl _ _, by omega⟩
      case round =>
        obtain ⟨kk, m, rfl, rfl, hk9, hm9, HM, HB3, hkx⟩ := hrel
        have HBr : Hid (Below w2.heap.size w2 wr) := B3.out.trans (HB3.out.mono B3.out.size)
        by_cases hkl : kk < K.length
        · as_aux_lemma =>
            obtain ⟨ab', ao', p1, e1, hp1, hf1⟩ := G.out.five (HAC.out.later HBr.out) hlt
            cases e1
            obtain ⟨ab', ao', p2, e2, hp2, hf2⟩ := G.out.five (HAC.out.later HBr.out) hkl
            cases e2
            rw [← HK.out] at hf1
            have c0 := hf1.c0
            have d0 := hf2.c0
            have d1 := hf2.c1
            obtain ⟨b, hb⟩ : ∃ b, b = K[kk] := ⟨_, rfl⟩
            rw [← hb] at hp2 d0
            have HBI : Hid (I64 b) := G.out.codeI hp2
            have HT : Hid (sm (K.take (kk + 1)) (fun c => if ((M c).getD Acc.zero).up = k then (undL M K c).length else 0) = sm (K.take kk) (fun c => if ((M c).getD Acc.zero).up = k then (undL M K c).length else 0) + (if p2.up = k then (undL M K b).length else 0)) := by
              show _ = _
              rw [sm_take hkl, ← hb, hp2]
              rfl
            have hbl : (undL M K b).length ≤ 9999 := und_le b hK9
            obtain ⟨pu, hpu⟩ : ∃ pu, pu = p2.up := ⟨_, rfl⟩
            rw [← hpu] at d1 HT
            have k0 : (0 : Int) ≤ (kk : Int) := by omega
            have k1 : (kk : Int) < (K.length : Int) := by omega
            have HKL := Lib.hid hkl
            have HKX3 := Lib.hid hkx
            have HM9 := Lib.hid hm9
            clear hf1 hf2 hp1 hp2 hb hpu hkl hkx hk9 hm9
            by_cases hpk : pu = k
            · subst hpk
              have KU2 : Hid (∀ nq, Calls Try.prog 16 #[.pointer (some ⟨c, 0, none⟩), .int .i64 b] (wr.drewN nq) (IntsRes (undL M K b) (wr.drewN nq))) := fun nq => KUN.out b _ HBI.out (below_drewN HBr.out nq)
              unfold IntsRes at KU2
              obtain ⟨l2, hl2⟩ : ∃ l2, l2 = undL M K b := ⟨_, rfl⟩
              rw [← hl2] at KU2 hbl HT
              clear hl2
              go_wp2_with fail
              go_quiet (fail)
              go_wp2_with fail
              refine (KU2.out _).mono ?_
              rintro e w4 ⟨v, rfl, hv, hb4⟩
              obtain ⟨x1, x2, rfl, _, _⟩ := ins_own hv rfl
              have B4 : Hid (Below w3.heap.size w3 w4) := (below_drewN HB3.out nq).trans (hb4.mono HB3.out.size)
              clear hv hb4
              have hm9 := HM9.out
              have hkl := HKL.out
              have q0 : (0 : Int) ≤ (m : Int) + (l2.length : Int) := by omega
              have q1 : (m : Int) + (l2.length : Int) ≤ 1000000000 := by omega
              clear hm9 hkl
              go_wp2_with fail
              have HM2 : Hid (m + l2.length = 1 + sm (K.take (kk + 1)) (fun c => if ((M c).getD Acc.zero).up = pu then (undL M K c).length else 0)) := by
                show _ = _
                rw [HT.out, HM.out]
                simp only [if_true]
                omega
              have hm9 := HM9.out
              have hkl := HKL.out
              have hkx := HKX3.out
              go_roundg (K.length - (kk + 1))
              case measure => omega
              case rel => exact ⟨kk + 1, m + l2.length, by simp, by simp, by omega, by omega, HM2, B4, by omega⟩
            · have bpk : (pu == k) = false := by simpa using hpk
              have HM2 : Hid (m = 1 + sm (K.take (kk + 1)) (fun c => if ((M c).getD Acc.zero).up = k then (undL M K c).length else 0)) := by
                show _ = _
                rw [HT.out, if_neg hpk, HM.out]
                omega
              clear hpk
              go_wp2_with fail
              go_quiet (fail)
              go_wp2_with fail
              have hm9 := HM9.out
              have hkl := HKL.out
              have hkx := HKX3.out
              go_roundg (K.length - (kk + 1))
              case measure => omega
              case rel => exact ⟨kk + 1, m, by simp, rfl, by omega, by omega, HM2, below_drewN HB3.out _, by omega⟩
        · obtain rfl : kk = K.length := by omega
          have hmL : m = L.length := by rw [HM.out, HPA.out, List.take_length]
          subst hmL
          clear hkx hkl hk9 hm9 HM
          have HC2 : Hid (∀ u, Below w2.heap.size w2 u → Five u ab (ao + i * 5) k p.up p.cls p.name p.shut) := fun u hu => by
            obtain ⟨ab', ao', p1, e1, hp1, hf1⟩ := G.out.five (HAC.out.later hu) hlt
            cases e1
            rw [← HK.out, HP.out] at hp1
            cases hp1
            rw [← HK.out] at hf1
            exact hf1
          have HCK : Hid (∀ kk (h : kk < K.length) u, Below w2.heap.size w2 u → u.cell? ⟨ab, ao + kk * 5, none⟩ = some (.int .i64 K[kk])) := fun kk h u hu => by
            obtain ⟨ab', ao', p1, e1, hp1, hf1⟩ := G.out.five (HAC.out.later hu) h
            cases e1
            exact hf1.c0
          obtain ⟨pk, pu, pc, pn, ps, pd, pf⟩ := p
          simp only at HC2
          have HLT := Lib.hid hlt
          go_upto_region 21 with (fail)
          go_cut [118] from 57 to 212 (fun s118 wx => s118 = .bool false ∧ ∃ m, wx = wr.drewN m)
          case first => as_aux_lemma =>
              have c0 := (HC2.out _ HBr.out).c0
              have bll : ((L.length : Int) != (L.length : Int)) = false := by simp
              by_cases hi0 : i = 0
              · subst hi0
                go_quiet (fail)
                go_wp2_with fail
                go_meet
                exact ⟨rfl, _, rfl⟩
              · obtain ⟨i1, hi1⟩ : ∃ i1, i1 + 1 = i := ⟨i - 1, by omega⟩
                have d0 := HCK.out i1 (by omega) _ HBr.out
                have hrise : K[i1]'(by omega) < k := by rw [HK.out]; exact up_le G.out.ks.up (by omega) hlt
                obtain ⟨k1, hk1⟩ : ∃ k1, k1 = K[i1]'(by omega) := ⟨_, rfl⟩
                rw [← hk1] at d0 hrise
                have e0 : decide ((0 : Int) < (i : Int)) = true := decide_eq_true (by omega)
                have e0' : decide (0 < i) = true := decide_eq_true (by omega)
                have e1 : IntKind.i64.wrap ((i : Int) - 1) = (i1 : Int) := by
                  rw [show (i : Int) - 1 = (i1 : Int) by omega]
                  exact IntWalk.i64_in _ (by omega)
                have e2 : decide (k ≤ k1) = false := decide_eq_false (by omega)
                have z0 : (0 : Int) ≤ (i1 : Int) := by omega
                have z1 : (i1 : Int) < (K.length : Int) := by omega
                clear hi0 hi1 hk1 hrise
                go_quiet (fail)
                go_wp2_with fail
                go_meet
                exact ⟨rfl, _, rfl⟩
          obtain ⟨rfl, mm, rfl⟩ := hcut
          rename_i hKc
          apply hKc
          clear hKc
          have HBc : Hid (Below w3.heap.size w3 (wr.drewN mm)) := below_drewN HB3.out mm
          go_wp2_with fail
          go_loopg [11] L.length (fun kx s11 wr => ∃ kk : Nat, s11 = .int .i64 (kk : Int) ∧ kk ≤ L.length ∧ Hid (Below w3.heap.size w3 wr) ∧ L.length ≤ kk + kx)
          case atStart => exact ⟨0, rfl, Nat.zero_le _, HBc, by omega⟩
          case round =>
            obtain ⟨kk, rfl, hk9, HB4, hkx⟩ := hrel
            have HBl : Hid (Below w2.heap.size w2 wr) := B3.out.trans (HB4.out.mono B3.out.size)
            by_cases hkl : kk < L.length
            · as_aux_lemma =>
                obtain ⟨ub, uo, rfl, _, d0⟩ := (HUA.out.later HB4.out) kk hkl
                obtain ⟨b, hb⟩ : ∃ b, b = L[kk] := ⟨_, rfl⟩
                rw [← hb] at d0
                have hbL : b ∈ L := by rw [hb]; exact List.getElem_mem hkl
                obtain ⟨hbK, hbu⟩ := (HUM.out b).1 hbL
                obtain ⟨x, hx⟩ : ∃ x, M b = some x := by
                  cases hm : M b with
                  | none => have := (G.out.ks.mem b).1 hbK; rw [hm] at this; cases this
                  | some x => exact ⟨x, rfl⟩
                obtain ⟨hxc, hxs⟩ := G.out.alike HP.out b x hx hbu
                simp only at hxc hxs
                have KG := Lib.hid (KGE.out b wr (G.out.codeI hx) HBl.out)
                rw [show getM M b = (x.told, 0) by unfold getM; rw [hx]; rfl] at KG
                obtain ⟨xk, xu, xc, xn, xs, xd, xf⟩ := x
                unfold Acc.told A5.val at KG
                simp only at KG hxc hxs
                subst hxc
                have HXS : Hid (ps = true → xs = true) := hxs
                have HBB := Lib.hid hb
                have HKL := Lib.hid hkl
                have HKX4 := Lib.hid hkx
                have k0 : (0 : Int) ≤ (kk : Int) := by omega
                have k1 : (kk : Int) < (L.length : Int) := by omega
                clear hb hbL hbK hbu hx hxs hkx hk9
                go_wp2_with fail
                refine KG.out.mono ?_
                rintro e w4 ⟨rfl, hb4⟩
                have hbw : Below wr.heap.size wr (w4.alloc (.cells #[.int .i64 xk, .int .i64 xu, .int .u8 xc, .string xn, .bool xs] TAc)) := hb4.alloc hb4.size _
                have B4 : Hid (Below w3.heap.size w3 (w4.alloc (.cells #[.int .i64 xk, .int .i64 xu, .int .u8 xc, .string xn, .bool xs] TAc))) := HB4.out.trans (hbw.mono HB4.out.size)
                have R4 : Hid (Rw (w4.alloc (.cells #[.int .i64 xk, .int .i64 xu, .int .u8 xc, .string xn, .bool xs] TAc)) w4.heap.size TAc [.int .i64 xk, .int .i64 xu, .int .u8 xc, .string xn, .bool xs]) := Rw.new w4 [.int .i64 xk, .int .i64 xu, .int .u8 xc, .string xn, .bool xs] TAc
                clear hbw hb4 KG
                go_upto_region 28 with (fail)
                obtain ⟨bx, hbx⟩ : ∃ bx, bx = w4.heap.size := ⟨_, rfl⟩
                generalize w4.alloc (.cells #[.int .i64 xk, .int .i64 xu, .int .u8 xc, .string xn, .bool xs] TAc) = W4 at B4 R4 ⊢
                rw [← hbx] at R4 ⊢
                clear hbx d0
                have BW4 : Hid (Below w2.heap.size w2 W4) := B3.out.trans (B4.out.mono B3.out.size)
                go_cut [173] from 119 to 173 (fun s173 wx => s173 = .bool false ∧ ∃ m, wx = W4.drewN m)
                case first =>
                  have q2 : W4.cell? ⟨bx, 2, none⟩ = some (.int .u8 xc) := R4.out.cell 2
                  have q4 : W4.cell? ⟨bx, 4, none⟩ = some (.bool xs) := R4.out.cell 4
                  have f2 := (HC2.out _ BW4.out).c2
                  have f4 := (HC2.out _ BW4.out).c4
                  have bcc : (xc != xc) = false := by simp
                  obtain ⟨ub', uo', e9, _, d0⟩ := (HUA.out.later B4.out) kk HKL.out
                  cases e9
                  rw [← HBB.out] at d0
                  by_cases hk0 : kk = 0
                  · have e0 : decide ((0 : Int) < (kk : Int)) = false := by rw [hk0]; rfl
                    have e0' : decide (0 < kk) = false := by rw [hk0]; rfl
                    clear hk0
                    cases ps with
                    | false =>
                      go_quiet (fail)
                      go_wp2_with fail
                      go_meet
                      exact ⟨rfl, _, rfl⟩
                    | true =>
                      obtain rfl : xs = true := HXS.out rfl
                      go_quiet (fail)
                      go_wp2_with fail
                      go_meet
                      exact ⟨rfl, _, rfl⟩
                  · obtain ⟨i1, hi1⟩ : ∃ i1, i1 + 1 = kk := ⟨kk - 1, by omega⟩
                    obtain ⟨ub', uo', e9, _, d1⟩ := (HUA.out.later B4.out) i1 (by omega)
                    cases e9
                    have hrise : L[i1]'(by omega) < b := by rw [HBB.out]; exact up_le HUU.out (by omega) HKL.out
                    obtain ⟨k2, hk2⟩ : ∃ k2, k2 = L[i1]'(by omega) := ⟨_, rfl⟩
                    rw [← hk2] at d1 hrise
                    have e0 : decide ((0 : Int) < (kk : Int)) = true := decide_eq_true (by omega)
                    have e0' : decide (0 < kk) = true := decide_eq_true (by omega)
                    have e1 : IntKind.i64.wrap ((kk : Int) - 1) = (i1 : Int) := by
                      rw [show (kk : Int) - 1 = (i1 : Int) by omega]
                      exact IntWalk.i64_in _ (by omega)
                    have e2 : decide (b ≤ k2) = false := decide_eq_false (by omega)
                    have z0 : (0 : Int) ≤ (i1 : Int) := by omega
                    have z1 : (i1 : Int) < (L.length : Int) := by omega
                    clear hk0 hi1 hk2 hrise
                    cases ps with
                    | false =>
                      go_quiet (fail)
                      go_wp2_with fail
                      go_meet
                      exact ⟨rfl, _, rfl⟩
                    | true =>
                      obtain rfl : xs = true := HXS.out rfl
                      go_quiet (fail)
                      go_wp2_with fail
                      go_meet
                      exact ⟨rfl, _, rfl⟩
                obtain ⟨rfl, m4, rfl⟩ := hcut
                rename_i hKc
                apply hKc
                clear hKc
                have hkx := HKX4.out
                go_wp2_with fail
                go_roundg (L.length - (kk + 1))
                case measure => omega
                case rel => exact ⟨kk + 1, by simp, by omega, below_drewN B4.out _, by omega⟩
            · obtain rfl : kk = L.length := by omega
              clear hkx hkl hk9
              go_wp2_with fail
              go_loopg [10, 14] K.length (fun kx s10 s14 wr => ∃ kk d : Nat, s14 = .int .i64 (kk : Int) ∧ s10 = .int .i64 (d : Int) ∧ kk ≤ K.length ∧ d ≤ kk ∧ Hid (d = sm (K.take kk) (fun u => ind M u k)) ∧ Hid (Below w2.heap.size w2 wr) ∧ K.length ≤ kk + kx)
              case atStart => exact ⟨0, 0, rfl, rfl, Nat.zero_le _, Nat.le_refl _, rfl, HBl, by omega⟩
              case round =>
                obtain ⟨kk, d, rfl, rfl, hk9, hd9, HD, HB5, hkx⟩ := hrel
                by_cases hkl : kk < K.length
                · as_aux_lemma =>
                    have HC5 : Hid (∀ u, Below w2.heap.size w2 u → u.cell? ⟨ab, ao + i * 5, none⟩ = some (.int .i64 k) ∧ u.cell? ⟨ab, ao + kk * 5, none⟩ = some (.int .i64 K[kk])) := fun u hu => ⟨(HC2.out u hu).c0, HCK.out kk hkl u hu⟩
                    obtain ⟨b, hb⟩ : ∃ b, b = K[kk] := ⟨_, rfl⟩
                    rw [← hb] at HC5
                    have hbI : I64 b := by
                      have hbK : b ∈ K := by rw [hb]; exact List.getElem_mem hkl
                      cases hm : M b with
                      | none => have := (G.out.ks.mem b).1 hbK; rw [hm] at this; cases this
                      | some x => exact G.out.codeI hm
                    have hkK : k ∈ K := by rw [HK.out]; exact List.getElem_mem HLT.out
                    obtain ⟨l2, hl2⟩ : ∃ l2, l2 = undL M K b := ⟨_, rfl⟩
                    have KU5 : Hid (∀ u, Below w2.heap.size w2 u → Calls Try.prog 16 #[.pointer (some ⟨c, 0, none⟩), .int .i64 b] u (IntsRes l2 u)) := fun u hu => by rw [hl2]; exact KUN.out b u hbI hu
                    unfold IntsRes at KU5
                    have hl9 : Hid (l2.length ≤ 1000000) := by have := und_le (M := M) b hK9; rw [← hl2] at this; show _ ≤ _; omega
                    obtain ⟨r, hr⟩ : ∃ r, r = decide (k ∈ l2) := ⟨_, rfl⟩
                    have HT : Hid (sm (K.take (kk + 1)) (fun u => ind M u k) = sm (K.take kk) (fun u => ind M u k) + (if r = true then 1 else 0)) := by
                      show _ = _
                      rw [sm_take hkl, ← hb]
                      congr 1
                      unfold ind
                      rw [hr, hl2]
                      have : (k ∈ undL M K b) ↔ und M b k = true := ⟨fun h => (mem_und.1 h).2, fun h => mem_und.2 ⟨hkK, h⟩⟩
                      by_cases hu : und M b k = true
                      · rw [if_pos hu, if_pos (decide_eq_true (this.2 hu))]
                      · rw [if_neg hu, if_neg (by rw [decide_eq_true_eq]; exact fun h => hu (this.1 h))]
                    have KH : Hid (∀ u x1 x2, Ins u x1 l2 → Calls Try.prog 18 #[.slice x1 l2.length x2, .int .i64 k] u fun e w' => e = .returned (.bool r) ∧ u = w') := fun u x1 x2 hi => by rw [hr]; exact has_c l2 x1 x2 k u hi hl9.out
                    have k0 : (0 : Int) ≤ (kk : Int) := by omega
                    have k1 : (kk : Int) < (K.length : Int) := by omega
                    have HKL := Lib.hid hkl
                    have HKX5 := Lib.hid hkx
                    have HDK := Lib.hid hd9
                    have BM := Lib.hid (HB5.out.drew)
                    clear hb hbI hkK hl2 hr hkx hk9 hd9
                    go_wp2_with fail
                    obtain ⟨c0, d0⟩ := HC5.out _ BM.out
                    go_region_held3 (fun u => u.cell? ⟨ab, ao + i * 5, none⟩ = some (.int .i64 k) ∧ u.cell? ⟨ab, ao + kk * 5, none⟩ = some (.int .i64 b) ∧ Below w2.heap.size w2 u) (first | exact ⟨c0, d0, BM.out⟩ | exact ⟨D5.1, D5.2, B5⟩ | (refine ⟨?_, ?_, ?_⟩ <;> assumption)) (first | (go_at_call 16; (try go_split_ands); refine (KU5.out _ (by assumption)).mono ?_; rintro e u2 ⟨v, rfl, hv, hb5⟩; obtain ⟨x1, x2, rfl, hi5, _⟩ := ins_own hv rfl; have HI5 := Lib.hid hi5; have B5 : Below w2.heap.size w2 u2 := Below.trans (by assumption) (hb5.mono (Below.size (by assumption))); have D5 := HC5.out _ B5; clear hv hi5 hb5) | (go_at_call 18; (try go_split_ands); refine (KH.out _ _ _ HI5.out).mono ?_; rintro e u3 ⟨rfl, rfl⟩))
                    have hkx := HKX5.out
                    have hdk := HDK.out
                    have BU := Lib.hid (show Below w2.heap.size w2 u2 by assumption)
                    have hkl9 := HKL.out
                    cases r with
                    | true =>
                      have HD2 : Hid (d + 1 = sm (K.take (kk + 1)) (fun u => ind M u k)) := by show _ = _; rw [HT.out, ← HD.out]; rfl
                      go_wp2_with fail
                      go_roundg (K.length - (kk + 1))
                      case measure => omega
                      case rel => exact ⟨kk + 1, d + 1, by simp, by simp, by omega, by omega, HD2, BU, by omega⟩
                    | false =>
                      have HD2 : Hid (d = sm (K.take (kk + 1)) (fun u => ind M u k)) := by show _ = _; rw [HT.out, ← HD.out]; rfl
                      go_wp2_with fail
                      go_roundg (K.length - (kk + 1))
                      case measure => omega
                      case rel => exact ⟨kk + 1, d, by simp, rfl, by omega, by omega, HD2, BU, by omega⟩
                · obtain rfl : kk = K.length := by omega
                  have hdd := G.out.wd.depth_is G.out.root G.out.ks k _ HP.out
                  have hdp := G.out.wd.deep k _ HP.out
                  rw [← List.take_length (l := K), ← HD.out] at hdd
                  simp only at hdd hdp
                  have d1 : ¬ (d : Int) < 1 := by omega
                  have d8 : ¬ (8 : Int) < (d : Int) := by omega
                  have c0 := (HC2.out _ HB5.out).c0
                  obtain ⟨r, hr⟩ : ∃ r, r = leafM M k := ⟨_, rfl⟩
                  have hr2 := hr.trans (G.out.leaf k)
                  have KL := Lib.hid (KLE.out k wr HKI.out HB5.out)
                  rw [← hr] at KL
                  rw [← HLL.out] at hr2
                  have brr : ((L.length : Int) == 1) = r := by
                    rw [hr2]
                    by_cases e : L.length = 1
                    · rw [e]; rfl
                    · rw [decide_eq_false e]
                      simp
                      omega
                  clear hdd hdp hr hr2 hkx hkl hk9 hd9 HD
                  cases r with
                  | true =>
                    go_wp2_with fail
                    refine KL.out.mono ?_
                    rintro e w6 ⟨rfl, hb6⟩
                    have B6 : Hid (Below w2.heap.size w2 w6) := HB5.out.trans (hb6.mono HB5.out.size)
                    clear hb6
                    go_wp2_with fail
                    have hi9 := HI9.out
                    have hkx := HKX.out
                    have hlt := HLT.out
                    go_roundg (K.length - (i + 1))
                    case measure => omega
                    case rel => exact ⟨i + 1, by simp, by omega, B6, by omega⟩
                  | false =>
                    go_wp2_with fail
                    refine KL.out.mono ?_
                    rintro e w6 ⟨rfl, hb6⟩
                    have B6 : Hid (Below w2.heap.size w2 w6) := HB5.out.trans (hb6.mono HB5.out.size)
                    clear hb6
                    go_wp2_with fail
                    have hi9 := HI9.out
                    have hkx := HKX.out
                    have hlt := HLT.out
                    go_roundg (K.length - (i + 1))
                    case measure => omega
                    case rel => exact ⟨i + 1, by simp, by omega, B6, by omega⟩
    · obtain rfl : i = K.length := by omega
      have HBw : Hid (Below w.heap.size w wr) := B2.out.trans (HB.out.mono hsz.out)
      clear hkx hlt hi9
      go_wp2_with fail
      refine (head_c _).mono ?_
      rintro e w3 ⟨rfl, hb⟩
      go_wp2_with fail
      go_ret
      exact ⟨rfl, HBw.out.trans (hb.mono HBw.out.size)⟩
end Go.Proofs.Ytialclecoamobaa.Ch
