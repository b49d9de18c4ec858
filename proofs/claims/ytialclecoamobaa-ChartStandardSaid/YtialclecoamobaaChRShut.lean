/- Package chart: the document's Shut. -/
import Derived.Test.YtialclecoamobaaChRAdd
namespace Go.Proofs.Ytialclecoamobaa.Ch
open Go Go.RowKit Ck Go.Maps
/-- One cell of a row of one's own is written. -/
theorem own_set {w : World} {base e size n g cap j : Nat} {xs : List Value} (h : w.ownsRow base e size (.slice (some ⟨g, 0, none⟩) n cap) n xs) (hj : j < xs.length) (v : Value) : (w.setCell ⟨g, j, none⟩ v).ownsRow base e size (.slice (some ⟨g, 0, none⟩) n cap) n (xs.set j v) := by
  have hl := h.1
  rcases h.2 with ⟨h0, _⟩ | ⟨g', cap', cur, hv, hb, hg, hc, hm, hs, ht⟩
  · cases h0
  · obtain ⟨rfl, rfl⟩ : g = g' ∧ cap = cap' := by simpa using hv
    have hlt := (Array.getElem?_eq_some_iff.1 hg).1
    have hjc : j < cur.size := by
      have := congrArg List.length ht
      rw [List.length_take] at this
      have h2 : cur.toList.length = cur.size := by simp
      omega
    refine ⟨by rw [List.length_set]; exact hl, .inr ⟨g, cap, cur.set j v hjc, rfl, hb, ?_, hc, hm, by simpa using hs, ?_⟩⟩
    · simp [World.setCell, hlt, Array.getElem_modify, (Array.getElem?_eq_some_iff.1 hg).2]
      rw [Array.setIfInBounds, dif_pos hjc]
    · rw [Array.toList_set, ← ht, List.take_set]
theorem own_unfrozen {w : World} {base e size n g cap : Nat} {xs : List Value} (h : w.ownsRow base e size (.slice (some ⟨g, 0, none⟩) n cap) n xs) (i : Nat) : w.frozen? ⟨g, i, none⟩ = false := by
  rcases h.2 with ⟨h0, _⟩ | ⟨g', cap', cur, hv, _, hh, _⟩
  · cases h0
  · obtain ⟨rfl, rfl⟩ : g = g' ∧ cap = cap' := by simpa using hv
    simp [World.frozen?, hh]
theorem flatA_shut (A B : List A5) (x : A5) : (flatA (A ++ x :: B)).set (A.length * 5 + 4) (.bool true) = flatA (A ++ ⟨x.code, x.up, x.cls, x.name, true⟩ :: B) := by
  rw [flatA_app, flatA_app]
  have e : ∀ y : A5, flatA (y :: B) = y.cells ++ flatA B := fun y => rfl
  rw [e, e, List.set_append_right _ _ (by rw [flatA_len]; omega), flatA_len, show A.length * 5 + 4 - A.length * 5 = 4 by omega]
  rfl
theorem lst_shut' {M : Int → Option Acc} {A B : List Int} {c : Int} {p : Acc} (h1 : ∀ d ∈ A, d ≠ c) (h2 : ∀ d ∈ B, d ≠ c) (hp : M c = some p) : flatA (lst (upd M c p.shutIt) (A ++ c :: B)) = (flatA (lst M (A ++ c :: B))).set (A.length * 5 + 4) (.bool true) := by
  have e1 : lst M (A ++ c :: B) = lst M A ++ p.told :: lst M B := by
    rw [lst_app]
    congr 1
    show ((M c).getD Acc.zero).told :: _ = _
    rw [hp]; rfl
  have e2 : lst (upd M c p.shutIt) (A ++ c :: B) = lst M A ++ p.shutIt.told :: lst M B := by
    rw [lst_app, lst_congr (M := M) (K := A) fun d hd => by rw [upd_ne _ _ (h1 d hd)]]
    congr 1
    show ((upd M c p.shutIt c).getD Acc.zero).told :: lst (upd M c p.shutIt) B = _
    rw [upd_at, lst_congr (M := M) (K := B) fun d hd => by rw [upd_ne _ _ (h2 d hd)]]
    rfl
  rw [e1, e2]
  have := flatA_shut (lst M A) (lst M B) p.told
  rw [lst_len] at this
  rw [this]
  rfl
theorem lst_shut {M : Int → Option Acc} {K : List Int} (hK : Up K) {k : Nat} (hk : k < K.length) {p : Acc} (hp : M K[k] = some p) : flatA (lst (upd M K[k] p.shutIt) K) = (flatA (lst M K)).set (k * 5 + 4) (.bool true) := by
  have e : K.take k ++ K[k] :: K.drop (k + 1) = K := by rw [List.getElem_cons_drop, List.take_append_drop]
  have h1 : ∀ c ∈ K.take k, c ≠ K[k] := fun c hc e' => by
    obtain ⟨j, hj, rfl⟩ := List.getElem_of_mem hc
    rw [List.length_take] at hj
    rw [List.getElem_take] at e'
    have := up_le hK (show j < k by omega) hk
    omega
  have h2 : ∀ c ∈ K.drop (k + 1), c ≠ K[k] := fun c hc e' => by
    obtain ⟨j, hj, rfl⟩ := List.getElem_of_mem hc
    rw [List.length_drop] at hj
    rw [List.getElem_drop] at e'
    have := up_le hK (show k < k + 1 + j by omega) (by omega)
    omega
  have := lst_shut' h1 h2 hp
  rw [e, List.length_take, Nat.min_eq_left (by omega)] at this
  exact this
section
variable {w : World} {M : Int → Option Acc} {K : List Int}
set_option maxRecDepth 100000 in
set_option maxHeartbeats 3200000 in
theorem rshut_c (g : Gm M K) (code : Int) (v : Value) (base : Nat) (hbase : base ≤ w.heap.size) (h : w.ownsRow base TAc 5 v K.length (flatA (lst M K))) : Calls Try.prog 8 #[v, .int .i64 code] w (RRes base (shutM M K code).1 (shutM M K code).2 w) := by
  have G := Lib.hid g
  have H := Lib.hid h
  have hK9 := g.wd.few g.ks
  obtain ⟨i0, z0, hi0, hz0, hz1, hz2, hz3⟩ := info_ac
  obtain ⟨R, hR⟩ : ∃ R, R = shutM M K code := ⟨_, rfl⟩
  rw [← hR]
  unfold shutM at hR
  have HBS : Hid (base ≤ w.heap.size) := hbase
  obtain ⟨va, vc, rfl, hac, hvc⟩ : ∃ a cap, v = .slice a K.length cap ∧ Acs w a (lst M K) ∧ K.length ≤ cap := by
    obtain ⟨a, cap, e, h1, h2⟩ := acs_own h (lst_len M K).symm
    rw [lst_len] at e h2
    exact ⟨a, cap, e, h1, h2⟩
  have KA : Hid (∀ c, Calls Try.prog 24 #[.slice va K.length vc, .int .i64 c] w (AtRes K c w)) := fun c => at_c g vc c hac
  have KI : Hid (∀ b, Calls Try.prog 25 #[.slice va K.length vc, .int .i64 b, .int .i64 code] w fun e w' => e = .returned (.bool (und M code b)) ∧ w = w') := fun b => is_ref g vc b code hac
  have HAC := Lib.hid hac
  clear g h hac hbase
  go_enter Try.func8, Try.ntmps8
  go_wp2_with fail
  refine (KA.out code).mono ?_
  rintro e w' ⟨rfl, z, rfl, hz⟩
  rcases hz with ⟨rfl, hn⟩ | ⟨k, hk, hkc, rfl⟩
  · have hm : (M code).isSome = false := by
      cases hm : M code with
      | none => rfl
      | some p => exact absurd ((G.out.ks.mem code).2 (by rw [hm]; rfl)) hn
    rw [if_pos hm] at hR
    subst hR
    clear hm hn
    go_wp2_with fail
    go_ret2
    exact rres_same G.out H.out (Below.refl _ _)
  · obtain ⟨ab, off, p, rfl, hp, hf⟩ := G.out.five HAC.out hk
    have hpk := hp
    rw [hkc] at hp
    rw [hp, if_neg (by simp)] at hR
    have c4 := hf.c4
    have HKC := Lib.hid hkc
    have HP := Lib.hid hp
    have HPK := Lib.hid hpk
    obtain ⟨pa, pb, pc, ps, pd, pe, pf⟩ := p
    simp only at c4
    have j0 : (0 : Int) ≤ (k : Int) := by omega
    have j1 : (k : Int) < (K.length : Int) := by omega
    have hself : code ∈ undL M K code := List.mem_filter.2 ⟨(G.out.ks.mem code).2 (by rw [hp]; rfl), G.out.wd.self hp⟩
    have hbs : badAt M code code = pd := by
      unfold badAt
      rw [hp]
      simp
    clear hf hkc hp hpk
    cases pd with
    | true =>
      rw [if_pos (List.any_eq_true.2 ⟨code, hself, hbs⟩)] at hR
      subst hR
      clear hself hbs
      go_wp2_with fail
      go_ret2
      exact rres_same G.out H.out (Below.refl _ _)
    | false =>
      have HBS2 := Lib.hid hbs
      clear hself hbs
      go_wp2_with fail
      go_loopg [7] K.length (fun kx s7 wr => ∃ i : Nat, s7 = .int .i64 (i : Int) ∧ i ≤ K.length ∧ w = wr ∧ Hid (∀ j (h : j < K.length), j < i → und M code K[j] = true → badAt M code K[j] = false) ∧ K.length ≤ i + kx)
      case atStart => exact ⟨0, rfl, Nat.zero_le _, rfl, fun j _ hj => by omega, by omega⟩
      case round =>
        obtain ⟨i, rfl, hi9, rfl, HJ, hkx⟩ := hrel
        by_cases hlt : i < K.length
        · have i0' : (0 : Int) ≤ (i : Int) := by omega
          have i1' : (i : Int) < (K.length : Int) := by omega
          by_cases hik : i = k
          · have HJ2 : Hid (∀ j (h : j < K.length), j < i + 1 → und M code K[j] = true → badAt M code K[j] = false) := fun j hj hji hu => by
              by_cases e : j = i
              · subst e; subst hik; rw [HKC.out]; exact HBS2.out
              · exact HJ.out j hj (by omega) hu
            have bik : ((i : Int) != (k : Int)) = false := by simp [hik]
            clear hik HJ
            go_wp2_with fail
            go_roundg (K.length - (i + 1))
            case measure => omega
            case rel => exact ⟨i + 1, by simp, by omega, rfl, HJ2, by omega⟩
          · have bik : ((i : Int) != (k : Int)) = true := by simp; omega
            obtain ⟨ab', off', q, e1, hq, hf⟩ := G.out.five HAC.out hlt
            cases e1
            have q0 := hf.c0
            have q4 := hf.c4
            have hkne : K[i] ≠ code := fun e => by
              have hup := G.out.ks.up
              rw [← HKC.out] at e
              rcases Nat.lt_or_gt_of_ne hik with h | h
              · have := up_le hup h hk; omega
              · have := up_le hup h hlt; omega
            have hb : badAt M code K[i] = !q.shut := by
              unfold badAt
              rw [hq]
              simp [hkne]
            obtain ⟨b, hbb⟩ : ∃ b, b = K[i] := ⟨_, rfl⟩
            have KI2 := Lib.hid (KI.out b)
            obtain ⟨u, hu⟩ : ∃ u, u = und M code b := ⟨_, rfl⟩
            rw [← hu] at KI2
            obtain ⟨s, hs⟩ : ∃ s, s = q.shut := ⟨_, rfl⟩
            rw [← hs] at q4 hb
            rw [← hbb] at q0 hb
            have HBB := Lib.hid hbb
            have HB := Lib.hid hb
            have HU := Lib.hid hu
            clear hf hq hkne hik hb hbb hu hs
            cases u with
            | false =>
              have HJ2 : Hid (∀ j (h : j < K.length), j < i + 1 → und M code K[j] = true → badAt M code K[j] = false) := fun j hj hji hu => by
                by_cases e : j = i
                · subst e; rw [← HBB.out, ← HU.out] at hu; cases hu
                · exact HJ.out j hj (by omega) hu
              clear HJ
              go_wp2_with fail
              refine KI2.out.mono ?_
              rintro e w' ⟨rfl, rfl⟩
              go_wp2_with fail
              go_roundg (K.length - (i + 1))
              case measure => omega
              case rel => exact ⟨i + 1, by simp, by omega, rfl, HJ2, by omega⟩
            | true =>
              cases s with
              | true =>
                have HJ2 : Hid (∀ j (h : j < K.length), j < i + 1 → und M code K[j] = true → badAt M code K[j] = false) := fun j hj hji hu => by
                  by_cases e : j = i
                  · subst e; rw [← HBB.out, HB.out]; rfl
                  · exact HJ.out j hj (by omega) hu
                clear HJ
                go_wp2_with fail
                refine KI2.out.mono ?_
                rintro e w' ⟨rfl, rfl⟩
                go_wp2_with fail
                go_roundg (K.length - (i + 1))
                case measure => omega
                case rel => exact ⟨i + 1, by simp, by omega, rfl, HJ2, by omega⟩
              | false =>
                have hany : (undL M K code).any (badAt M code) = true := List.any_eq_true.2 ⟨b, List.mem_filter.2 ⟨by rw [HBB.out]; exact List.getElem_mem hlt, HU.out.symm⟩, HB.out⟩
                rw [if_pos hany] at hR
                subst hR
                clear hany HJ
                go_wp2_with fail
                refine KI2.out.mono ?_
                rintro e w' ⟨rfl, rfl⟩
                go_wp2_with fail
                go_ret2
                exact rres_same G.out H.out (Below.refl _ _)
        · obtain rfl : i = K.length := by omega
          have hany : ¬ (undL M K code).any (badAt M code) = true := fun ha => by
            obtain ⟨b, hb1, hb2⟩ := List.any_eq_true.1 ha
            obtain ⟨hb3, hb4⟩ := List.mem_filter.1 hb1
            obtain ⟨j, hj, rfl⟩ := List.getElem_of_mem hb3
            rw [HJ.out j hj hj hb4] at hb2
            cases hb2
          rw [if_neg hany] at hR
          have HRR := Lib.hid hR
          clear hany HJ hkx hlt hi9 hR
          obtain rfl : off = 0 := by
            rcases H.out.2 with ⟨h0, _⟩ | ⟨g', cap', cur, hv, _⟩
            · cases h0
            · cases hv; rfl
          obtain ⟨_, hgl, hrd⟩ := own_read H.out
          have HG := Lib.hid hgl
          have HRD : Hid (∀ j u, (flatA (lst M K))[j]? = some u → w.cell? ⟨ab, j, none⟩ = some u) := hrd
          have LSH := Lib.hid (lst_shut G.out.ks.up hk HPK.out)
          rw [HKC.out] at LSH
          have HSZ : Hid (w.heap.size ≤ w.heap.size) := Nat.le_refl _
          clear hgl hrd
          go_wp2_with (at_builtin; refine wpList_append_any rfl _ _ TAs rfl w.heap.size TAc i0 z0 5 48 Try.underlying25 hi0 hz0 hz1 hz2 hz3 (by decide) _ 0 [] rfl (own_zero _ _ _ _ HSZ.out) _ K.length vc (flatA (lst M K)) rfl (.inr ⟨_, rfl, ?len1, ?rd1⟩) (flatA_one _) (by unfold maxLen; omega) (by omega) (by simp) ?_)
          case len1 => rw [flatA_len, lst_len]
          case rd1 =>
            intro j u hu
            rw [Go.WideShapes.add_plain, Nat.zero_add, (((Below.refl w.heap.size w).alloc (Nat.le_refl _) _).cell (p := ⟨ab, j, none⟩) (by simpa using HG.out))]
            exact HRD.out j u hu
          intro v1 w1 hown1 hg1 hat1
          have HB2 : Hid (Below w.heap.size w w1) := ((Below.refl _ w).alloc (Nat.le_refl _) _).grown hg1 (by simp) (fun j hj => by cases hj; exact Nat.le_refl _)
          have ho1 : w1.ownsRow w.heap.size TAc 5 v1 K.length (flatA (lst M K)) := by simpa using hown1
          obtain ⟨g1, c1, rfl⟩ : ∃ g c, v1 = .slice (some ⟨g, 0, none⟩) K.length c := by
            rcases ho1.2 with ⟨_, h0⟩ | ⟨g', cap', cur, hv, _⟩
            · omega
            · exact ⟨g', cap', hv⟩
          obtain ⟨_, hgl, hrd⟩ := own_read ho1
          have hlen : (flatA (lst M K)).length = K.length * 5 := by rw [flatA_len, lst_len]
          have hi4 : k * 5 + 4 < (flatA (lst M K)).length := by rw [hlen]; omega
          have f4 := own_unfrozen ho1 (k * 5 + 4)
          obtain ⟨y4, hy4⟩ : ∃ y, (flatA (lst M K))[k * 5 + 4]? = some y := ⟨_, List.getElem?_eq_getElem hi4⟩
          have c4' := hrd _ _ hy4
          have HO1 := Lib.hid ho1
          have HL4 := Lib.hid hi4
          have hy4' : ∃ bb, y4 = .bool bb := by
            have := flatA_at (lst M K) k (by rw [lst_len]; exact hk) 4 _ rfl
            rw [hy4] at this
            cases this
            exact ⟨_, rfl⟩
          obtain ⟨bb, rfl⟩ := hy4'
          clear hown1 hg1 hat1 ho1 hgl hrd hlen hi4 hy4 c4
          go_wp2_with fail
          go_ret2
          show RRes base R.1 R.2 w (.returned (.tuple #[.slice (some ⟨g1, 0, none⟩) K.length c1, .int .i64 0])) _
          rw [HRR.out]
          refine ⟨_, K, rfl, G.out.ks.old (by rw [HP.out]; rfl) _, ?_, Keeps.belowT HB2.out ((Keeps.refl (fun j => j = g1) w1).setCell g1 _ _ (.inl rfl)) (fun j hj => by cases hj; exact (HO1.out.lt g1 rfl).1) HB2.out.size⟩
          show (w1.setCell ⟨g1, k * 5 + 4, none⟩ (.bool true)).ownsRow base TAc 5 _ K.length (flatA (lst (upd M code (⟨pa, pb, pc, ps, false, pe, pf⟩ : Acc).shutIt) K))
          rw [LSH.out]
          exact own_lower (own_set HO1.out HL4.out _) HBS.out
end
end Go.Proofs.Ytialclecoamobaa.Ch
