/- Package chart: what is kept of all accounts, whatever is done (mathematics). -/
import Derived.Test.YtialclecoamobaaChGood
namespace Go.Proofs.Ytialclecoamobaa.Ch
open Go Go.RowKit Ck Go.Maps
/-- A chart that is right. -/
structure Gm (M : Int → Option Acc) (K : List Int) : Prop where
  ks : Ks M K
  wd : Wd M
  code : ∀ k p, M k = some p → p.code = k
  root : ∀ k p, M k = some p → p.up = 0 → p.depth = 1
  kid : ∀ k p, M k = some p → 0 ≤ p.kids ∧ (p.kids = 0 ↔ ∀ c q, M c = some q → q.up ≠ k)
  cls : ∀ k p q, M k = some p → M p.up = some q → q.cls = p.cls
  shut : ∀ k p q, M k = some p → M p.up = some q → q.shut = true → p.shut = true
  nam : ∀ k p, M k = some p → p.name.size ≤ 60
section
variable {M : Int → Option Acc} {K : List Int}
theorem Gm.empty : Gm (fun _ => none) [] := by
  constructor
  · exact Ks.empty
  · exact Wd.empty
  all_goals (intros; simp_all)
theorem upd_at (M : Int → Option Acc) (k : Int) (x : Acc) : upd M k x k = some x := if_pos rfl
theorem upd_ne (M : Int → Option Acc) {k c : Int} (x : Acc) (h : c ≠ k) : upd M k x c = M c := if_neg h
/-- One account changed, but not its code, parent, class, depth. -/
theorem upd_old {M : Int → Option Acc} {k : Int} {p x : Acc} (hp : M k = some p) {c : Int} {q : Acc} (h : upd M k x c = some q) : ∃ q', M c = some q' ∧ (c = k ∧ q = x ∧ q' = p ∨ c ≠ k ∧ q = q') := by
  by_cases e : c = k
  · subst e; rw [upd_at] at h; cases h; exact ⟨p, hp, .inl ⟨rfl, rfl, rfl⟩⟩
  · rw [upd_ne _ _ e] at h; exact ⟨q, h, .inr ⟨e, rfl⟩⟩
theorem Gm.shutOne (g : Gm M K) {k : Int} {p : Acc} (hp : M k = some p) (hs : ∀ c q, M c = some q → q.up = k → q.shut = true) {K' : List Int} (hk : Ks (upd M k p.shutIt) K') : Gm (upd M k p.shutIt) K' := by
  have hu : ∀ q : Acc, ∀ c, upd M k p.shutIt c = some q → ∃ q', M c = some q' ∧ q'.up = q.up ∧ q'.cls = q.cls ∧ q'.code = q.code ∧ q'.depth = q.depth ∧ q'.kids = q.kids ∧ q'.name = q.name ∧ (q'.shut = true → q.shut = true) ∧ (c = k ∨ q = q') := fun q c hc => by
    obtain ⟨q', h1, h2 | h2⟩ := upd_old hp hc
    · obtain ⟨rfl, rfl, rfl⟩ := h2
      exact ⟨q', h1, rfl, rfl, rfl, rfl, rfl, rfl, fun _ => rfl, .inl rfl⟩
    · obtain ⟨_, rfl⟩ := h2
      exact ⟨q, h1, rfl, rfl, rfl, rfl, rfl, rfl, id, .inr rfl⟩
  have hback : ∀ c q', M c = some q' → ∃ q, upd M k p.shutIt c = some q ∧ q.up = q'.up := fun c q' hc => by
    by_cases e : c = k
    · subst e; rw [hp] at hc; cases hc; exact ⟨_, upd_at _ _ _, rfl⟩
    · exact ⟨q', (upd_ne _ _ e).trans hc, rfl⟩
  refine ⟨hk, g.wd.same hp rfl rfl, fun c q hc => ?_, fun c q hc h0 => ?_, fun c q hc => ?_, fun c q r hc hr => ?_, fun c q r hc hr ht => ?_, fun c q hc => ?_⟩
  · obtain ⟨q', h1, h2, h3, h4, h5, h6, h7, _⟩ := hu q c hc
    rw [← h4]; exact g.code c q' h1
  · obtain ⟨q', h1, h2, h3, h4, h5, h6, h7, _⟩ := hu q c hc
    rw [← h5]; exact g.root c q' h1 (h2.trans h0)
  · obtain ⟨q', h1, h2, h3, h4, h5, h6, h7, _⟩ := hu q c hc
    rw [← h6]
    refine ⟨(g.kid c q' h1).1, (g.kid c q' h1).2.trans ⟨fun h d r hd => ?_, fun h d r hd => ?_⟩⟩
    · obtain ⟨r', k1, k2, _⟩ := hu r d hd
      rw [← k2]; exact h d r' k1
    · obtain ⟨r', k1, k2⟩ := hback d r hd
      rw [← k2]; exact h d r' k1
  · obtain ⟨q', h1, h2, h3, _⟩ := hu q c hc
    obtain ⟨r', k1, k2, k3, _⟩ := hu r q.up hr
    rw [← h3, ← k3]
    exact g.cls c q' r' h1 (by rw [h2]; exact k1)
  · obtain ⟨q', h1, h2, h3, _, _, _, _, h8, h9⟩ := hu q c hc
    obtain ⟨r', k1, k2, k3, _, _, _, _, _, k9⟩ := hu r q.up hr
    rcases k9 with e | e
    · exact h8 (hs c q' h1 (h2.trans e))
    · subst e; exact h8 (g.shut c q' r h1 (by rw [h2]; exact k1) ht)
  · obtain ⟨q', h1, h2, h3, h4, h5, h6, h7, _⟩ := hu q c hc
    rw [← h7]; exact g.nam c q' h1
/-- Those right under an account are under it. -/
theorem Gm.child (g : Gm M K) {k c : Int} {p q : Acc} (hp : M k = some p) (hq : M c = some q) (hu : q.up = k) : c ∈ undL M K k ∧ c ≠ k := by
  have hcK : c ∈ K := (g.ks.mem c).2 (by rw [hq]; rfl)
  refine ⟨List.mem_filter.2 ⟨hcK, ?_⟩, fun e => ?_⟩
  · show und M k c = true
    rw [g.wd.step hq, hu, g.wd.self hp]
    simp
  · have := g.wd.acyc hq
    rw [hu, e, g.wd.self hp] at this
    cases this
theorem Gm.shutM (g : Gm M K) (code : Int) {K' : List Int} (hk : Ks (shutM M K code).1 K') : Gm (shutM M K code).1 K' := by
  unfold Ch.shutM at hk ⊢
  by_cases h1 : (M code).isSome = false
  · rw [if_pos h1] at hk ⊢
    rw [hk.unique g.ks]; exact g
  rw [if_neg h1] at hk ⊢
  by_cases h2 : (undL M K code).any (badAt M code) = true
  · rw [if_pos h2] at hk ⊢
    rw [hk.unique g.ks]; exact g
  rw [if_neg h2] at hk ⊢
  cases hm : M code with
  | none => rw [hm] at h1; exact absurd rfl h1
  | some p =>
    rw [hm] at hk
    refine g.shutOne hm (fun c q hc hu => ?_) hk
    obtain ⟨k1, k2⟩ := g.child hm hc hu
    cases hs : q.shut with
    | true => rfl
    | false =>
      refine absurd (List.any_eq_true.2 ⟨c, k1, ?_⟩) h2
      unfold badAt
      rw [hc]
      simp [hs, k2]
theorem Gm.addM (g : Gm M K) (a : A5) {K' : List Int} (hk : Ks (addM M a).1 K') : Gm (addM M a).1 K' := by
  have hwd := g.wd.add a
  unfold Ch.addM at hk hwd ⊢
  by_cases hv : a.validB = false
  · rw [if_pos hv] at hk ⊢; rw [hk.unique g.ks]; exact g
  rw [if_neg hv] at hk hwd ⊢
  by_cases hs : (M a.code).isSome = true
  · rw [if_pos hs] at hk ⊢; rw [hk.unique g.ks]; exact g
  rw [if_neg hs] at hk hwd ⊢
  have hv' : a.validB = true := by simpa using hv
  unfold A5.validB at hv'
  simp only [Bool.and_eq_true, decide_eq_true_eq] at hv'
  obtain ⟨⟨⟨⟨⟨c1, c2⟩, -⟩, -⟩, c5⟩, c6⟩ := hv'
  have c6' : a.shut = false := by simpa using c6
  have hm : M a.code = none := by simpa using hs
  have hnoup : ∀ c q, M c = some q → q.up ≠ a.code := fun c q hc e => by
    rcases g.wd.up c q hc with e2 | ⟨q', e1, _⟩
    · omega
    · rw [e, hm] at e1; cases e1
  by_cases hu : a.up = 0
  · rw [if_pos hu] at hk hwd ⊢
    dsimp only at hk hwd ⊢
    have h0 : ((M 0).getD Acc.zero).depth = 0 := by rw [g.wd.zero]; rfl
    generalize hx : (⟨a.code, a.up, a.cls, a.name, a.shut, ((M 0).getD Acc.zero).depth + 1, 0⟩ : Acc) = x at hk hwd ⊢
    have x1 : x.code = a.code := by rw [← hx]
    have x2 : x.up = 0 := by rw [← hx]; exact hu
    have x3 : x.depth = 1 := by rw [← hx]; show ((M 0).getD Acc.zero).depth + 1 = 1; rw [h0]; rfl
    have x4 : x.kids = 0 := by rw [← hx]
    have x5 : x.name = a.name := by rw [← hx]
    have hnew : ∀ c q, upd M a.code x c = some q → (c = a.code ∧ q = x) ∨ (c ≠ a.code ∧ M c = some q) := fun c q hc => by
      by_cases e : c = a.code
      · subst e; rw [upd_at] at hc; cases hc; exact .inl ⟨rfl, rfl⟩
      · rw [upd_ne _ _ e] at hc; exact .inr ⟨e, hc⟩
    have hupx : upd M a.code x x.up = none := by rw [x2, upd_ne _ _ (by omega), g.wd.zero]
    refine ⟨hk, hwd, fun c q hc => ?_, fun c q hc h0 => ?_, fun c q hc => ?_, fun c q r hc hr => ?_, fun c q r hc hr ht => ?_, fun c q hc => ?_⟩
    · rcases hnew c q hc with ⟨rfl, rfl⟩ | ⟨_, h⟩
      · exact x1
      · exact g.code c q h
    · rcases hnew c q hc with ⟨rfl, rfl⟩ | ⟨_, h⟩
      · exact x3
      · exact g.root c q h h0
    · rcases hnew c q hc with ⟨rfl, rfl⟩ | ⟨hne, h⟩
      · refine ⟨by omega, fun _ d r hd => ?_, fun _ => x4⟩
        rcases hnew d r hd with ⟨rfl, rfl⟩ | ⟨_, h⟩
        · rw [x2]; omega
        · exact hnoup d r h
      · refine ⟨(g.kid c q h).1, (g.kid c q h).2.trans ⟨fun h' d r hd => ?_, fun h' d r hd => ?_⟩⟩
        · rcases hnew d r hd with ⟨rfl, rfl⟩ | ⟨_, h2⟩
          · rw [x2]; have := g.wd.code c q h; omega
          · exact h' d r h2
        · exact h' d r ((upd_ne _ _ (fun e => by rw [e, hm] at hd; cases hd)).trans hd)
    · rcases hnew c q hc with ⟨rfl, rfl⟩ | ⟨_, h⟩
      · rw [hupx] at hr; cases hr
      · rcases hnew _ r hr with ⟨e, _⟩ | ⟨_, h2⟩
        · exact absurd e (hnoup c q h)
        · exact g.cls c q r h h2
    · rcases hnew c q hc with ⟨rfl, rfl⟩ | ⟨_, h⟩
      · rw [hupx] at hr; cases hr
      · rcases hnew _ r hr with ⟨e, _⟩ | ⟨_, h2⟩
        · exact absurd e (hnoup c q h)
        · exact g.shut c q r h h2 ht
    · rcases hnew c q hc with ⟨rfl, rfl⟩ | ⟨_, h⟩
      · rw [x5]; exact c5
      · exact g.nam c q h
  rw [if_neg hu] at hk hwd ⊢
  cases hp : M a.up with
  | none => simp only [hp] at hk hwd ⊢; rw [hk.unique g.ks]; exact g
  | some p =>
    simp only [hp] at hk hwd ⊢
    by_cases hbad : p.shut = true ∨ p.cls ≠ a.cls ∨ 8 ≤ p.depth
    · rw [if_pos hbad] at hk ⊢; rw [hk.unique g.ks]; exact g
    rw [if_neg hbad] at hk hwd ⊢
    have b1 : p.shut = false := by cases h : p.shut with
      | false => rfl
      | true => exact absurd (.inl h) hbad
    have b2 : p.cls = a.cls := Decidable.byContradiction fun h => hbad (.inr (.inl h))
    generalize hy : (⟨p.code, p.up, p.cls, p.name, p.shut, p.depth, p.kids + 1⟩ : Acc) = y at hk hwd ⊢
    generalize hx : (⟨a.code, a.up, a.cls, a.name, a.shut, p.depth + 1, 0⟩ : Acc) = x at hk hwd ⊢
    have x1 : x.code = a.code := by rw [← hx]
    have x2 : x.up = a.up := by rw [← hx]
    have x3 : x.depth = p.depth + 1 := by rw [← hx]
    have x4 : x.kids = 0 := by rw [← hx]
    have x5 : x.name = a.name := by rw [← hx]
    have x6 : x.cls = a.cls := by rw [← hx]
    have y1 : y.code = p.code := by rw [← hy]
    have y2 : y.up = p.up := by rw [← hy]
    have y3 : y.depth = p.depth := by rw [← hy]
    have y4 : y.kids = p.kids + 1 := by rw [← hy]
    have y5 : y.name = p.name := by rw [← hy]
    have y6 : y.cls = p.cls := by rw [← hy]
    have y7 : y.shut = p.shut := by rw [← hy]
    have hne : a.code ≠ a.up := fun e => by rw [e, hp] at hm; cases hm
    -- what an account of the new chart is
    have hnew : ∀ c q, upd (upd M a.up y) a.code x c = some q → (c = a.code ∧ q = x) ∨ (c ≠ a.code ∧ ∃ q', M c = some q' ∧ q.code = q'.code ∧ q.up = q'.up ∧ q.depth = q'.depth ∧ q.name = q'.name ∧ q.cls = q'.cls ∧ q.shut = q'.shut ∧ (c = a.up ∧ q.kids = q'.kids + 1 ∨ c ≠ a.up ∧ q.kids = q'.kids)) := fun c q hc => by
      by_cases e : c = a.code
      · subst e; rw [upd_at] at hc; cases hc; exact .inl ⟨rfl, rfl⟩
      · rw [upd_ne _ _ e] at hc
        refine .inr ⟨e, ?_⟩
        by_cases e2 : c = a.up
        · subst e2; rw [upd_at] at hc; cases hc; exact ⟨p, hp, y1, y2, y3, y5, y6, y7, .inl ⟨rfl, y4⟩⟩
        · rw [upd_ne _ _ e2] at hc; exact ⟨q, hc, rfl, rfl, rfl, rfl, rfl, rfl, .inr ⟨e2, rfl⟩⟩
    have hback : ∀ c q', M c = some q' → ∃ q, upd (upd M a.up y) a.code x c = some q ∧ q.up = q'.up := fun c q' hc => by
      have e : c ≠ a.code := fun e => by rw [e, hm] at hc; cases hc
      rw [upd_ne _ _ e]
      by_cases e2 : c = a.up
      · subst e2; rw [hp] at hc; cases hc; exact ⟨y, upd_at _ _ _, y2⟩
      · exact ⟨q', (upd_ne _ _ e2).trans hc, rfl⟩
    have hupa : ∀ r, upd (upd M a.up y) a.code x a.up = some r → r = y := fun r hr => by
      rw [upd_ne _ _ hne.symm, upd_at] at hr; cases hr; rfl
    refine ⟨hk, hwd, fun c q hc => ?_, fun c q hc h0 => ?_, fun c q hc => ?_, fun c q r hc hr => ?_, fun c q r hc hr ht => ?_, fun c q hc => ?_⟩
    · rcases hnew c q hc with ⟨rfl, rfl⟩ | ⟨_, q', h, k1, _⟩
      · exact x1
      · rw [k1]; exact g.code c q' h
    · rcases hnew c q hc with ⟨rfl, rfl⟩ | ⟨_, q', h, k1, k2, k3, _⟩
      · exact absurd (x2 ▸ h0) hu
      · rw [k3]; exact g.root c q' h (k2 ▸ h0)
    · rcases hnew c q hc with ⟨rfl, rfl⟩ | ⟨_, q', h, k1, k2, k3, k4, k5, k6, k7⟩
      · refine ⟨by omega, fun _ d r hd => ?_, fun _ => x4⟩
        rcases hnew d r hd with ⟨rfl, rfl⟩ | ⟨_, r', h2, _, j2, _⟩
        · rw [x2]; exact fun e => hne e.symm
        · rw [j2]; exact hnoup d r' h2
      · have h0 := g.kid c q' h
        rcases k7 with ⟨e, k7⟩ | ⟨e, k7⟩
        · refine ⟨by omega, fun hz => by omega, fun hn => ?_⟩
          exact absurd (x2.trans e.symm) (hn a.code x (upd_at _ _ _))
        · rw [k7]
          refine ⟨h0.1, h0.2.trans ⟨fun h' d r hd => ?_, fun h' d r hd => ?_⟩⟩
          · rcases hnew d r hd with ⟨rfl, rfl⟩ | ⟨_, r', h2, _, j2, _⟩
            · rw [x2]; exact fun e' => e e'.symm
            · rw [j2]; exact h' d r' h2
          · obtain ⟨r', j1, j2⟩ := hback d r hd
            rw [← j2]; exact h' d r' j1
    · rcases hnew c q hc with ⟨rfl, rfl⟩ | ⟨_, q', h, k1, k2, k3, k4, k5, k6, k7⟩
      · rw [x2] at hr
        rw [hupa r hr, y6, b2, x6]
      · rw [k2] at hr
        rcases hnew _ r hr with ⟨e, _⟩ | ⟨_, r', h2, _, _, _, _, j5, _⟩
        · exact absurd e (hnoup c q' h)
        · rw [k5, j5]; exact g.cls c q' r' h h2
    · rcases hnew c q hc with ⟨rfl, rfl⟩ | ⟨_, q', h, k1, k2, k3, k4, k5, k6, k7⟩
      · rw [x2] at hr
        rw [hupa r hr, y7, b1] at ht
        cases ht
      · rw [k2] at hr
        rcases hnew _ r hr with ⟨e, _⟩ | ⟨_, r', h2, _, _, _, _, _, j6, _⟩
        · exact absurd e (hnoup c q' h)
        · rw [k6]; exact g.shut c q' r' h h2 (j6 ▸ ht)
    · rcases hnew c q hc with ⟨rfl, rfl⟩ | ⟨_, q', h, k1, k2, k3, k4, _⟩
      · rw [x5]; exact c5
      · rw [k4]; exact g.nam c q' h
/-- Leaf: nobody else is under it. -/
theorem Gm.leaf (g : Gm M K) (k : Int) : leafM M k = decide ((undL M K k).length = 1) := by
  unfold leafM
  cases hm : M k with
  | none => rw [undL_none hm]; rfl
  | some p =>
    show (true && decide (p.kids = 0)) = _
    rw [Bool.true_and, g.wd.parts g.ks hm]
    have h0 := g.kid k p hm
    by_cases e : p.kids = 0
    · rw [sm_congr (g := fun _ => 0), sm_zero]
      · simp [e]
      · intro c hc
        have hs := (g.ks.mem c).1 hc
        cases hq : M c with
        | none => rw [hq] at hs; cases hs
        | some q => exact if_neg (h0.2.1 e c q hq)
    · have : ∃ c q, M c = some q ∧ q.up = k := Classical.byContradiction fun hn => e (h0.2.2 fun c q hc hu => hn ⟨c, q, hc, hu⟩)
      obtain ⟨c, q, hc, hu⟩ := this
      have hcK : c ∈ K := (g.ks.mem c).2 (by rw [hc]; rfl)
      have h1 : 1 ≤ (undL M K c).length := List.length_pos_of_mem (List.mem_filter.2 ⟨hcK, g.wd.self hc⟩)
      have h2 : (if ((M c).getD Acc.zero).up = k then (undL M K c).length else 0) ≤ sm K (fun c => if ((M c).getD Acc.zero).up = k then (undL M K c).length else 0) := by
        have : ∀ (K : List Int) (f : Int → Nat), c ∈ K → f c ≤ sm K f := fun K f => by
          induction K with
          | nil => intro h; cases h
          | cons d K ih =>
            intro h
            rw [sm_cons]
            rcases List.mem_cons.1 h with rfl | h
            · omega
            · have := ih h; omega
        exact this K (fun c => if ((M c).getD Acc.zero).up = k then (undL M K c).length else 0) hcK
      rw [if_pos (show ((M c).getD Acc.zero).up = k by rw [hc]; exact hu)] at h2
      rw [decide_eq_false e, decide_eq_false (by omega)]
end
end Go.Proofs.Ytialclecoamobaa.Ch
