/- Package chart: what holds of all accounts (mathematics). -/
import Derived.Test.YtialclecoamobaaChShut
namespace Go.Proofs.Ytialclecoamobaa.Ch
open Go Go.RowKit Ck Go.Maps
/-- Whether b is code or is under it. -/
abbrev und (M : Int → Option Acc) (code b : Int) : Bool := underM M code 9 b
section
variable {M : Int → Option Acc} {K : List Int}
theorem Wd.step (h : Wd M) {b : Int} {p : Acc} (hb : M b = some p) (code : Int) : und M code b = (decide (b = code) || und M code p.up) := by
  have e : underM M code 8 p.up = underM M code 9 p.up := h.under code 7 8 p.up fun q hq => by
    have h1 := h.deep b p hb
    rcases h.up b p hb with e | ⟨q', e1, e2⟩
    · rw [e, h.zero] at hq; cases hq
    · rw [hq] at e1; cases e1; omega
  show underM M code 9 b = _
  rw [underM]
  simp only [hb]
  rw [e]
theorem und_no {b : Int} (hb : M b = none) (code : Int) : und M code b = false := by
  show underM M code 9 b = false
  rw [underM]
  simp only [hb]
/-- By the depth. -/
theorem Wd.induct (h : Wd M) (P : Int → Prop) (hP : ∀ b p, M b = some p → (∀ q, M p.up = some q → P p.up) → P b) : ∀ b p, M b = some p → P b := by
  have key : ∀ (n : Nat) (b : Int) (p : Acc), M b = some p → p.depth ≤ n → P b := by
    intro n
    induction n with
    | zero => intro b p hb hd; have := (h.deep b p hb).1; omega
    | succ n ih =>
      intro b p hb hd
      refine hP b p hb fun q hq => ih _ q hq ?_
      rcases h.up b p hb with e | ⟨q', e1, e2⟩
      · rw [e, h.zero] at hq; cases hq
      · rw [hq] at e1; cases e1; omega
  intro b p hb
  exact key 8 b p hb (h.deep b p hb).2
theorem Wd.self (h : Wd M) {b : Int} {p : Acc} (hb : M b = some p) : und M b b = true := by
  rw [h.step hb]; simp
theorem und_some {u b : Int} (h : und M u b = true) : (M u).isSome = true := by
  cases hu : M u with
  | none => rw [show und M u b = false from underM_none hu 9 b] at h; cases h
  | some p => rfl
theorem und_some' {u b : Int} (h : und M u b = true) : (M b).isSome = true := by
  cases hu : M b with
  | none => rw [und_no hu] at h; cases h
  | some p => rfl
theorem Wd.deeper (h : Wd M) (u : Int) (q : Acc) (hu : M u = some q) : ∀ b p, M b = some p → und M u b = true → q.depth ≤ p.depth ∧ (b ≠ u → q.depth < p.depth) := by
  refine fun b p hb => h.induct (fun b => ∀ p, M b = some p → und M u b = true → q.depth ≤ p.depth ∧ (b ≠ u → q.depth < p.depth)) ?_ b p hb p hb
  intro b p hb ih p' hp' ht
  rw [hb] at hp'
  cases hp'
  rw [h.step hb] at ht
  by_cases e : b = u
  · subst e; rw [hb] at hu; cases hu; exact ⟨by omega, fun h => absurd rfl h⟩
  · simp only [e, decide_false, Bool.false_or] at ht
    have hs := und_some' ht
    cases hm : M p.up with
    | none => rw [hm] at hs; cases hs
    | some r =>
      have h1 := ih r hm r hm ht
      rcases h.up b p hb with e2 | ⟨q', e1, e2⟩
      · rw [e2, h.zero] at hm; cases hm
      · rw [hm] at e1; cases e1; exact ⟨by omega, fun _ => by omega⟩
/-- Nothing is under what it is above. -/
theorem Wd.acyc (h : Wd M) {b : Int} {p : Acc} (hb : M b = some p) : und M b p.up = false := by
  cases hu : und M b p.up with
  | false => rfl
  | true =>
    have hs := und_some' hu
    cases hm : M p.up with
    | none => rw [hm] at hs; cases hs
    | some r =>
      have h1 := h.deeper b p hb _ r hm hu
      rcases h.up b p hb with e2 | ⟨q', e1, e2⟩
      · rw [e2, h.zero] at hm; cases hm
      · rw [hm] at e1; cases e1; omega
/-- The sum over a list. -/
def sm (K : List Int) (f : Int → Nat) : Nat := (K.map f).sum
theorem sm_cons (c : Int) (K : List Int) (f : Int → Nat) : sm (c :: K) f = f c + sm K f := by simp [sm]
theorem sm_nil (f : Int → Nat) : sm [] f = 0 := rfl
theorem sm_congr {K : List Int} {f g : Int → Nat} (h : ∀ c ∈ K, f c = g c) : sm K f = sm K g := by
  unfold sm
  rw [List.map_congr_left h]
theorem sm_add (K : List Int) (f g : Int → Nat) : sm K (fun c => f c + g c) = sm K f + sm K g := by
  induction K with
  | nil => rfl
  | cons c K ih => rw [sm_cons, sm_cons, sm_cons, ih]; omega
theorem sm_zero (K : List Int) : sm K (fun _ => 0) = 0 := by
  induction K with
  | nil => rfl
  | cons c K ih => rw [sm_cons, ih]
theorem sm_swap (K L : List Int) (f : Int → Int → Nat) : sm K (fun a => sm L (f a)) = sm L (fun b => sm K (fun a => f a b)) := by
  induction K with
  | nil => rw [sm_nil, show (fun b => sm ([] : List Int) fun a => f a b) = fun _ => 0 from rfl, sm_zero]
  | cons c K ih =>
    rw [sm_cons, ih, ← sm_add]
    exact sm_congr fun b _ => by rw [sm_cons]
theorem sm_one {K : List Int} (hK : Up K) {b : Int} (hb : b ∈ K) (f : Int → Nat) : sm K (fun c => if c = b then f c else 0) = f b := by
  induction K with
  | nil => cases hb
  | cons c K ih =>
    have hp := List.pairwise_cons.1 hK
    rw [sm_cons]
    by_cases e : c = b
    · subst e
      rw [if_pos rfl]
      have : sm K (fun d => if d = c then f d else 0) = 0 := by
        refine (sm_congr fun d hd => if_neg fun e => ?_).trans (sm_zero K)
        have := hp.1 d hd
        omega
      omega
    · rw [if_neg e, ih hp.2 ((List.mem_cons.1 hb).resolve_left fun h => e h.symm)]
      omega
theorem sm_filter (K : List Int) (f : Int → Bool) : (K.filter f).length = sm K (fun b => if f b = true then 1 else 0) := by
  induction K with
  | nil => rfl
  | cons c K ih =>
    rw [sm_cons, List.filter_cons]
    cases h : f c with
    | true => rw [if_pos rfl, if_pos rfl, List.length_cons, ih]; omega
    | false => rw [if_neg (by decide), if_neg (by decide), ih]; omega
def ind (M : Int → Option Acc) (c b : Int) : Nat := if und M c b = true then 1 else 0
theorem Wd.ind_step (h : Wd M) {b : Int} {p : Acc} (hb : M b = some p) (c : Int) : ind M c b = (if c = b then 1 else 0) + ind M c p.up := by
  unfold ind
  rw [h.step hb]
  by_cases e : c = b
  · subst e
    rw [h.acyc hb]
    simp
  · have e' : b ≠ c := fun h => e h.symm
    simp [e, e']
theorem ind_no {b : Int} (hb : M b = none) (c : Int) : ind M c b = 0 := by
  unfold ind; rw [und_no hb]; rfl
/-- How many are above an account: its depth. -/
theorem Wd.depth_is (h : Wd M) (hr : ∀ k p, M k = some p → p.up = 0 → p.depth = 1) (hk : Ks M K) : ∀ b p, M b = some p → ((sm K (fun u => ind M u b) : Nat) : Int) = p.depth := by
  refine fun b p hb => h.induct (fun b => ∀ p, M b = some p → ((sm K (fun u => ind M u b) : Nat) : Int) = p.depth) ?_ b p hb p hb
  intro b p hb ih p' hp'
  rw [hb] at hp'
  cases hp'
  have hbK : b ∈ K := (hk.mem b).2 (by rw [hb]; rfl)
  have e : sm K (fun u => ind M u b) = 1 + sm K (fun u => ind M u p.up) := by
    rw [sm_congr (g := fun u => (if u = b then 1 else 0) + ind M u p.up) fun u _ => h.ind_step hb u, sm_add, sm_one hk.up hbK fun _ => 1]
  rw [e]
  cases hm : M p.up with
  | none =>
    have e0 : sm K (fun u => ind M u p.up) = 0 := by
      rw [← sm_zero K]
      exact sm_congr fun u _ => ind_no hm u
    rw [e0]
    rcases h.up b p hb with e2 | ⟨q', e1, e2⟩
    · rw [hr b p hb e2]; rfl
    · rw [hm] at e1; cases e1
  | some r =>
    have h1 := ih r hm r hm
    rcases h.up b p hb with e2 | ⟨q', e1, e2⟩
    · rw [e2, h.zero] at hm; cases hm
    · rw [hm] at e1; cases e1; omega
/-- Those under an account: it, and those under each whose parent it is. -/
theorem Wd.part (h : Wd M) (hk : Ks M K) (k : Int) (hk0 : k ≠ 0) : ∀ b p, M b = some p → ind M k b = (if b = k then 1 else 0) + sm K (fun c => if ((M c).getD Acc.zero).up = k then ind M c b else 0) := by
  refine fun b p hb => h.induct (fun b => ind M k b = (if b = k then 1 else 0) + sm K (fun c => if ((M c).getD Acc.zero).up = k then ind M c b else 0)) ?_ b p hb
  intro b p hb ih
  have hbK : b ∈ K := (hk.mem b).2 (by rw [hb]; rfl)
  have hbu : ((M b).getD Acc.zero).up = p.up := by rw [hb]; rfl
  have e : sm K (fun c => if ((M c).getD Acc.zero).up = k then ind M c b else 0) = (if p.up = k then 1 else 0) + sm K (fun c => if ((M c).getD Acc.zero).up = k then ind M c p.up else 0) := by
    rw [← hbu, ← sm_one hk.up hbK (fun c => if ((M c).getD Acc.zero).up = k then 1 else 0), ← sm_add]
    refine sm_congr fun c _ => ?_
    rw [h.ind_step hb c, hbu]
    by_cases e1 : c = b <;> by_cases e2 : ((M c).getD Acc.zero).up = k <;> simp [e1, e2]
    · subst e1; simp [e2]
    · subst e1; simp [e2]
  rw [e, h.ind_step hb k]
  have e3 : (if k = b then 1 else 0) = (if b = k then 1 else 0 : Nat) := by
    by_cases e : b = k
    · rw [if_pos e, if_pos e.symm]
    · rw [if_neg e, if_neg fun h => e h.symm]
  rw [e3]
  congr 1
  cases hm : M p.up with
  | none =>
    rw [ind_no hm]
    have hne : p.up ≠ k := by
      rcases h.up b p hb with e2 | ⟨q', e1, e2⟩
      · rw [e2]; exact fun h => hk0 h.symm
      · rw [hm] at e1; cases e1
    rw [if_neg hne, sm_congr (g := fun _ => 0) fun c _ => by rw [ind_no hm]; simp, sm_zero]
  | some r => exact ih r hm
theorem Wd.parts (h : Wd M) (hk : Ks M K) {k : Int} {p : Acc} (hp : M k = some p) : (undL M K k).length = 1 + sm K (fun c => if ((M c).getD Acc.zero).up = k then (undL M K c).length else 0) := by
  have hkK : k ∈ K := (hk.mem k).2 (by rw [hp]; rfl)
  have hk0 : k ≠ 0 := by have := (h.code k p hp).1; omega
  have e1 : (undL M K k).length = sm K (fun b => ind M k b) := sm_filter K _
  have e2 : sm K (fun b => ind M k b) = sm K (fun b => (if b = k then 1 else 0) + sm K (fun c => if ((M c).getD Acc.zero).up = k then ind M c b else 0)) := sm_congr fun b hb => by
    have hs := (hk.mem b).1 hb
    cases hm : M b with
    | none => rw [hm] at hs; cases hs
    | some q => exact h.part hk k hk0 b q hm
  rw [e1, e2, sm_add, sm_one hk.up hkK fun _ => 1, sm_swap]
  congr 1
  refine sm_congr fun c _ => ?_
  by_cases e : ((M c).getD Acc.zero).up = k
  · simp only [e, if_true]
    exact (sm_filter K _).symm
  · simp only [e, if_false]
    exact sm_zero K
/-- Rising lists of the same numbers are one. -/
theorem up_unique : ∀ {K L : List Int}, Up K → Up L → (∀ c, c ∈ K ↔ c ∈ L) → K = L
  | [], [], _, _, _ => rfl
  | [], b :: L, _, _, h => absurd ((h b).2 (by simp)) (by simp)
  | a :: K, [], _, _, h => absurd ((h a).1 (by simp)) (by simp)
  | a :: K, b :: L, hK, hL, h => by
    have hp := List.pairwise_cons.1 hK
    have hq := List.pairwise_cons.1 hL
    have e : a = b := by
      rcases List.mem_cons.1 ((h a).1 (by simp)) with e | e
      · exact e
      · rcases List.mem_cons.1 ((h b).2 (by simp)) with e' | e'
        · exact e'.symm
        · have := hp.1 b e'
          have := hq.1 a e
          omega
    subst e
    congr 1
    refine up_unique hp.2 hq.2 fun c => ⟨fun hc => ?_, fun hc => ?_⟩
    · rcases List.mem_cons.1 ((h c).1 (List.mem_cons_of_mem _ hc)) with e | e
      · subst e; have := hp.1 c hc; omega
      · exact e
    · rcases List.mem_cons.1 ((h c).2 (List.mem_cons_of_mem _ hc)) with e | e
      · subst e; have := hq.1 c hc; omega
      · exact e
theorem Ks.unique {K' : List Int} (h : Ks M K) (h' : Ks M K') : K = K' := up_unique h.up h'.up fun c => (h.mem c).trans (h'.mem c).symm
theorem up_low : ∀ {K : List Int} {lo hi : Int}, Up K → (∀ c ∈ K, lo ≤ c ∧ c ≤ hi) → lo ≤ hi + 1 → (K.length : Int) ≤ hi + 1 - lo
  | [], lo, hi, _, _, h => by simp; omega
  | a :: K, lo, hi, hK, h, _ => by
    have hp := List.pairwise_cons.1 hK
    have ha := h a (by simp)
    have := up_low (K := K) (lo := a + 1) (hi := hi) hp.2 (fun c hc => ⟨by have := hp.1 c hc; omega, (h c (List.mem_cons_of_mem _ hc)).2⟩) (by omega)
    simp only [List.length_cons]
    omega
theorem Wd.few (h : Wd M) (hk : Ks M K) : K.length ≤ 9999 := by
  have := up_low (lo := 1) (hi := 9999) hk.up (fun c hc => by
    have hs := (hk.mem c).1 hc
    cases hm : M c with
    | none => rw [hm] at hs; cases hs
    | some p => exact h.code c p hm) (by omega)
  omega
end
end Go.Proofs.Ytialclecoamobaa.Ch
