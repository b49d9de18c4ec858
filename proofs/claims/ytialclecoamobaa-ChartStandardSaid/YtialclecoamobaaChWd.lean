/- Package chart: accounts form a tree (mathematics). -/
import Derived.Test.YtialclecoamobaaChGets
namespace Go.Proofs.Ytialclecoamobaa.Ch
open Go Go.RowKit Ck Go.Maps
/-- Accounts under accounts: codes are small, a parent is there and one less deep. -/
structure Wd (M : Int → Option Acc) : Prop where
  code : ∀ k p, M k = some p → 1 ≤ k ∧ k ≤ 9999
  deep : ∀ k p, M k = some p → 1 ≤ p.depth ∧ p.depth ≤ 8
  up : ∀ k p, M k = some p → p.up = 0 ∨ ∃ q, M p.up = some q ∧ q.depth + 1 = p.depth
theorem Wd.zero {M : Int → Option Acc} (h : Wd M) : M 0 = none := by
  cases hm : M 0 with
  | none => rfl
  | some p => have := (h.code 0 p hm).1; omega
theorem Wd.empty : Wd (fun _ => Option.none) := ⟨nofun, nofun, nofun⟩
/-- An account changed, its depth and its parent kept. -/
theorem Wd.same {M : Int → Option Acc} (h : Wd M) {k : Int} {p x : Acc} (hk : M k = some p) (hd : x.depth = p.depth) (hu : x.up = p.up) : Wd (upd M k x) := by
  refine ⟨fun j q hj => ?_, fun j q hj => ?_, fun j q hj => ?_⟩
  · unfold upd at hj
    by_cases e : j = k
    · subst e; exact h.code j p hk
    · rw [if_neg e] at hj; exact h.code j q hj
  · unfold upd at hj
    by_cases e : j = k
    · subst e; rw [if_pos rfl] at hj; cases hj; rw [hd]; exact h.deep j p hk
    · rw [if_neg e] at hj; exact h.deep j q hj
  · have key : ∀ c q, M c = some q → ∃ q', upd M k x c = some q' ∧ q'.depth = q.depth := fun c q hc => by
      unfold upd
      by_cases e : c = k
      · subst e; rw [hk] at hc; cases hc; exact ⟨x, if_pos rfl, hd⟩
      · exact ⟨q, by rw [if_neg e]; exact hc, rfl⟩
    have fin : ∀ y : Acc, (y.up = 0 ∨ ∃ q, M y.up = some q ∧ q.depth + 1 = y.depth) → y.up = 0 ∨ ∃ q, upd M k x y.up = some q ∧ q.depth + 1 = y.depth := fun y hy => hy.elim .inl fun ⟨q, h1, h2⟩ => by
      obtain ⟨q', h3, h4⟩ := key _ q h1
      exact .inr ⟨q', h3, by omega⟩
    unfold upd at hj
    by_cases e : j = k
    · subst e
      rw [if_pos rfl] at hj
      cases hj
      refine fin x ?_
      rw [hu, hd]
      exact h.up j p hk
    · rw [if_neg e] at hj
      exact fin q (h.up j q hj)
/-- An account that is new. -/
theorem Wd.new {M : Int → Option Acc} (h : Wd M) {k : Int} {x : Acc} (hk : M k = .none) (hc : 1 ≤ k ∧ k ≤ 9999) (hd : 1 ≤ x.depth ∧ x.depth ≤ 8) (hu : x.up = 0 ∨ ∃ q, M x.up = some q ∧ q.depth + 1 = x.depth) : Wd (upd M k x) := by
  have fin : ∀ y : Acc, (y.up = 0 ∨ ∃ q, M y.up = some q ∧ q.depth + 1 = y.depth) → y.up = 0 ∨ ∃ q, upd M k x y.up = some q ∧ q.depth + 1 = y.depth := fun y hy => hy.elim .inl fun ⟨q, h1, h2⟩ => by
    refine .inr ⟨q, ?_, h2⟩
    unfold upd
    rw [if_neg (fun e => by rw [e, hk] at h1; cases h1)]
    exact h1
  refine ⟨fun j q hj => ?_, fun j q hj => ?_, fun j q hj => ?_⟩ <;> unfold upd at hj <;> by_cases e : j = k
  · subst e; exact hc
  · rw [if_neg e] at hj; exact h.code j q hj
  · subst e; rw [if_pos rfl] at hj; cases hj; exact hd
  · rw [if_neg e] at hj; exact h.deep j q hj
  · subst e; rw [if_pos rfl] at hj; cases hj; exact fin _ hu
  · rw [if_neg e] at hj; exact fin q (h.up j q hj)
theorem Wd.add {M : Int → Option Acc} (h : Wd M) (a : A5) : Wd (addM M a).1 := by
  unfold addM
  by_cases hv : a.validB = false
  · rw [if_pos hv]; exact h
  rw [if_neg hv]
  by_cases hs : (M a.code).isSome = true
  · rw [if_pos hs]; exact h
  rw [if_neg hs]
  have hc : 1 ≤ a.code ∧ a.code ≤ 9999 := by
    have hv' : a.validB = true := by simpa using hv
    unfold A5.validB at hv'
    simp only [Bool.and_eq_true, decide_eq_true_eq] at hv'
    exact ⟨hv'.1.1.1.1.1, hv'.1.1.1.1.2⟩
  have hm : M a.code = .none := by simpa using hs
  by_cases hu : a.up = 0
  · rw [if_pos hu]
    refine h.new hm hc ?_ (.inl hu)
    rw [h.zero]
    exact ⟨show (1 : Int) ≤ 0 + 1 by decide, show (0 : Int) + 1 ≤ 8 by decide⟩
  rw [if_neg hu]
  cases hp : M a.up with
  | none => exact h
  | some p =>
    simp only
    split
    · exact h
    · rename_i hn
      have hd := h.deep _ p hp
      have h8 : ¬ 8 ≤ p.depth := fun e => hn (.inr (.inr e))
      have hne : a.code ≠ a.up := fun e => by rw [e, hp] at hm; cases hm
      refine (h.same (x := ⟨p.code, p.up, p.cls, p.name, p.shut, p.depth, p.kids + 1⟩) hp rfl rfl).new ?_ hc ⟨by show 1 ≤ p.depth + 1; omega, by show p.depth + 1 ≤ 8; omega⟩ (.inr ⟨_, if_pos rfl, rfl⟩)
      unfold upd
      rw [if_neg hne]
      exact hm
/-- Whether b is code or is under it, by at most f steps. -/
def underM (M : Int → Option Acc) (code : Int) : Nat → Int → Bool
  | 0, _ => false
  | f + 1, b => match M b with
    | .none => false
    | .some p => decide (b = code) || underM M code f p.up
theorem Wd.under {M : Int → Option Acc} (h : Wd M) (code : Int) : ∀ (f g : Nat) (b : Int), (∀ p, M b = some p → p.depth ≤ f ∧ p.depth ≤ g) → underM M code (f + 1) b = underM M code (g + 1) b := by
  intro f
  induction f with
  | zero =>
    intro g b hb
    cases hm : M b with
    | none => simp only [underM, hm]
    | some p => have := (h.deep b p hm).1; have := (hb p hm).1; omega
  | succ f ih =>
    intro g b hb
    cases hm : M b with
    | none => simp only [underM, hm]
    | some p =>
      have h1 := (h.deep b p hm).1
      have h2 := hb p hm
      cases g with
      | zero => omega
      | succ g =>
        have key : underM M code (f + 1) p.up = underM M code (g + 1) p.up := ih g p.up fun q hq => by
          rcases h.up b p hm with e | ⟨q', e1, e2⟩
          · rw [e, h.zero] at hq; cases hq
          · rw [hq] at e1; cases e1; omega
        rw [underM, underM]
        simp only [hm]
        rw [key]
/-- No account has more than N below it. -/
def Kd (N : Nat) (M : Int → Option Acc) : Prop := ∀ c p, M c = some p → 0 ≤ p.kids ∧ p.kids ≤ N
theorem Kd.empty : Kd 0 (fun _ => Option.none) := nofun
theorem Kd.upd {N : Nat} {M : Int → Option Acc} (h : Kd N M) {k : Int} {x : Acc} (hx : 0 ≤ x.kids ∧ x.kids ≤ N) : Kd N (upd M k x) := fun c p hc => by
  unfold Ch.upd at hc
  by_cases e : c = k
  · rw [if_pos e] at hc; cases hc; exact hx
  · rw [if_neg e] at hc; exact h c p hc
theorem Kd.more {N N' : Nat} {M : Int → Option Acc} (h : Kd N M) (hN : N ≤ N') : Kd N' M := fun c p hc => by
  have := h c p hc
  omega
theorem Kd.add {N : Nat} {M : Int → Option Acc} (h : Kd N M) (a : A5) : Kd (N + 1) (addM M a).1 := by
  have h1 : Kd (N + 1) M := h.more (by omega)
  unfold addM
  split
  · exact h1
  split
  · exact h1
  split
  · exact h1.upd ⟨by show (0 : Int) ≤ 0; omega, by show (0 : Int) ≤ _; omega⟩
  split
  · exact h1
  · rename_i p hp
    split
    · exact h1
    · have := h _ p hp
      exact (h1.upd ⟨by show 0 ≤ p.kids + 1; omega, by show p.kids + 1 ≤ _; omega⟩).upd ⟨by show (0 : Int) ≤ 0; omega, by show (0 : Int) ≤ _; omega⟩
theorem Wd.bd {N : Nat} {M : Int → Option Acc} (h : Wd M) (k : Kd N M) (hN : N ≤ 1000000) : Bd M := fun c p hc => by
  have h1 := h.deep c p hc
  have h2 := k c p hc
  exact ⟨by omega, by omega, h2.1, by omega⟩
end Go.Proofs.Ytialclecoamobaa.Ch
