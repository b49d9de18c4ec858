/- The statements of plans: what an act changes; the mathematics. -/
import Derived.Test.YtakpoabpgdmneaaPlSy
namespace Go.Proofs.Ytakpoabpgdmneaa.Pl
open Go Go.RowKit Ck Go.Maps
theorem priceL_more (L : List Pr) (y : Pr) (day : Int) : priceL (L ++ [y]) day = if y.frm ≤ day then (y.amt, 0) else priceL L day := by
  unfold priceL
  rw [List.foldl_append]
  rfl
theorem price_had {M : Int → Option Pn} {id day : Int} (h : (priceT M id day).2 = 0) : ∃ x, M id = some x ∧ dayB day = true := by
  unfold priceT at h
  cases hd : dayB day with
  | false => rw [if_pos hd] at h; exact absurd h (show (2 : Int) ≠ 0 by decide)
  | true =>
    rw [if_neg (by rw [hd]; decide)] at h
    cases hm : M id with
    | none => rw [hm] at h; exact absurd h (show (7 : Int) ≠ 0 by decide)
    | some x => exact ⟨x, rfl, rfl⟩
theorem sold_had {M : Int → Option Pn} {id day : Int} (h : soldT M id day = true) : (priceT M id day).2 = 0 := by
  unfold soldT at h
  simp only [Bool.and_eq_true, decide_eq_true_eq] at h
  exact h.1
theorem sold_iff {M : Int → Option Pn} {id day : Int} {x : Pn} (hm : M id = some x) : soldT M id day = true ↔ (priceT M id day).2 = 0 ∧ (x.ret = 0 ∨ day < x.ret) := by
  unfold soldT
  rw [hm]
  simp only [Option.getD_some, Bool.and_eq_true, Bool.or_eq_true, decide_eq_true_eq]
/-- What an act leaves of the price and the sale on a day. -/
structure Kept (M M' : Int → Option Pn) (r pid id day own : Int) : Prop where
  p : (priceT M id day).2 = 0 → (priceT M' id day).2 = 0
  a : (priceT M id day).2 = 0 → pid ≠ id → (priceT M' id day).1 = (priceT M id day).1
  b : (priceT M id day).2 = 0 → (r ≠ 1 ∨ day < own) → (priceT M' id day).1 = (priceT M id day).1
  s : soldT M id day = true → soldT M' id day = false → r = 2 ∧ pid = id ∧ ¬ day < own
theorem kept_same (M : Int → Option Pn) (r pid id day own : Int) : Kept M M r pid id day own :=
  ⟨fun h => h, fun _ _ => rfl, fun _ _ => rfl, fun h1 h2 => by rw [h1] at h2; cases h2⟩
/-- Where the plan that is asked for is as it was. -/
theorem kept_at {M M' : Int → Option Pn} (r pid : Int) {id : Int} (day own : Int) (h : ∀ x, M id = some x → M' id = some x) : Kept M M' r pid id day own := by
  have e : (priceT M id day).2 = 0 → priceT M' id day = priceT M id day := fun h0 => by
    obtain ⟨x, hx, _⟩ := price_had h0
    unfold priceT
    rw [hx, h x hx]
  refine ⟨fun h0 => by rw [e h0]; exact h0, fun h0 _ => by rw [e h0], fun h0 _ => by rw [e h0], fun h1 h2 => ?_⟩
  have h0 := sold_had h1
  obtain ⟨x, hx, _⟩ := price_had h0
  have : soldT M' id day = soldT M id day := by
    unfold soldT
    rw [e h0, hx, h x hx]
  rw [this, h1] at h2
  cases h2
theorem kept_add (M : Int → Option Pn) (x : Pn) (id day own r : Int) : Kept M (addM M x).1 r x.id id day own := by
  refine kept_at r x.id day own fun y hy => ?_
  unfold addM
  split
  · exact hy
  · split
    · exact hy
    · rename_i h2
      by_cases e : id = x.id
      · subst e
        rw [hy] at h2
        exact absurd rfl h2
      · show upd M x.id x id = some y
        rw [upd_other _ _ e]; exact hy
theorem kept_reprice (M : Int → Option Pn) (k : Int) (y : Pr) (id day : Int) : Kept M (repriceM M k y).1 1 k id day y.frm := by
  unfold repriceM
  split
  · exact kept_same _ _ _ _ _ _
  cases hm : M k with
  | none => exact kept_same _ _ _ _ _ _
  | some x =>
    simp only
    split
    · exact kept_same _ _ _ _ _ _
    split
    · exact kept_same _ _ _ _ _ _
    · show Kept M (upd M k (x.more y)) 1 k id day y.frm
      by_cases e : id = k
      · subst e
        have hp : (priceT M id day).2 = 0 → priceT (upd M id (x.more y)) id day = if y.frm ≤ day then (y.amt, 0) else priceT M id day := fun h0 => by
          obtain ⟨_, _, hd⟩ := price_had h0
          rw [price_is (upd_same _ _ _) hd, price_is hm hd]
          exact priceL_more x.ps y day
        have h2 : (priceT M id day).2 = 0 → (priceT (upd M id (x.more y)) id day).2 = 0 := fun h0 => by
          rw [hp h0]
          split
          · rfl
          · exact h0
        refine ⟨h2, fun _ hne => absurd rfl hne, fun h0 h => ?_, fun h1 h3 => ?_⟩
        · rw [hp h0, if_neg (by omega)]
        · have h0 := sold_had h1
          have h4 := ((sold_iff hm).1 h1).2
          have : soldT (upd M id (x.more y)) id day = true := (sold_iff (upd_same _ _ _)).2 ⟨h2 h0, h4⟩
          rw [this] at h3
          cases h3
      · exact kept_at _ _ _ _ fun z hz => by rw [upd_other _ _ e]; exact hz
theorem kept_retire (M : Int → Option Pn) (k d : Int) (id day : Int) : Kept M (retireM M k d).1 2 k id day d := by
  unfold retireM
  split
  · exact kept_same _ _ _ _ _ _
  · rename_i hd
    cases hm : M k with
    | none => exact kept_same _ _ _ _ _ _
    | some x =>
      simp only
      split
      · exact kept_same _ _ _ _ _ _
      · rename_i hr
        show Kept M (upd M k (x.end' d)) 2 k id day d
        by_cases e : id = k
        · subst e
          have hp : priceT (upd M id (x.end' d)) id day = priceT M id day := by
            unfold priceT
            rw [upd_same, hm]
            rfl
          refine ⟨fun h0 => by rw [hp]; exact h0, fun _ _ => by rw [hp], fun _ _ => by rw [hp], fun h1 h3 => ⟨rfl, rfl, fun hlt => ?_⟩⟩
          have h0 := sold_had h1
          have : soldT (upd M id (x.end' d)) id day = true := (sold_iff (upd_same _ _ _)).2 ⟨by rw [hp]; exact h0, .inr hlt⟩
          rw [this] at h3
          cases h3
        · exact kept_at _ _ _ _ fun z hz => by rw [upd_other _ _ e]; exact hz
/-- A catalog after acts. -/
structure Sc (w0 w : World) (c N : Nat) (F : Nat → Prop) (M : Int → Option Pn) (K : List Int) : Prop where
  ct : Ct F w c M K N
  lo : ∀ j, F j → w0.heap.size ≤ j
  b : Below w0.heap.size w0 w
  len : K.length ≤ N
section
variable {w0 w w1 : World} {c N : Nat} {F : Nat → Prop} {M M' : Int → Option Pn} {K : List Int}
theorem Sc.later (h : Sc w0 w c N F M K) (k : Below w.heap.size w w1) : Sc w0 w1 c N F M K := ⟨h.ct.later k, h.lo, h.b.trans (k.mono h.b.size), h.len⟩
theorem Sc.step (h : Sc w0 w c N F M K) (g : Goes F w w1 c M' (K.length + 1) (N + 1)) : ∃ F' K', Sc w0 w1 c (N + 1) F' M' K' ∧ Keeps F w w1 := by
  obtain ⟨F', K', c', l', k', f'⟩ := g
  exact ⟨F', K', ⟨c', fun j hj => (f' j hj).elim (h.lo j) (Nat.le_trans h.b.size), Keeps.belowT h.b k' h.lo h.b.size, by have := h.len; omega⟩, k'⟩
theorem Sc.prs (h : Sc w0 w c N F M K) {a : Option Addr} {L : List Pr} (hp : Prs w0 a L) : Prs w a L := fun j hj => by
  obtain ⟨b, off, ha, hlt, h1, h2⟩ := hp j hj
  exact ⟨b, off, ha, Nat.lt_of_lt_of_le hlt h.b.size, by rw [h.b.cell (by simpa using hlt)]; exact h1, by rw [h.b.cell (by simpa using hlt)]; exact h2⟩
theorem Sc.act_ne {b : Nat} {L : List Value} (h : Sc w0 w c N F M K) (hr : Rw w b TAct L) : ∀ j, F j → j ≠ b := fun j hj e => by
  obtain ⟨bm, tv, n, V, q1, _, _, rfl⟩ := h.ct
  subst e
  exact Pl.act_ne q1 hr hj
end
end Go.Proofs.Ytakpoabpgdmneaa.Pl
