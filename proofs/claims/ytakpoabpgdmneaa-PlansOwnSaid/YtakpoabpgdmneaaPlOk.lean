/- Package plans: what a catalog is told, as mathematics. -/
import Derived.Test.YtakpoabpgdmneaaPlSold
namespace Go.Proofs.Ytakpoabpgdmneaa.Pl
open Go Go.RowKit Ck Go.Maps
theorem okB_parts (x : Pn) : x.okB = (c1B x && c2B x && c3B x && c4B x && ascB x.ps && c6B x) := by
  have : x.okB = (cnd x 0 && (cnd x 1 && (cnd x 2 && (cnd x 3 && (cnd x 4 && (cnd x 5 && true)))))) := rfl
  rw [this]
  show (c1B x && (c2B x && (c3B x && (c4B x && (ascB x.ps && (c6B x && true)))))) = _
  simp only [Bool.and_true, Bool.and_assoc]
/-- A plan whose sale ends. -/
def Pn.end' (x : Pn) (day : Int) : Pn := { x with ret := day }
theorem okB_end {x : Pn} {day : Int} (h : x.okB = true) (hd : dayB day = true) (hl : x.last.frm < day) : (x.end' day).okB = true := by
  rw [okB_parts] at h ⊢
  simp only [Bool.and_eq_true] at h ⊢
  refine ⟨h.1, ?_⟩
  show (decide (day = 0) || (dayB day && decide (x.last.frm < day))) = true
  simp [hd, hl]
/-- A plan that has one more price. -/
def Pn.more (x : Pn) (y : Pr) : Pn := { x with ps := x.ps ++ [y] }
theorem last_more (x : Pn) (y : Pr) : (x.more y).last = y := by
  unfold Pn.last Pn.more
  simp
theorem getD_left {L : List Pr} {y z : Pr} {i : Nat} (h : i < L.length) : (L ++ [y]).getD i z = L.getD i z := by
  rw [List.getD_eq_getElem?_getD, List.getD_eq_getElem?_getD, List.getElem?_append_left h]
theorem ascB_more {L : List Pr} {y : Pr} (h : ascB L = true) (hy : y.okB = true) (h1 : 0 < L.length) (hl : (L.getD (L.length - 1) Pr.zero).frm < y.frm) : ascB (L ++ [y]) = true := by
  unfold ascB at *
  simp only [Bool.not_eq_true', List.any_eq_false, List.mem_range] at h ⊢
  intro i hi
  rw [List.length_append, List.length_singleton] at hi
  by_cases e : i < L.length
  · have := h i e
    unfold badAt at this ⊢
    rw [getD_left e, getD_left (by omega)]
    exact this
  · obtain rfl : i = L.length := by omega
    unfold badAt
    rw [getD_left (show L.length - 1 < L.length by omega)]
    have e2 : (L ++ [y]).getD L.length Pr.zero = y := by simp
    rw [e2, hy]
    simp
    intro _
    have := hl
    simp at this
    omega
theorem okB_more {x : Pn} {y : Pr} (h : x.okB = true) (hy : y.okB = true) (hl : x.last.frm < y.frm) (h9 : x.ps.length < 100) (hr : x.ret = 0 ∨ y.frm < x.ret) : (x.more y).okB = true := by
  have hn := okB_len h
  rw [okB_parts] at h ⊢
  simp only [Bool.and_eq_true] at h ⊢
  obtain ⟨⟨⟨⟨⟨h1, h2⟩, h3⟩, h4⟩, h5⟩, h6⟩ := h
  refine ⟨⟨⟨⟨⟨h1, h2⟩, h3⟩, ?_⟩, ascB_more h5 hy hn.1 hl⟩, ?_⟩
  · show (decide (1 ≤ (x.ps ++ [y]).length) && decide ((x.ps ++ [y]).length ≤ 100)) = true
    simp
    omega
  · have e : c6B (x.more y) = (decide (x.ret = 0) || (dayB x.ret && decide (y.frm < x.ret))) := by
      unfold c6B
      rw [last_more]
      rfl
    rw [e]
    unfold c6B at h6
    simp only [Bool.or_eq_true, Bool.and_eq_true, decide_eq_true_eq] at h6 ⊢
    rcases hr with hr | hr
    · exact .inl hr
    · rcases h6 with h6 | h6
      · exact .inl h6
      · exact .inr ⟨h6.1, hr⟩
/-- The plans by their Ids. -/
def mdl (V : Int → Option Pv) : Int → Option Pn := fun k => (V k).map (·.x)
theorem mdl_upd (V : Int → Option Pv) (k : Int) (p : Pv) : mdl (upd V k p) = upd (mdl V) k p.x := by
  funext c
  unfold mdl upd
  by_cases h : c = k
  · rw [if_pos h, if_pos h]; rfl
  · rw [if_neg h, if_neg h]
/-- What Retire answers, and what is then had. -/
def retireM (M : Int → Option Pn) (k day : Int) : (Int → Option Pn) × Int :=
  if dayB day = false then (M, 2) else match M k with
  | none => (M, 7)
  | some x => if x.ret ≠ 0 ∨ day ≤ x.last.frm then (M, 9) else (upd M k (x.end' day), 0)
/-- Reprice. -/
def repriceM (M : Int → Option Pn) (k : Int) (y : Pr) : (Int → Option Pn) × Int :=
  if y.okB = false then (M, 2) else match M k with
  | none => (M, 7)
  | some x => if y.frm ≤ x.last.frm ∨ (x.ret ≠ 0 ∧ x.ret ≤ y.frm) then (M, 9) else if 100 ≤ x.ps.length then (M, 6) else (upd M k (x.more y), 0)
/-- What an operation leaves. -/
def After (c bm : Nat) (tv : Value) (n : Nat) (V : Int → Option Pv) (w w' : World) (M' : Int → Option Pn) (K' : List Int) : Prop :=
  ∃ tv' n' V', At w' c bm tv' n' V' K' ∧ n' ≤ n + 1 ∧ mdl V' = M' ∧ Keeps (Bs c bm tv V) w w' ∧ ∀ j, Bs c bm tv' V' j → Bs c bm tv V j ∨ w.heap.size ≤ j
theorem After.same {w w' : World} {c bm n : Nat} {tv : Value} {V : Int → Option Pv} {K : List Int} (h : At w c bm tv n V K) (hb : Below w.heap.size w w') : After c bm tv n V w w' (mdl V) K :=
  ⟨tv, n, V, h.later hb, Nat.le_succ _, rfl, Keeps.of _ hb, fun _ hj => .inl hj⟩
end Go.Proofs.Ytakpoabpgdmneaa.Pl
