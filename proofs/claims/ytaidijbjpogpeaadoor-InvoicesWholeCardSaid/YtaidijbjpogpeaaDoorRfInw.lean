/- A region that draws its order, by an invariant: each operation is looked at once, whatever came up before it. -/
import Derived.Test.YtaidijbjpogpeaaDoorRfColl
import Derived.Deep.RegionHeld3
namespace Go.Proofs.YtaidijbjpogpeaaDoor.Rf
open Go Go.RowKit
section
variable {P : Program} {Q : Exit → Act → World → Prop} {ops : Array Oper}
/-- Its place in one order that may be. -/
def rank (ops : Array Oper) (i : Nat) : Nat := (Region.linearise .any ops 0).idxOf i
def lowB (ops : Array Oper) : Bool := (List.range ops.size).all fun i => match ops[i]? with
  | some o => o.after.toList.all fun e => !(Region.binds .any e) || (decide (e.on < ops.size) && decide (rank ops e.on < rank ops i))
  | none => true
theorem low_of (h : lowB ops = true) {i : Nat} {o : Oper} (ho : ops[i]? = some o) {e : Edge} (he : e ∈ o.after) (hb : Region.binds .any e = true) : e.on < ops.size ∧ rank ops e.on < rank ops i := by
  have h1 := List.all_eq_true.1 h i (List.mem_range.2 (Array.getElem?_eq_some_iff.1 ho).1)
  simp only [ho] at h1
  have h2 := List.all_eq_true.1 h1 e (by simpa using he)
  simpa [hb] using h2
/-- How many have not come up. -/
def unl (n : Nat) (l : Array Bool) : Nat := (List.range n).countP fun i => !(l.getD i true)
theorem countP_lt {p q : Nat → Bool} : ∀ (l : List Nat) (i : Nat), i ∈ l → (∀ x, q x = true → p x = true) → p i = true → q i = false → l.countP q < l.countP p
  | x :: l, i, hi, hqp, hp, hq => by
    have hle : l.countP q ≤ l.countP p := List.countP_mono_left fun x _ h => hqp x h
    rw [List.countP_cons, List.countP_cons]
    rcases List.mem_cons.1 hi with rfl | hi
    · rw [if_pos hp, if_neg (by simp [hq])]; omega
    · have := countP_lt l i hi hqp hp hq
      by_cases h1 : q x = true
      · rw [if_pos h1, if_pos (hqp x h1)]; omega
      · rw [if_neg h1]; split <;> omega
theorem getD_set_self {l : Array Bool} {i : Nat} : (l.setIfInBounds i true).getD i true = true := by
  rcases Nat.lt_or_ge i l.size with h | h
  · simp [h]
  · simp [Nat.not_lt.2 h]
theorem getD_set_upd (l : Array Bool) (i : Nat) : (fun k => (l.setIfInBounds i true).getD k true) = fun k => k == i || l.getD k true := by
  funext k
  by_cases h : k = i
  · subst h; rw [getD_set_self]; simp
  · rw [getD_set_ne true (Ne.symm h)]; simp [h]
theorem getD_true {l : Array Bool} {k : Nat} (h : l.getD k false = true) : l.getD k true = true := by
  rcases Nat.lt_or_ge k l.size with h' | h'
  · simpa [h'] using h
  · simp [Array.getElem?_eq_none h']
theorem unl_set {n i : Nat} {l : Array Bool} (hi : i < n) (h : l.getD i true = false) : unl n (l.setIfInBounds i true) < unl n l := by
  refine countP_lt _ i (List.mem_range.2 hi) (fun x hx => ?_) (by rw [h]; rfl) (by rw [getD_set_self]; rfl)
  by_cases hxi : x = i
  · subst hxi; rw [getD_set_self] at hx; cases hx
  · rwa [getD_set_ne true (Ne.symm hxi)] at hx
theorem all_of_ready (hl : lowB ops = true) {l : Array Bool} (hs : l.size = ops.size) (h : Region.ready .any ops l = []) : ∀ k, k < ops.size → l.getD k true = true := by
  have main : ∀ n k, rank ops k = n → k < ops.size → l.getD k true = true := by
    intro n
    induction n using Nat.strongRecOn with
    | ind n ih =>
      intro k hn hk
      cases hb : l.getD k true with
      | true => rfl
      | false =>
        have hin : k ∈ Region.ready .any ops l := mem_ready.2 ⟨hb, ops[k], by simp [hk], fun e he hbi => by
          obtain ⟨hlt, hr⟩ := low_of hl (o := ops[k]) (i := k) (by simp [hk]) he hbi
          have h1 := ih (rank ops e.on) (by omega) e.on rfl hlt
          have h2 : e.on < l.size := by omega
          simpa [h2] using h1⟩
        rw [h] at hin
        cases hin
  exact fun k hk => main _ k rfl hk
/-- What one operation owes. -/
def Step (P : Program) (ops : Array Oper) (Q : Exit → Act → World → Prop) (I : (Nat → Bool) → Act → World → Prop) (i : Nat) (o : Oper) : Prop :=
  ∀ (L : Nat → Bool) (a : Act) (w : World), I L a w → L i = false → (∀ e ∈ o.after, Region.binds .any e = true → L e.on = true) → ∀ K' : Act → World → Prop, Shut (∀ a' w', I (fun k => k == i || L k) a' w' → K' a' w') →
    if Region.wanted o (yielded ops a.tmps) = true then Oper.wp P o a w K' Q else K' (a.put o.dst undef) w
theorem any_inv {I : (Nat → Bool) → Act → World → Prop} (hl : lowB ops = true) (step : ∀ i o, ops[i]? = some o → Step P ops Q I i o)
    (fin : ∀ (L : Nat → Bool) (a : Act) (w : World), I L a w → (∀ k, k < ops.size → L k = true) → Q .normal a w) :
    ∀ (fuel : Nat) (l : Array Bool) (a : Act) (w : World), l.size = ops.size → unl ops.size l ≤ fuel → I (fun k => l.getD k true) a w → wpAny P .any ops Q fuel l a w
  | 0, l, a, w, hs, hu, hI => by
    have hall : ∀ k, k < ops.size → l.getD k true = true := fun k hk => by
      cases hb : l.getD k true with
      | true => rfl
      | false => have := unl_set (n := ops.size) hk hb; omega
    refine ⟨?_, fin _ a w hI hall⟩
    refine List.eq_nil_iff_forall_not_mem.2 fun k hk => ?_
    obtain ⟨h0, o, ho, _⟩ := mem_ready.1 hk
    rw [hall k (Array.getElem?_eq_some_iff.1 ho).1] at h0
    cases h0
  | fuel + 1, l, a, w, hs, hu, hI => by
    refine ⟨fun h => fin _ a w hI (all_of_ready hl hs h), fun i hi => ?_⟩
    obtain ⟨h0, o, ho, hall⟩ := mem_ready.1 hi
    have hlt := (Array.getElem?_eq_some_iff.1 ho).1
    have h2 := unl_set (n := ops.size) hlt h0
    exact wpOp_step ho fun K' hK => step i o ho _ a w hI h0 (fun e he hb => getD_true (hall e he hb)) K' fun a' w' h' => hK a' w' (any_inv hl step fin fuel _ a' w' (by simpa using hs) (by omega) (by rw [getD_set_upd]; exact h'))
/-- The operations from number k on. -/
def Steps (P : Program) (ops : Array Oper) (Q : Exit → Act → World → Prop) (I : (Nat → Bool) → Act → World → Prop) (k : Nat) (l : List Oper) : Prop := ∀ j o, l[j]? = some o → Step P ops Q I (k + j) o
theorem Steps.nil {I : (Nat → Bool) → Act → World → Prop} {k : Nat} : Steps P ops Q I k [] := fun _ _ h => by simp at h
theorem Steps.cons {I : (Nat → Bool) → Act → World → Prop} {k i : Nat} {l : List Oper} {o : Oper} (hk : k = i) (h : Step P ops Q I i o) (hs : Steps P ops Q I (i + 1) l) : Steps P ops Q I k (o :: l) := fun j o' hj => by
  subst hk
  cases j with
  | zero => simp at hj; subst hj; exact h
  | succ j =>
    have := hs j o' (by simpa using hj)
    rwa [show k + 1 + j = k + (j + 1) by omega] at this
/-- THE LAW: an invariant of what has come up, the frame, the world. -/
theorem wp_region_inv {I : Act → (Nat → Bool) → Act → World → Prop} {id : Nat} {a : Act} {w : World} (hm : P.follows .mixedOrders = true) (hl : lowB ops = true)
    (h0 : ∀ L : Nat → Bool, (∀ k, k < ops.size → L k = false) → I a L a w.drew) (steps : Steps P ops Q (I a) 0 ops.toList)
    (fin : ∀ (L : Nat → Bool) (a' : Act) (w : World), I a L a' w → (∀ k, k < ops.size → L k = true) → Q .normal a' w) : (Code.region id ops true).wp P Q a w :=
  wp_region_any hm (any_inv hl (fun i o ho => by have := steps i o (by simpa using ho); rwa [Nat.zero_add] at this) fin ops.size (Array.replicate ops.size false) a w.drew (by simp)
    (by unfold unl; exact Nat.le_trans List.countP_le_length (by simp)) (h0 _ fun k hk => by simp [hk]))
/-- A frame with some slots as told. -/
def putAll (a : Act) : List (Tmp × Value) → Act
  | [] => a
  | p :: l => putAll (a.put (some p.1) p.2) l
end
end Go.Proofs.YtaidijbjpogpeaaDoor.Rf
