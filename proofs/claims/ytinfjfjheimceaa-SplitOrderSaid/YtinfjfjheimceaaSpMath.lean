/- Shares by weights (mathematics): quotients and rests, who gets a unit more, and that this makes the total. -/
import Derived.Test.YtinfjfjheimceaaSoMath
import Derived.Shelf.SlSortCmp.Insertion
namespace Go.Proofs.Ytinfjfjheimceaa.Sp
open Go.Sort Go.Proofs.Ytinfjfjheimceaa.So
/-- How many of the first n. -/
def cn (p : Nat → Bool) (n : Nat) : Nat := (List.range n).countP p
theorem cn_zero (p : Nat → Bool) : cn p 0 = 0 := rfl
theorem cn_succ (p : Nat → Bool) (n : Nat) : cn p (n + 1) = cn p n + if p n then 1 else 0 := by
  unfold cn; rw [List.range_succ, List.countP_append]; simp [List.countP_cons]
theorem cn_le (p : Nat → Bool) (n : Nat) : cn p n ≤ n := by
  induction n with
  | zero => rw [cn_zero]; omega
  | succ n ih => rw [cn_succ]; split <;> omega
theorem cn_mono {p q : Nat → Bool} {n : Nat} (h : ∀ k, k < n → p k = true → q k = true) : cn p n ≤ cn q n := by
  induction n with
  | zero => rw [cn_zero]; omega
  | succ n ih =>
    rw [cn_succ, cn_succ]
    have := ih (fun k hk => h k (by omega))
    have h1 := h n (by omega)
    cases hp : p n <;> cases hq : q n <;> simp_all <;> omega
theorem cn_lt {p q : Nat → Bool} {n i : Nat} (h : ∀ k, k < n → p k = true → q k = true) (hi : i < n) (h1 : p i = false) (h2 : q i = true) : cn p n < cn q n := by
  induction n with
  | zero => omega
  | succ n ih =>
    rw [cn_succ, cn_succ]
    by_cases e : i = n
    · subst e
      have := cn_mono (p := p) (q := q) (n := i) (fun k hk => h k (by omega))
      rw [h1, h2]; simp; omega
    · have := ih (fun k hk => h k (by omega)) (by omega)
      have h3 := h n (by omega)
      cases hp : p n <;> cases hq : q n <;> simp_all <;> omega
/-- Sums of the first n. -/
def sm (f : Nat → Int) : Nat → Int
  | 0 => 0
  | n + 1 => sm f n + f n
theorem sm_congr {f g : Nat → Int} {n : Nat} (h : ∀ k, k < n → f k = g k) : sm f n = sm g n := by
  induction n with
  | zero => rfl
  | succ n ih => rw [sm, sm, ih (fun k hk => h k (by omega)), h n (by omega)]
theorem sm_add (f g : Nat → Int) (n : Nat) : sm (fun k => f k + g k) n = sm f n + sm g n := by
  induction n with
  | zero => rfl
  | succ n ih => rw [sm, sm, sm, ih]; omega
theorem sm_mul (c : Int) (f : Nat → Int) (n : Nat) : sm (fun k => c * f k) n = c * sm f n := by
  induction n with
  | zero => rw [sm, sm, Int.mul_zero]
  | succ n ih => rw [sm, sm, ih, Int.mul_add]
theorem sm_cn (p : Nat → Bool) (n : Nat) : sm (fun k => if p k then 1 else 0) n = (cn p n : Int) := by
  induction n with
  | zero => rfl
  | succ n ih => rw [sm, ih, cn_succ]; cases p n <;> simp
theorem sm_list (l : List Int) : ∀ n, n ≤ l.length → sm (fun i => l.getD i 0) n = (l.take n).sum
  | 0, _ => by simp [sm]
  | n + 1, h => by
    rw [sm, sm_list l n (by omega), List.take_add_one, List.sum_append]
    simp [List.getElem?_eq_getElem (show n < l.length by omega)]
theorem sm_nonneg {f : Nat → Int} {n : Nat} (h : ∀ k, k < n → 0 ≤ f k) : 0 ≤ sm f n := by
  induction n with
  | zero => exact Int.le_refl 0
  | succ n ih => rw [sm]; have := ih (fun k hk => h k (by omega)); have := h n (by omega); omega
theorem sm_mono {f : Nat → Int} {n m : Nat} (h : ∀ k, k < n → 0 ≤ f k) (hm : m ≤ n) : sm f m ≤ sm f n := by
  induction n with
  | zero => obtain rfl : m = 0 := by omega
            exact Int.le_refl _
  | succ n ih =>
    by_cases e : m = n + 1
    · rw [e]; exact Int.le_refl _
    · rw [sm]; have := ih (fun k hk => h k (by omega)) (by omega); have := h n (by omega); omega
/-- A share: its place, its quotient, its rest. -/
abbrev Sh := Nat × Int × Int
def enc (x : Sh) : List Value := [.int .i64 x.1, .int .i64 x.2.1, .int .i64 x.2.2]
def bf (x y : Sh) : Prop := y.2.2 < x.2.2 ∨ x.2.2 = y.2.2 ∧ x.1 < y.1
theorem bf_trans (x y z : Sh) (h1 : bf x y) (h2 : bf y z) : bf x z := by unfold bf at *; omega
theorem bf_irrefl (x : Sh) : ¬ bf x x := by unfold bf; omega
theorem bf_asymm {x y : Sh} (h : bf x y) : ¬ bf y x := by unfold bf at *; omega
theorem bf_total {x y : Sh} (h : x.1 ≠ y.1) : bf x y ∨ bf y x := by unfold bf; omega
instance (x y : Sh) : Decidable (bf x y) := by unfold bf; exact inferInstance
def cf (x y : Sh) : Int := if y.2.2 < x.2.2 then -1 else if x.2.2 < y.2.2 then 1 else 0
theorem lt_cf (x y : Sh) : Go.Proofs.ltOf cf x y = decide (y.2.2 < x.2.2) := by
  unfold Go.Proofs.ltOf cf
  by_cases h1 : y.2.2 < x.2.2
  · simp [h1]
  · by_cases h2 : x.2.2 < y.2.2 <;> simp [h1, h2]
/-- The shares of weights. -/
def sh (T A : Int) (l : List Int) (i : Nat) : Sh := (i, T * l.getD i 0 / A, T * l.getD i 0 % A)
def shs (T A : Int) (l : List Int) (n : Nat) : Array Sh := ((List.range n).map (sh T A l)).toArray
theorem shs_size (T A : Int) (l : List Int) (n : Nat) : (shs T A l n).size = n := by simp [shs]
theorem shs_get (T A : Int) (l : List Int) (n i : Nat) (h : i < n) : (shs T A l n)[i]! = sh T A l i := by
  simp [shs, h]
theorem fair (T A : Int) (l : List Int) (n : Nat) : So.Fair (Go.Proofs.ltOf cf) bf (shs T A l n) n := fun i j h1 h2 => by
  rw [shs_get _ _ _ _ _ (by omega), shs_get _ _ _ _ _ h2]
  unfold Ag
  rw [lt_cf]
  unfold bf sh
  simp only [decide_eq_true_eq, decide_eq_false_iff_not]
  omega
/-- How many stand ahead of one. -/
def ahead (T A : Int) (l : List Int) (i k : Nat) : Bool := decide (bf (sh T A l k) (sh T A l i))
def cnt (T A : Int) (l : List Int) (i : Nat) : Nat := cn (ahead T A l i) l.length
theorem cnt_lt {T A : Int} {l : List Int} {i k : Nat} (hi : i < l.length) (h : bf (sh T A l i) (sh T A l k)) : cnt T A l i < cnt T A l k := by
  unfold cnt
  refine cn_lt (i := i) (fun j hj h1 => ?_) hi ?_ ?_
  · unfold ahead at *; simp only [decide_eq_true_eq] at *; exact bf_trans _ _ _ h1 h
  · unfold ahead; exact decide_eq_false (bf_irrefl _)
  · unfold ahead; exact decide_eq_true h
theorem cnt_inv {T A : Int} {l : List Int} {i k : Nat} (hk : k < l.length) (hne : i ≠ k) (h : cnt T A l i < cnt T A l k) : bf (sh T A l i) (sh T A l k) := by
  rcases bf_total (x := sh T A l i) (y := sh T A l k) hne with h1 | h1
  · exact h1
  · have := cnt_lt hk h1; omega
/-- What is left, when each has its quotient. -/
def left (T A : Int) (l : List Int) : Int := T - sm (fun i => T * l.getD i 0 / A) l.length
/-- The slices. -/
def slice (T A : Int) (l : List Int) (i : Nat) : Int := T * l.getD i 0 / A + if (cnt T A l i : Int) < left T A l then 1 else 0
/-- Weights that may be. -/
structure Fine (T A : Int) (l : List Int) : Prop where
  t0 : 0 ≤ T
  t1 : T < 4611686018427387904
  a0 : 0 < A
  a1 : A < 4611686018427387904
  sum : l.sum = A
  pos : ∀ i, i < l.length → 0 ≤ l.getD i 0
theorem Fine.le {T A : Int} {l : List Int} (F : Fine T A l) (i : Nat) (hi : i < l.length) : l.getD i 0 ≤ A := by
  have h1 := sm_list l l.length (Nat.le_refl _)
  rw [List.take_length, F.sum] at h1
  have h2 := sm_mono (f := fun i => l.getD i 0) (n := l.length) (m := i + 1) (fun k hk => F.pos k hk) (by omega)
  have h3 := sm_nonneg (f := fun i => l.getD i 0) (n := i) (fun k hk => F.pos k (by omega))
  rw [sm] at h2
  omega
theorem Fine.q {T A : Int} {l : List Int} (F : Fine T A l) (i : Nat) (hi : i < l.length) : 0 ≤ T * l.getD i 0 / A ∧ T * l.getD i 0 / A ≤ T ∧ 0 ≤ T * l.getD i 0 % A ∧ T * l.getD i 0 % A < A := by
  have h0 := F.pos i hi
  have h1 := F.le i hi
  have ha := F.a0
  have hp : 0 ≤ T * l.getD i 0 := Int.mul_nonneg F.t0 h0
  refine ⟨Int.ediv_nonneg hp (by omega), ?_, Int.emod_nonneg _ (by omega), Int.emod_lt_of_pos _ ha⟩
  have h2 : T * l.getD i 0 ≤ T * A := Int.mul_le_mul_of_nonneg_left h1 F.t0
  have h3 := Int.ediv_le_ediv ha h2
  rwa [Int.mul_ediv_cancel _ (by omega)] at h3
theorem Fine.rests {T A : Int} {l : List Int} (F : Fine T A l) : sm (fun i => T * l.getD i 0 % A) l.length = A * left T A l := by
  have h1 := sm_list l l.length (Nat.le_refl _)
  rw [List.take_length, F.sum] at h1
  have h2 : sm (fun i => T * l.getD i 0) l.length = T * A := by rw [sm_mul, h1]
  have h3 : sm (fun i => A * (T * l.getD i 0 / A) + T * l.getD i 0 % A) l.length = sm (fun i => T * l.getD i 0) l.length := sm_congr fun k _ => Int.mul_ediv_add_emod _ _
  rw [sm_add, sm_mul, h2] at h3
  unfold left
  rw [Int.mul_sub, Int.mul_comm A T]
  omega
theorem sm_le_cn {f : Nat → Int} {A : Int} {n : Nat} (h : ∀ k, k < n → 0 ≤ f k ∧ f k < A) : sm f n ≤ A * cn (fun k => decide (0 < f k)) n ∧ (sm f n = A * cn (fun k => decide (0 < f k)) n → sm f n = 0) := by
  induction n with
  | zero => rw [sm, cn_zero]; simp
  | succ n ih =>
    obtain ⟨i1, i2⟩ := ih (fun k hk => h k (by omega))
    obtain ⟨h1, h2⟩ := h n (by omega)
    rw [sm, cn_succ]
    by_cases hf : 0 < f n
    · simp only [hf, decide_true, if_true]
      push_cast
      rw [Int.mul_add, Int.mul_one]
      exact ⟨by omega, fun e => by omega⟩
    · have : f n = 0 := by omega
      have hd : (if decide (0 < f n) = true then 1 else 0) = (0 : Nat) := by rw [decide_eq_false hf]; rfl
      rw [hd, this, Int.add_zero, Nat.add_zero]
      exact ⟨i1, i2⟩
theorem Fine.left_bd {T A : Int} {l : List Int} (F : Fine T A l) : 0 ≤ left T A l ∧ (left T A l = 0 ∨ left T A l < (cn (fun k => decide (0 < T * l.getD k 0 % A)) l.length : Int)) := by
  have h1 := F.rests
  obtain ⟨h2, h3⟩ := sm_le_cn (f := fun i => T * l.getD i 0 % A) (A := A) (n := l.length) (fun k hk => (F.q k hk).2.2)
  have h4 := sm_nonneg (f := fun i => T * l.getD i 0 % A) (n := l.length) (fun k hk => (F.q k hk).2.2.1)
  have ha := F.a0
  rw [h1] at h2 h3 h4
  have h5 : 0 ≤ left T A l := by
    rcases Int.lt_or_le (left T A l) 0 with h | h
    · have := Int.mul_neg_of_pos_of_neg ha h; omega
    · exact h
  refine ⟨h5, ?_⟩
  have h6 : left T A l ≤ (cn (fun k => decide (0 < T * l.getD k 0 % A)) l.length : Int) := Int.le_of_mul_le_mul_left h2 ha
  rcases Int.lt_or_eq_of_le h6 with h | h
  · exact Or.inr h
  · left
    have := h3 (by rw [h])
    rcases Int.mul_eq_zero.1 this with h7 | h7 <;> omega
theorem Fine.left_le {T A : Int} {l : List Int} (F : Fine T A l) : left T A l ≤ l.length := by
  obtain ⟨h1, h2⟩ := F.left_bd
  have := cn_le (fun k => decide (0 < T * l.getD k 0 % A)) l.length
  omega
/-- None that has no rest gets a unit more. -/
theorem Fine.more {T A : Int} {l : List Int} (F : Fine T A l) {i : Nat} (h : (cnt T A l i : Int) < left T A l) (hi : i < l.length) : 0 < T * l.getD i 0 % A := by
  obtain ⟨h1, h2⟩ := F.left_bd
  have h3 := (F.q i hi).2.2.1
  rcases Int.lt_or_eq_of_le h3 with h4 | h4
  · exact h4
  · have h5 : cn (fun k => decide (0 < T * l.getD k 0 % A)) l.length ≤ cnt T A l i := by
      unfold cnt
      refine cn_mono fun k hk hp => ?_
      have hp' : 0 < T * l.getD k 0 % A := of_decide_eq_true hp
      refine decide_eq_true (Or.inl ?_)
      show T * l.getD i 0 % A < T * l.getD k 0 % A
      omega
    omega
theorem Fine.slice_bd {T A : Int} {l : List Int} (F : Fine T A l) {i : Nat} (hi : i < l.length) : 0 ≤ slice T A l i ∧ slice T A l i ≤ 4611686018427387904 := by
  obtain ⟨h1, h2, _⟩ := F.q i hi
  have := F.t1
  unfold slice
  split <;> omega
theorem perm_map_sum {α : Type} {l l' : List α} (h : l.Perm l') (f : α → Int) : (l.map f).sum = (l'.map f).sum := by
  induction h with
  | nil => rfl
  | cons x _ ih => simp [ih]
  | swap x y l => simp only [List.map_cons, List.sum_cons]; omega
  | trans _ _ i1 i2 => rw [i1, i2]
theorem sm_range (f : Nat → Int) (n : Nat) : sm f n = ((List.range n).map f).sum := by
  induction n with
  | zero => rfl
  | succ n ih => rw [sm, List.range_succ, List.map_append, List.sum_append, ih]; simp
theorem extract_list (d : Array Sh) : (d.extract 0 d.size).toList = (List.range d.size).map fun i => d[i]! := by
  rw [extract_toList d 0 d.size (Nat.le_refl _), Nat.sub_zero, List.range_eq_range']
/-- A row that holds the shares, sorted. -/
structure Sorted (T A : Int) (l : List Int) (d : Array Sh) : Prop where
  perm : PermIn 0 l.length (shs T A l l.length) d
  srt : Srt bf 0 l.length d
section
variable {T A : Int} {l : List Int} {d : Array Sh}
theorem Sorted.size (S : Sorted T A l d) : d.size = l.length := by rw [S.perm.1, shs_size]
theorem Sorted.list (S : Sorted T A l d) : ((List.range l.length).map fun i => d[i]!).Perm ((List.range l.length).map fun i => sh T A l i) := by
  have h := S.perm.2.2
  have e1 := extract_list d
  have e2 := extract_list (shs T A l l.length)
  rw [S.size] at e1
  rw [shs_size] at e2
  rw [e1, e2] at h
  refine h.trans (List.Perm.of_eq ?_)
  exact List.map_congr_left fun i hi => shs_get _ _ _ _ _ (List.mem_range.1 hi)
theorem Sorted.at_ (S : Sorted T A l d) (p : Nat) (hp : p < l.length) : ∃ i, i < l.length ∧ d[p]! = sh T A l i := by
  have := S.list.mem_iff.1 (List.mem_map.2 ⟨p, List.mem_range.2 hp, rfl⟩)
  obtain ⟨i, hi, e⟩ := List.mem_map.1 this
  exact ⟨i, List.mem_range.1 hi, e.symm⟩
theorem cn_lt_id (p n : Nat) (h : p ≤ n) : cn (fun k => decide (k < p)) n = p := by
  induction n with
  | zero => rw [cn_zero]; omega
  | succ n ih =>
    rw [cn_succ]
    by_cases e : p = n + 1
    · subst e
      have : cn (fun k => decide (k < n + 1)) n = n := by
        have h1 := cn_mono (p := fun k => decide (k < n)) (q := fun k => decide (k < n + 1)) (n := n) (fun k hk _ => by simp; omega)
        have h2 := cn_le (fun k => decide (k < n + 1)) n
        have h3 : cn (fun k => decide (k < n)) n = n := by
          clear ih h1 h2 h
          have : ∀ m, m ≤ n → cn (fun k => decide (k < n)) m = m := fun m hm => by
            induction m with
            | zero => rfl
            | succ m ihm => rw [cn_succ, ihm (by omega)]; simp; omega
          exact this n (Nat.le_refl _)
        omega
      rw [this]; simp
    · rw [ih (by omega)]
      simp; omega
/-- Where one stands is how many are ahead of it. -/
theorem Sorted.cnt (S : Sorted T A l d) {p i : Nat} (hp : p < l.length) (h : d[p]! = sh T A l i) : cnt T A l i = p := by
  have hc := S.list.countP_eq (fun x => decide (bf x (sh T A l i)))
  rw [List.countP_map, List.countP_map] at hc
  have e1 : Sp.cnt T A l i = List.countP ((fun x => decide (bf x (sh T A l i))) ∘ fun i => sh T A l i) (List.range l.length) := rfl
  rw [e1, ← hc]
  have e2 : List.countP ((fun x => decide (bf x (sh T A l i))) ∘ fun i => d[i]!) (List.range l.length) = cn (fun k => decide (k < p)) l.length := by
    unfold cn
    refine List.countP_congr fun k hk => ?_
    have hk := List.mem_range.1 hk
    simp only [Function.comp_apply, decide_eq_true_eq]
    rw [← h]
    constructor
    · intro hb
      rcases Nat.lt_trichotomy k p with q | q | q
      · exact q
      · subst q; exact absurd hb (bf_irrefl _)
      · exact absurd hb (bf_asymm (S.srt p k (Nat.zero_le _) q hk))
    · intro q
      exact S.srt k p (Nat.zero_le _) q hp
  rw [e2, cn_lt_id p _ (by omega)]
theorem Sorted.surj (S : Sorted T A l d) (t : Nat) (ht : t < l.length) : ∃ j, j < l.length ∧ Sp.cnt T A l j = t := by
  obtain ⟨i, hi, e⟩ := S.at_ t ht
  exact ⟨i, hi, S.cnt ht e⟩
theorem Sorted.sum (S : Sorted T A l d) (F : Fine T A l) : sm (slice T A l) l.length = T := by
  have h1 : sm (slice T A l) l.length = sm (fun i => T * l.getD i 0 / A) l.length + sm (fun i => if (Sp.cnt T A l i : Int) < left T A l then 1 else 0) l.length := sm_add _ _ _
  have h2 : sm (fun i => if (Sp.cnt T A l i : Int) < left T A l then 1 else 0) l.length = left T A l := by
    rw [sm_range]
    have e := perm_map_sum S.list (fun x => if (Sp.cnt T A l x.1 : Int) < left T A l then 1 else 0)
    rw [List.map_map, List.map_map] at e
    have e1 : (List.range l.length).map ((fun x : Sh => if (Sp.cnt T A l x.1 : Int) < left T A l then (1 : Int) else 0) ∘ fun i => sh T A l i) = (List.range l.length).map (fun i => if (Sp.cnt T A l i : Int) < left T A l then 1 else 0) := List.map_congr_left fun i _ => rfl
    have e2 : (List.range l.length).map ((fun x : Sh => if (Sp.cnt T A l x.1 : Int) < left T A l then (1 : Int) else 0) ∘ fun i => d[i]!) = (List.range l.length).map (fun p : Nat => if (p : Int) < left T A l then 1 else 0) := List.map_congr_left fun p hp => by
      obtain ⟨i, hi, e⟩ := S.at_ p (List.mem_range.1 hp)
      have := S.cnt (List.mem_range.1 hp) e
      simp only [Function.comp_apply, e]
      show (if (Sp.cnt T A l i : Int) < left T A l then (1 : Int) else 0) = _
      rw [this]
    rw [← e1, ← e, e2, ← sm_range]
    have h3 := F.left_bd.1
    have h4 := F.left_le
    obtain ⟨m, hm⟩ := Int.eq_ofNat_of_zero_le h3
    rw [hm]
    have e3 : sm (fun p : Nat => if (p : Int) < (m : Int) then 1 else 0) l.length = sm (fun p => if decide (p < m) then 1 else 0) l.length := sm_congr fun k _ => by
      by_cases q : k < m
      · rw [if_pos (by omega), if_pos (by simpa using q)]
      · rw [if_neg (by omega), if_neg (by simpa using q)]
    rw [e3, sm_cn, cn_lt_id m _ (by omega)]
  rw [h1, h2]; unfold left; omega
end
end Go.Proofs.Ytinfjfjheimceaa.Sp
