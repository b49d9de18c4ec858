/- Package journal: lines that are tidied (mathematics). -/
import Derived.Test.YtnblilonjpfdnaaJnChk
namespace Go.Proofs.Ytnblilonjpfdnaa.Jn
open Go Go.RowKit Ck
/-- What lines have in common that become one. -/
abbrev Key := Int × Int × Int
def Ln.key (x : Ln) : Key := (x.acc, x.cus, x.con)
def Ln.of (k : Key) (n : Int) : Ln := ⟨k.1, k.2.1, k.2.2, n⟩
def klt (a b : Key) : Prop := a.1 < b.1 ∨ (a.1 = b.1 ∧ (a.2.1 < b.2.1 ∨ (a.2.1 = b.2.1 ∧ a.2.2 < b.2.2)))
instance (a b : Key) : Decidable (klt a b) := by unfold klt; infer_instance
theorem klt_trans {a b c : Key} (h : klt a b) (h' : klt b c) : klt a c := by unfold klt at *; omega
theorem klt_irrefl (a : Key) : ¬ klt a a := by unfold klt; omega
theorem klt_total {a b : Key} (h : a ≠ b) : klt a b ∨ klt b a := by
  obtain ⟨a1, a2, a3⟩ := a
  obtain ⟨b1, b2, b3⟩ := b
  unfold klt
  simp only
  by_cases h1 : a1 = b1
  · by_cases h2 : a2 = b2
    · by_cases h3 : a3 = b3
      · exact absurd (by rw [h1, h2, h3]) h
      · omega
    · omega
  · omega
theorem Ln.of_self (x : Ln) : Ln.of x.key x.amt = x := rfl
theorem Ln.key_of (k : Key) (n : Int) : (Ln.of k n).key = k := rfl
/-- Lines in order, none twice. -/
def Up (T : List Ln) : Prop := T.Pairwise fun a b => klt a.key b.key
/-- The amounts of a key; their sum. -/
def ofKey (L : List Ln) (k : Key) : List Int := (L.filter fun x => decide (x.key = k)).map Ln.amt
def ksum (L : List Ln) (k : Key) : Int := (ofKey L k).sum
theorem ofKey_app (A B : List Ln) (k : Key) : ofKey (A ++ B) k = ofKey A k ++ ofKey B k := by unfold ofKey; rw [List.filter_append, List.map_append]
theorem ofKey_one (x : Ln) (k : Key) : ofKey [x] k = if x.key = k then [x.amt] else [] := by
  unfold ofKey
  by_cases h : x.key = k
  · rw [if_pos h]; simp [h]
  · rw [if_neg h]; simp [h]
theorem ofKey_len (L : List Ln) (k : Key) : (ofKey L k).length ≤ L.length := by
  unfold ofKey
  rw [List.length_map]
  exact List.length_filter_le _ _
theorem ofKey_mem {L : List Ln} {k : Key} {n : Int} (h : n ∈ ofKey L k) : ∃ x ∈ L, x.key = k ∧ x.amt = n := by
  unfold ofKey at h
  obtain ⟨x, hx, e⟩ := List.mem_map.1 h
  obtain ⟨h1, h2⟩ := List.mem_filter.1 hx
  exact ⟨x, h1, by simpa using h2, e⟩
theorem ofKey_ne {L : List Ln} {k : Key} : ofKey L k = [] ↔ ∀ x ∈ L, x.key ≠ k := by
  unfold ofKey
  rw [List.map_eq_nil_iff, List.filter_eq_nil_iff]
  simp
theorem ksum_app (A B : List Ln) (k : Key) : ksum (A ++ B) k = ksum A k + ksum B k := by unfold ksum; rw [ofKey_app, List.sum_append]
theorem ksum_cons (x : Ln) (L : List Ln) (k : Key) : ksum (x :: L) k = (if x.key = k then x.amt else 0) + ksum L k := by
  rw [show x :: L = [x] ++ L from rfl, ksum_app]
  congr 1
  unfold ksum
  rw [ofKey_one]
  by_cases h : x.key = k
  · rw [if_pos h, if_pos h]; simp
  · rw [if_neg h, if_neg h]; rfl
theorem ksum_no {L : List Ln} {k : Key} (h : ∀ x ∈ L, x.key ≠ k) : ksum L k = 0 := by unfold ksum; rw [ofKey_ne.2 h]; rfl
theorem ksum_has {L : List Ln} {k : Key} (h : ksum L k ≠ 0) : ∃ x ∈ L, x.key = k := by
  refine Classical.byContradiction fun hn => h (ksum_no fun x hx e => hn ⟨x, hx, e⟩)
theorem up_uniq : ∀ {T T' : List Ln}, Up T → Up T' → (∀ y, y ∈ T ↔ y ∈ T') → T = T'
  | [], [], _, _, _ => rfl
  | [], y :: _, _, _, h => absurd ((h y).2 (by simp)) (by simp)
  | x :: _, [], _, _, h => absurd ((h x).1 (by simp)) (by simp)
  | x :: T, y :: T', h1, h2, h => by
    obtain ⟨h1, h1'⟩ := List.pairwise_cons.1 h1
    obtain ⟨h2, h2'⟩ := List.pairwise_cons.1 h2
    have e : x = y := by
      rcases List.mem_cons.1 ((h x).1 (by simp)) with e | hx
      · exact e
      · rcases List.mem_cons.1 ((h y).2 (by simp)) with e | hy
        · exact e.symm
        · exact absurd (klt_trans (h1 y hy) (h2 x hx)) (klt_irrefl _)
    subst e
    congr 1
    refine up_uniq h1' h2' fun z => ⟨fun hz => ?_, fun hz => ?_⟩
    · rcases List.mem_cons.1 ((h z).1 (by simp [hz])) with e | h'
      · subst e; exact absurd (h1 _ hz) (klt_irrefl _)
      · exact h'
    · rcases List.mem_cons.1 ((h z).2 (by simp [hz])) with e | h'
      · subst e; exact absurd (h2 _ hz) (klt_irrefl _)
      · exact h'
theorem up_ksum {T : List Ln} (h : Up T) {y : Ln} (hy : y ∈ T) : ksum T y.key = y.amt := by
  induction T with
  | nil => cases hy
  | cons x T ih =>
    obtain ⟨h1, h2⟩ := List.pairwise_cons.1 h
    rw [ksum_cons]
    rcases List.mem_cons.1 hy with rfl | hy
    · rw [if_pos rfl, ksum_no fun z hz e => ?_]
      · omega
      · have := h1 z hz
        rw [e] at this
        exact klt_irrefl _ this
    · rw [if_neg, ih h2 hy]
      · omega
      · intro e
        have := h1 y hy
        rw [e] at this
        exact klt_irrefl _ this
/-- T is L, tidied. -/
structure Tidied (L T : List Ln) : Prop where
  up : Up T
  mem : ∀ y, y ∈ T ↔ y.amt ≠ 0 ∧ y.amt = ksum L y.key
theorem Tidied.uniq {L T T' : List Ln} (h : Tidied L T) (h' : Tidied L T') : T = T' := up_uniq h.up h'.up fun y => by rw [h.mem, h'.mem]
theorem Tidied.sum {L T : List Ln} (h : Tidied L T) (k : Key) : ksum T k = ksum L k := by
  by_cases h0 : ksum L k = 0
  · rw [h0]
    refine Classical.byContradiction fun hn => ?_
    obtain ⟨y, hy, rfl⟩ := ksum_has hn
    rw [up_ksum h.up hy] at hn
    exact hn (((h.mem y).1 hy).2.trans h0)
  · have h1 : Ln.of k (ksum L k) ∈ T := (h.mem _).2 ⟨h0, rfl⟩
    exact up_ksum h.up h1
theorem Tidied.again {L T : List Ln} (h : Tidied L T) : Tidied T T := ⟨h.up, fun y => by rw [h.sum]; exact h.mem y⟩
theorem Tidied.congr {L L' T : List Ln} (h : Tidied L T) (he : ∀ k, ksum L' k = ksum L k) : Tidied L' T := ⟨h.up, fun y => by rw [he]; exact h.mem y⟩
theorem Tidied.none {L T : List Ln} (h : Tidied L T) (he : ∀ k, ksum L k = 0) : T = [] := List.eq_nil_iff_forall_not_mem.2 fun y hy => by
  obtain ⟨h1, h2⟩ := (h.mem y).1 hy
  exact h1 (h2.trans (he _))
/-- Whether lines can be tidied. -/
def tokB (L : List Ln) : Bool := L.all Ln.okB && L.all fun x => fitB (ksum L x.key)
theorem fit_0 : fitB 0 = true := by decide
theorem Tidied.tok {L T : List Ln} (h : Tidied L T) (ht : tokB L = true) : tokB T = true := by
  unfold tokB at *
  rw [Bool.and_eq_true] at ht ⊢
  obtain ⟨h1, h2⟩ := ht
  have key : ∀ y ∈ T, 1 ≤ y.acc ∧ y.acc ≤ 9999 ∧ fitB (ksum L y.key) = true := fun y hy => by
    obtain ⟨g1, g2⟩ := (h.mem y).1 hy
    obtain ⟨x, hx, e⟩ := ksum_has (g2 ▸ g1)
    have hk := okB_amt (List.all_eq_true.1 h1 x hx)
    have hf := List.all_eq_true.1 h2 x hx
    rw [e] at hf
    have ea : x.acc = y.acc := congrArg (fun k : Key => k.1) e
    exact ⟨by omega, by omega, hf⟩
  refine ⟨List.all_eq_true.2 fun y hy => ?_, List.all_eq_true.2 fun y hy => by rw [h.sum]; exact (key y hy).2.2⟩
  obtain ⟨g1, g2⟩ := (h.mem y).1 hy
  obtain ⟨k1, k2, k3⟩ := key y hy
  rw [← g2] at k3
  unfold Ln.okB
  rw [k3]
  simp [k1, k2, g1]
/-- The code's way: the owners in order. -/
def tidyK (L : List Ln) (K : List Key) : List Ln := (K.filter fun k => decide (ksum L k ≠ 0)).map fun k => Ln.of k (ksum L k)
theorem tidyK_snoc (L : List Ln) (K : List Key) (k : Key) : tidyK L (K ++ [k]) = if ksum L k = 0 then tidyK L K else tidyK L K ++ [Ln.of k (ksum L k)] := by
  unfold tidyK
  rw [List.filter_append, List.map_append]
  by_cases h : ksum L k = 0
  · rw [if_pos h]; simp [h]
  · rw [if_neg h]; simp [h]
theorem tidyK_len (L : List Ln) (K : List Key) : (tidyK L K).length ≤ K.length := by
  unfold tidyK
  rw [List.length_map]
  exact List.length_filter_le _ _
theorem tidied_of {L : List Ln} {K : List Key} (hup : K.Pairwise klt) (hmem : ∀ x ∈ L, x.key ∈ K) : Tidied L (tidyK L K) := by
  refine ⟨?_, fun y => ?_⟩
  · unfold Up tidyK
    rw [List.pairwise_map]
    exact hup.filter _
  · unfold tidyK
    rw [List.mem_map]
    constructor
    · rintro ⟨k, hk, rfl⟩
      exact ⟨of_decide_eq_true (List.mem_filter.1 hk).2, rfl⟩
    · rintro ⟨h1, h2⟩
      obtain ⟨x, hx, e⟩ := ksum_has (h2 ▸ h1)
      exact ⟨y.key, List.mem_filter.2 ⟨e ▸ hmem x hx, by simpa using h2 ▸ h1⟩, by rw [← h2]; rfl⟩
/-- Owners as they are met. -/
def owners (L : List Ln) : List Key := L.foldl (fun K x => if x.key ∈ K then K else K ++ [x.key]) []
theorem owners_snoc (L : List Ln) (x : Ln) : owners (L ++ [x]) = if x.key ∈ owners L then owners L else owners L ++ [x.key] := by
  unfold owners
  rw [List.foldl_append]
  rfl
theorem owners_mem (L : List Ln) : ∀ k, k ∈ owners L ↔ ∃ x ∈ L, x.key = k := by
  suffices h : ∀ n, ∀ L : List Ln, L.length = n → ∀ k, k ∈ owners L ↔ ∃ x ∈ L, x.key = k from h _ L rfl
  intro n
  induction n with
  | zero =>
    intro L hL k
    obtain rfl := List.length_eq_zero_iff.1 hL
    simp [owners]
  | succ n ih =>
    intro L hL k
    obtain ⟨A, x, rfl⟩ : ∃ A x, L = A ++ [x] := ⟨L.dropLast, L.getLast (by intro e; rw [e] at hL; simp at hL), (List.dropLast_concat_getLast _).symm⟩
    have hA := ih A (by simpa using hL)
    rw [owners_snoc]
    by_cases h : x.key ∈ owners A
    · rw [if_pos h, hA]
      constructor
      · rintro ⟨y, hy, e⟩; exact ⟨y, by simp [hy], e⟩
      · rintro ⟨y, hy, rfl⟩
        rcases List.mem_append.1 hy with hy | hy
        · exact ⟨y, hy, rfl⟩
        · rw [List.mem_singleton] at hy
          subst hy
          exact (hA _).1 h
    · rw [if_neg h, List.mem_append, hA, List.mem_singleton]
      constructor
      · rintro (⟨y, hy, e⟩ | rfl)
        · exact ⟨y, by simp [hy], e⟩
        · exact ⟨x, by simp, rfl⟩
      · rintro ⟨y, hy, rfl⟩
        rcases List.mem_append.1 hy with hy | hy
        · exact .inl ⟨y, hy, rfl⟩
        · rw [List.mem_singleton] at hy
          subst hy
          exact .inr rfl
theorem owners_nodup (L : List Ln) : (owners L).Nodup := by
  suffices h : ∀ n, ∀ L : List Ln, L.length = n → (owners L).Nodup from h _ L rfl
  intro n
  induction n with
  | zero =>
    intro L hL
    obtain rfl := List.length_eq_zero_iff.1 hL
    exact List.Pairwise.nil
  | succ n ih =>
    intro L hL
    obtain ⟨A, x, rfl⟩ : ∃ A x, L = A ++ [x] := ⟨L.dropLast, L.getLast (by intro e; rw [e] at hL; simp at hL), (List.dropLast_concat_getLast _).symm⟩
    have hA := ih A (by simpa using hL)
    rw [owners_snoc]
    by_cases h : x.key ∈ owners A
    · rw [if_pos h]; exact hA
    · rw [if_neg h]
      refine List.nodup_append.2 ⟨hA, by simp, fun a ha b hb => ?_⟩
      rw [List.mem_singleton] at hb
      subst hb
      intro e
      subst e
      exact h ha
theorem owners_len (L : List Ln) : (owners L).length ≤ L.length := by
  suffices h : ∀ n, ∀ L : List Ln, L.length = n → (owners L).length ≤ n from h _ L rfl
  intro n
  induction n with
  | zero =>
    intro L hL
    obtain rfl := List.length_eq_zero_iff.1 hL
    exact Nat.le_refl _
  | succ n ih =>
    intro L hL
    obtain ⟨A, x, rfl⟩ : ∃ A x, L = A ++ [x] := ⟨L.dropLast, L.getLast (by intro e; rw [e] at hL; simp at hL), (List.dropLast_concat_getLast _).symm⟩
    have hA := ih A (by simpa using hL)
    rw [owners_snoc]
    by_cases h : x.key ∈ owners A
    · rw [if_pos h]; omega
    · rw [if_neg h, List.length_append, List.length_singleton]; omega
/-- A line put in its place. -/
def insL (T : List Ln) (n : Nat) (x : Ln) : List Ln := T.take n ++ x :: T.drop n
theorem insL_mem {T : List Ln} {n : Nat} {x y : Ln} : y ∈ insL T n x ↔ y = x ∨ y ∈ T := by
  unfold insL
  rw [List.mem_append, List.mem_cons]
  constructor
  · rintro (h | h | h)
    · exact .inr (List.mem_of_mem_take h)
    · exact .inl h
    · exact .inr (List.mem_of_mem_drop h)
  · rintro (h | h)
    · exact .inr (.inl h)
    · have := List.take_append_drop n T
      rw [← this] at h
      rcases List.mem_append.1 h with h | h
      · exact .inl h
      · exact .inr (.inr h)
theorem insL_len (T : List Ln) (n : Nat) (x : Ln) : (insL T n x).length = T.length + 1 := by
  unfold insL
  simp
  omega
theorem up_put {T : List Ln} {n : Nat} {x : Ln} (h : Up T) (h1 : ∀ j (hj : j < T.length), j < n → klt T[j].key x.key) (h2 : ∀ hn : n < T.length, ¬ klt T[n].key x.key) (hne : ∀ y ∈ T, y.key ≠ x.key) : Up (insL T n x) := by
  unfold Up insL at *
  have ht : (T.take n ++ T.drop n).Pairwise fun a b => klt a.key b.key := by rw [List.take_append_drop]; exact h
  obtain ⟨t1, t2, t3⟩ := List.pairwise_append.1 ht
  have ta : ∀ y ∈ T.take n, klt y.key x.key := fun y hy => by
    obtain ⟨j, hj, rfl⟩ := List.getElem_of_mem hy
    rw [List.length_take] at hj
    rw [List.getElem_take]
    exact h1 j (by omega) (by omega)
  have td : ∀ y ∈ T.drop n, klt x.key y.key := fun y hy => by
    by_cases hn : n < T.length
    · have hx : klt x.key T[n].key := (klt_total (hne _ (List.getElem_mem hn)).symm).resolve_right (h2 hn)
      obtain ⟨j, hj, rfl⟩ := List.getElem_of_mem hy
      rw [List.length_drop] at hj
      rw [List.getElem_drop]
      cases j with
      | zero => exact hx
      | succ j => exact klt_trans hx (List.pairwise_iff_getElem.1 h n (n + (j + 1)) hn (by omega) (by omega))
    · rw [List.drop_eq_nil_of_le (by omega)] at hy
      cases hy
  rw [List.pairwise_append, List.pairwise_cons]
  refine ⟨t1, ⟨td, t2⟩, fun a ha b hb => ?_⟩
  rcases List.mem_cons.1 hb with rfl | hb
  · exact ta a ha
  · exact t3 a ha b hb
/-- The document's way: what it has behind so many rounds. -/
structure DocAt (L : List Ln) (i : Nat) (T : List Ln) : Prop where
  up : Up T
  mem : ∀ y, y ∈ T ↔ y.amt ≠ 0 ∧ y.amt = ksum L y.key ∧ ∃ j, ∃ h : j < L.length, j < i ∧ L[j].key = y.key
theorem DocAt.zero (L : List Ln) : DocAt L 0 [] := ⟨List.Pairwise.nil, fun y => by simp⟩
theorem DocAt.skip {L T : List Ln} {i : Nat} (h : DocAt L i T) (hi : i < L.length) (hs : (∃ j, ∃ h : j < L.length, j < i ∧ L[j].key = L[i].key) ∨ ksum L L[i].key = 0) : DocAt L (i + 1) T := ⟨h.up, fun y => by
  rw [h.mem]
  constructor
  · rintro ⟨h1, h2, j, hj, hji, e⟩
    exact ⟨h1, h2, j, hj, by omega, e⟩
  · rintro ⟨h1, h2, j, hj, hji, e⟩
    refine ⟨h1, h2, ?_⟩
    by_cases hh : j = i
    · subst hh
      rcases hs with ⟨j', hj', hji', e'⟩ | h0
      · exact ⟨j', hj', hji', e'.trans e⟩
      · rw [e] at h0
        exact absurd (h2.trans h0) h1
    · exact ⟨j, hj, by omega, e⟩⟩
theorem DocAt.put {L T : List Ln} {i n : Nat} (h : DocAt L i T) (hi : i < L.length) (hf : ∀ j, ∀ h : j < L.length, j < i → L[j].key ≠ L[i].key) (h0 : ksum L L[i].key ≠ 0) (h1 : ∀ j (hj : j < T.length), j < n → klt T[j].key L[i].key) (h2 : ∀ hn : n < T.length, ¬ klt T[n].key L[i].key) : DocAt L (i + 1) (insL T n (Ln.of L[i].key (ksum L L[i].key))) := by
  refine ⟨up_put h.up h1 h2 fun y hy e => ?_, fun y => ?_⟩
  · obtain ⟨_, _, j, hj, hji, e'⟩ := (h.mem y).1 hy
    exact hf j hj hji (e'.trans e)
  · rw [insL_mem, h.mem]
    constructor
    · rintro (rfl | ⟨g1, g2, j, hj, hji, e⟩)
      · exact ⟨h0, rfl, i, hi, by omega, rfl⟩
      · exact ⟨g1, g2, j, hj, by omega, e⟩
    · rintro ⟨g1, g2, j, hj, hji, e⟩
      by_cases hh : j = i
      · subst hh
        left
        rw [e, ← g2]
        rfl
      · exact .inr ⟨g1, g2, j, hj, by omega, e⟩
theorem DocAt.done {L T : List Ln} {i : Nat} (h : DocAt L i T) (hi : L.length ≤ i) : Tidied L T := ⟨h.up, fun y => by
  rw [h.mem]
  constructor
  · rintro ⟨h1, h2, _⟩; exact ⟨h1, h2⟩
  · rintro ⟨h1, h2⟩
    obtain ⟨x, hx, e⟩ := ksum_has (h2 ▸ h1)
    obtain ⟨j, hj, rfl⟩ := List.getElem_of_mem hx
    exact ⟨h1, h2, j, hj, by omega, e⟩⟩
/-- Lines taken back. -/
def Ln.neg (x : Ln) : Ln := ⟨x.acc, x.cus, x.con, -x.amt⟩
theorem neg_ok {x : Ln} (h : x.okB = true) : x.neg.okB = true := by
  have := okB_amt h
  unfold Ln.okB fitB Ln.neg
  simp
  omega
theorem ksum_neg (L : List Ln) (k : Key) : ksum (L.map Ln.neg) k = - ksum L k := by
  induction L with
  | nil => rfl
  | cons x L ih =>
    rw [List.map_cons, ksum_cons, ksum_cons, ih]
    have e : x.neg.key = x.key := rfl
    rw [e]
    by_cases h : x.key = k
    · rw [if_pos h, if_pos h]
      show -x.amt + _ = _
      omega
    · rw [if_neg h, if_neg h]; omega
theorem sumL_neg (L : List Ln) : sumL (L.map Ln.neg) = - sumL L := by
  unfold sumL
  induction L with
  | nil => rfl
  | cons x L ih =>
    rw [List.map_cons, List.map_cons, List.map_cons, List.sum_cons, List.sum_cons, ih]
    show -x.amt + _ = _
    omega
theorem all_neg {L : List Ln} (h : L.all Ln.okB = true) : (L.map Ln.neg).all Ln.okB = true := List.all_eq_true.2 fun y hy => by
  obtain ⟨x, hx, rfl⟩ := List.mem_map.1 hy
  exact neg_ok (List.all_eq_true.1 h x hx)
theorem tok_turn {L : List Ln} (h : L.all Ln.okB = true) : tokB (L ++ L.map Ln.neg) = true := by
  unfold tokB
  rw [Bool.and_eq_true]
  refine ⟨by rw [List.all_append, h, all_neg h]; rfl, List.all_eq_true.2 fun x _ => ?_⟩
  rw [ksum_app, ksum_neg, show ∀ a : Int, a + -a = 0 from fun a => by omega]
  exact fit_0
theorem sum_turn (L : List Ln) (k : Key) : ksum (L ++ L.map Ln.neg) k = 0 := by rw [ksum_app, ksum_neg]; omega
theorem ksum_comm (A B : List Ln) (k : Key) : ksum (A ++ B) k = ksum (B ++ A) k := by rw [ksum_app, ksum_app]; omega
theorem tok_comm {A B : List Ln} (h : tokB (A ++ B) = true) : tokB (B ++ A) = true := by
  unfold tokB at *
  rw [Bool.and_eq_true] at *
  obtain ⟨h1, h2⟩ := h
  refine ⟨?_, List.all_eq_true.2 fun x hx => ?_⟩
  · rw [List.all_append, Bool.and_eq_true] at *
    exact h1.symm
  · rw [ksum_comm]
    exact List.all_eq_true.1 h2 x (by rw [List.mem_append] at *; exact hx.symm)
end Go.Proofs.Ytnblilonjpfdnaa.Jn
