/- Sorting in place (mathematics): runs of exchanges, turns of a part of a row, and merges of two sorted parts that lie side by side. -/
import Derived.Sort.LotA
namespace Go.Proofs.Ytinfjfjheimceaa.So
open Go.Sort
variable {α : Type} [Inhabited α]
theorem perm_mono {d d' : Array α} {a b a' b' : Nat} (h : PermIn a b d d') (h1 : a' ≤ a) (h2 : b ≤ b') (h3 : b' ≤ d.size) : PermIn a' b' d d' := permIn_mono d d' a b a' b' h1 h2 h3 h
theorem perm_trans {d d' d'' : Array α} {a b : Nat} (h : PermIn a b d d') (h' : PermIn a b d' d'') : PermIn a b d d'' := permIn_trans d d' d'' a b h h'
theorem perm_swp (d : Array α) (a b i j : Nat) (h1 : a ≤ i) (h2 : i < b) (h3 : a ≤ j) (h4 : j < b) (h5 : b ≤ d.size) : PermIn a b d (swp d i j) := swp_permIn d a b i j h1 h2 h3 h4 h5
/-- n exchanges: those from a on with those from b on. -/
def swps (d : Array α) (a b : Nat) : Nat → Array α
  | 0 => d
  | n + 1 => swp (swps d a b n) (a + n) (b + n)
theorem size_swps (d : Array α) (a b n : Nat) : (swps d a b n).size = d.size := by
  induction n with
  | zero => rfl
  | succ n ih => rw [swps, swp_size, ih]
theorem get_swps (d : Array α) (a b n x : Nat) (h : a + n ≤ b) (hb : b + n ≤ d.size) :
    (swps d a b n)[x]! = if a ≤ x ∧ x < a + n then d[x - a + b]! else if b ≤ x ∧ x < b + n then d[x - b + a]! else d[x]! := by
  induction n generalizing x with
  | zero => rw [swps, if_neg (by omega), if_neg (by omega)]
  | succ n ih =>
    rw [swps, swp_get _ (by rw [size_swps]; omega) (by rw [size_swps]; omega), ih (a + n) (by omega) (by omega), ih (b + n) (by omega) (by omega), ih x (by omega) (by omega)]
    by_cases h1 : x = b + n
    · rw [if_pos h1, if_neg (by omega), if_neg (by omega), if_neg (by omega), if_pos (by omega)]
      congr 1; omega
    · rw [if_neg h1]
      by_cases h2 : x = a + n
      · rw [if_pos h2, if_neg (by omega), if_neg (by omega), if_pos (by omega)]
        congr 1; omega
      · rw [if_neg h2]
        by_cases h3 : a ≤ x ∧ x < a + n
        · rw [if_pos h3, if_pos (show a ≤ x ∧ x < a + (n + 1) by omega)]
        · rw [if_neg h3, if_neg (show ¬ (a ≤ x ∧ x < a + (n + 1)) by omega)]
          by_cases h4 : b ≤ x ∧ x < b + n
          · rw [if_pos h4, if_pos (show b ≤ x ∧ x < b + (n + 1) by omega)]
          · rw [if_neg h4, if_neg (show ¬ (b ≤ x ∧ x < b + (n + 1)) by omega)]
theorem perm_swps (d : Array α) (lo hi a b n : Nat) (h1 : lo ≤ a) (h : a + n ≤ b) (hb : b + n ≤ hi) (hh : hi ≤ d.size) : PermIn lo hi d (swps d a b n) := by
  induction n with
  | zero => exact permIn_refl _ _ _
  | succ n ih => exact perm_trans (ih (by omega) (by omega)) (perm_swp _ lo hi _ _ (by omega) (by omega) (by omega) (by omega) (by rw [size_swps]; exact hh))
/-- d' is d, with a ≤ x < m and m ≤ x < b in one another's place. -/
structure Rot (d d' : Array α) (a m b : Nat) : Prop where
  perm : PermIn a b d d'
  lo : ∀ x, a ≤ x → x < a + (b - m) → d'[x]! = d[x + (m - a)]!
  hi : ∀ x, a + (b - m) ≤ x → x < b → d'[x]! = d[x - (b - m)]!
theorem Rot.out {d d' : Array α} {a m b x : Nat} (h : Rot d d' a m b) (hx : x < a ∨ b ≤ x) : d'[x]! = d[x]! := h.perm.2.1 x hx
theorem Rot.size {d d' : Array α} {a m b : Nat} (h : Rot d d' a m b) : d'.size = d.size := h.perm.1
theorem Rot.none {d : Array α} {a m b : Nat} (h : a = m ∨ b = m) (hab : a ≤ b) : Rot d d a m b := by
  refine ⟨permIn_refl _ _ _, fun x h1 h2 => ?_, fun x h1 h2 => ?_⟩
  · rcases h with rfl | rfl
    · congr 1; omega
    · omega
  · rcases h with rfl | rfl
    · omega
    · congr 1; omega
/-- What stands at x at last. -/
def tgt (d : Array α) (a m b x : Nat) : α := if x < a + (b - m) then d[x + (m - a)]! else d[x - (b - m)]!
/-- The turn, under way: what is left is m - i ≤ x < m + j. -/
structure RotI (d e : Array α) (a m b i j : Nat) : Prop where
  i0 : 1 ≤ i
  j0 : 1 ≤ j
  i1 : i + a ≤ m
  j1 : m + j ≤ b
  sz : b ≤ d.size
  perm : PermIn a b d e
  left : ∀ x, a ≤ x → x < m - i → e[x]! = tgt d a m b x
  right : ∀ x, m + j ≤ x → x < b → e[x]! = tgt d a m b x
  lo : ∀ x, m - i ≤ x → x < m - i + j → tgt d a m b x = e[x + i]!
  hi : ∀ x, m - i + j ≤ x → x < m + j → tgt d a m b x = e[x - j]!
theorem RotI.size {d e : Array α} {a m b i j : Nat} (h : RotI d e a m b i j) : e.size = d.size := h.perm.1
theorem RotI.start {d : Array α} {a m b : Nat} (h1 : a < m) (h2 : m < b) (h3 : b ≤ d.size) : RotI d d a m b (m - a) (b - m) := by
  refine ⟨by omega, by omega, by omega, by omega, h3, permIn_refl _ _ _, fun x h4 h5 => by omega, fun x h4 h5 => by omega, fun x h4 h5 => ?_, fun x h4 h5 => ?_⟩
  · unfold tgt; rw [if_pos (by omega)]
  · unfold tgt; rw [if_neg (by omega)]
theorem RotI.gt {d e : Array α} {a m b i j : Nat} (h : RotI d e a m b i j) (hij : j < i) : RotI d (swps e (m - i) m j) a m b (i - j) j := by
  obtain ⟨i0, j0, i1, j1, sz, perm, left, right, lo, hi⟩ := h
  have sz' := perm.1
  have g := fun x => get_swps e (m - i) m j x (by omega) (by omega)
  refine ⟨by omega, by omega, by omega, by omega, sz, perm_trans perm (perm_swps e a b _ _ _ (by omega) (by omega) (by omega) (by omega)), fun x h1 h2 => ?_, fun x h1 h2 => ?_, fun x h1 h2 => ?_, fun x h1 h2 => ?_⟩
  · rw [g x]
    by_cases h3 : m - i ≤ x
    · rw [if_pos (by omega), lo x h3 (by omega)]; congr 1; omega
    · rw [if_neg (by omega), if_neg (by omega), left x h1 (by omega)]
  · rw [g x, if_neg (by omega), if_neg (by omega), right x h1 h2]
  · rw [g (x + (i - j)), hi x (by omega) (by omega)]
    by_cases h3 : m ≤ x + (i - j)
    · rw [if_neg (by omega), if_pos (by omega)]; congr 1; omega
    · omega
  · rw [g (x - j), hi x (by omega) (by omega)]
    rw [if_neg (by omega), if_neg (by omega)]
theorem RotI.lt {d e : Array α} {a m b i j : Nat} (h : RotI d e a m b i j) (hij : i < j) : RotI d (swps e (m - i) (m + j - i) i) a m b i (j - i) := by
  obtain ⟨i0, j0, i1, j1, sz, perm, left, right, lo, hi⟩ := h
  have sz' := perm.1
  have g := fun x => get_swps e (m - i) (m + j - i) i x (by omega) (by omega)
  refine ⟨by omega, by omega, by omega, by omega, sz, perm_trans perm (perm_swps e a b _ _ _ (by omega) (by omega) (by omega) (by omega)), fun x h1 h2 => ?_, fun x h1 h2 => ?_, fun x h1 h2 => ?_, fun x h1 h2 => ?_⟩
  · rw [g x, if_neg (by omega), if_neg (by omega), left x h1 (by omega)]
  · rw [g x]
    by_cases h3 : x < m + j
    · rw [if_neg (by omega), if_pos (by omega), hi x (by omega) (by omega)]; congr 1; omega
    · rw [if_neg (by omega), if_neg (by omega), right x (by omega) h2]
  · rw [g (x + i), lo x (by omega) (by omega), if_neg (by omega), if_neg (by omega)]
  · rw [g (x - (j - i)), lo x (by omega) (by omega)]
    by_cases h3 : x - (j - i) < m
    · rw [if_pos (by omega)]; congr 1; omega
    · omega
theorem RotI.done {d e : Array α} {a m b i : Nat} (h : RotI d e a m b i i) : Rot d (swps e (m - i) m i) a m b := by
  obtain ⟨i0, j0, i1, j1, sz, perm, left, right, lo, hi⟩ := h
  have sz' := perm.1
  have g := fun x => get_swps e (m - i) m i x (by omega) (by omega)
  have t : ∀ x, a ≤ x → x < b → (swps e (m - i) m i)[x]! = tgt d a m b x := fun x h1 h2 => by
    rw [g x]
    by_cases h3 : m - i ≤ x ∧ x < m - i + i
    · rw [if_pos h3, lo x (by omega) (by omega)]; congr 1; omega
    · rw [if_neg h3]
      by_cases h4 : m ≤ x ∧ x < m + i
      · rw [if_pos h4, hi x (by omega) (by omega)]; congr 1; omega
      · rw [if_neg h4]
        by_cases h5 : x < m
        · exact left x h1 (by omega)
        · exact right x (by omega) h2
  refine ⟨perm_trans perm (perm_swps e a b _ _ _ (by omega) (by omega) (by omega) (by omega)), fun x h1 h2 => ?_, fun x h1 h2 => ?_⟩
  · rw [t x h1 (by omega)]; unfold tgt; rw [if_pos h2]
  · rw [t x (by omega) h2]; unfold tgt; rw [if_neg (by omega)]
/-- The one at m, on its way down: it is at k. -/
structure Shl (d e : Array α) (k m : Nat) : Prop where
  km : k ≤ m
  sz : m < d.size
  perm : PermIn k (m + 1) d e
  at_ : e[k]! = d[m]!
  up : ∀ x, k < x → x ≤ m → e[x]! = d[x - 1]!
theorem Shl.start {d : Array α} {m : Nat} (h : m < d.size) : Shl d d m m := ⟨Nat.le_refl _, h, permIn_refl _ _ _, rfl, fun x h1 h2 => by omega⟩
theorem Shl.size {d e : Array α} {k m : Nat} (h : Shl d e k m) : e.size = d.size := h.perm.1
theorem Shl.below {d e : Array α} {k m x : Nat} (h : Shl d e k m) (hx : x < k) : e[x]! = d[x]! := h.perm.2.1 x (Or.inl hx)
theorem Shl.step {d e : Array α} {k m : Nat} (h : Shl d e (k + 1) m) : Shl d (swp e (k + 1) k) k m := by
  obtain ⟨km, sz, perm, at_, up⟩ := h
  have sz' := perm.1
  have g := fun x => swp_get e (i := k + 1) (j := k) (by omega) (by omega) x
  refine ⟨by omega, sz, perm_trans (perm_mono perm (by omega) (Nat.le_refl _) (by omega)) (perm_swp e _ _ _ _ (by omega) (by omega) (by omega) (by omega) (by omega)), ?_, fun x h1 h2 => ?_⟩
  · rw [g k, if_pos rfl, at_]
  · rw [g x, if_neg (by omega)]
    by_cases h3 : x = k + 1
    · rw [if_pos h3, h3, perm.2.1 k (Or.inl (by omega))]; rfl
    · rw [if_neg h3, up x (by omega) h2]
theorem Shl.rot {d e : Array α} {k m : Nat} (h : Shl d e k m) : Rot d e k m (m + 1) := by
  obtain ⟨km, sz, perm, at_, up⟩ := h
  refine ⟨perm, fun x h1 h2 => ?_, fun x h1 h2 => ?_⟩
  · obtain rfl : x = k := by omega
    rw [at_]; congr 1; omega
  · rw [up x (by omega) (by omega)]; congr 1; omega
/-- The one at a, on its way up: it is at k. -/
structure Shr (d e : Array α) (a k : Nat) : Prop where
  ak : a ≤ k
  sz : k < d.size
  perm : PermIn a (k + 1) d e
  at_ : e[k]! = d[a]!
  down : ∀ x, a ≤ x → x < k → e[x]! = d[x + 1]!
theorem Shr.start {d : Array α} {a : Nat} (h : a < d.size) : Shr d d a a := ⟨Nat.le_refl _, h, permIn_refl _ _ _, rfl, fun x h1 h2 => by omega⟩
theorem Shr.size {d e : Array α} {a k : Nat} (h : Shr d e a k) : e.size = d.size := h.perm.1
theorem Shr.step {d e : Array α} {a k : Nat} (h : Shr d e a k) (hk : k + 1 < d.size) : Shr d (swp e k (k + 1)) a (k + 1) := by
  obtain ⟨ak, sz, perm, at_, down⟩ := h
  have sz' := perm.1
  have g := fun x => swp_get e (i := k) (j := k + 1) (by omega) (by omega) x
  refine ⟨by omega, hk, perm_trans (perm_mono perm (Nat.le_refl _) (by omega) (by omega)) (perm_swp e _ _ _ _ (by omega) (by omega) (by omega) (by omega) (by omega)), ?_, fun x h1 h2 => ?_⟩
  · rw [g (k + 1), if_pos rfl, at_]
  · rw [g x, if_neg (by omega)]
    by_cases h3 : x = k
    · rw [if_pos h3, h3, perm.2.1 (k + 1) (Or.inr (by omega))]
    · rw [if_neg h3, down x h1 (by omega)]
theorem Shr.rot {d e : Array α} {a k : Nat} (h : Shr d e a k) : Rot d e a (a + 1) (k + 1) := by
  obtain ⟨ak, sz, perm, at_, down⟩ := h
  refine ⟨perm, fun x h1 h2 => ?_, fun x h1 h2 => ?_⟩
  · rw [down x h1 (by omega)]; congr 1; omega
  · obtain rfl : x = k := by omega
    rw [at_]; congr 1; omega
/-- Each one stands ahead of all behind it. -/
def Srt (bf : α → α → Prop) (a b : Nat) (d : Array α) : Prop := ∀ i j, a ≤ i → i < j → j < b → bf d[i]! d[j]!
/-- A test tells of two of two parts which one stands ahead. -/
def Ag (c : α → α → Bool) (bf : α → α → Prop) (x y : α) : Prop := (c y x = true → bf y x) ∧ (c y x = false → bf x y)
def Agr (c : α → α → Bool) (bf : α → α → Prop) (a m b : Nat) (d : Array α) : Prop := ∀ i j, a ≤ i → i < m → m ≤ j → j < b → Ag c bf d[i]! d[j]!
variable {bf : α → α → Prop} {c : α → α → Bool}
theorem Srt.congr {a b : Nat} {d d' : Array α} (h : Srt bf a b d) (e : ∀ x, a ≤ x → x < b → d'[x]! = d[x]!) : Srt bf a b d' := fun i j h1 h2 h3 => by
  rw [e i h1 (by omega), e j (by omega) h3]; exact h i j h1 h2 h3
theorem Agr.congr {a m b : Nat} {d d' : Array α} (h : Agr c bf a m b d) (e : ∀ x, a ≤ x → x < b → d'[x]! = d[x]!) : Agr c bf a m b d' := fun i j h1 h2 h3 h4 => by
  rw [e i h1 (by omega), e j (by omega) h4]; exact h i j h1 h2 h3 h4
theorem Srt.small {a b : Nat} (d : Array α) (h : b ≤ a + 1) : Srt bf a b d := fun i j h1 h2 h3 => by omega
theorem Srt.join {a s b : Nat} {d : Array α} (h1 : Srt bf a s d) (h2 : Srt bf s b d) (h : s ≤ a ∨ b ≤ s) : Srt bf a b d := fun i j g1 g2 g3 => by
  rcases h with h | h
  · exact h2 i j (by omega) g2 g3
  · exact h1 i j g1 g2 (by omega)
/-- What there is behind a turn of s ≤ x < m and m ≤ x < e. -/
structure Parts (c : α → α → Bool) (bf : α → α → Prop) (a s k e b : Nat) (d : Array α) : Prop where
  as : Srt bf a s d
  sk : Srt bf s k d
  ke : Srt bf k e d
  eb : Srt bf e b d
  cross : ∀ i j, a ≤ i → i < k → k ≤ j → j < b → bf d[i]! d[j]!
  agl : Agr c bf a s k d
  agr : Agr c bf k e b d
theorem parts (tr : ∀ x y z, bf x y → bf y z → bf x z) {d d' : Array α} {a s m e b : Nat} (has : a ≤ s) (hsm : s ≤ m) (hme : m ≤ e) (heb : e ≤ b) (hl : Srt bf a m d) (hr : Srt bf m b d) (ag : Agr c bf a m b d)
    (h1 : s = a ∨ e = b ∨ c d[e]! d[s - 1]! = false) (h2 : s = m ∨ e = m ∨ c d[e - 1]! d[s]! = true) (R : Rot d d' s m e) : Parts c bf a s (s + (e - m)) e b d' := by
  have L : ∀ i, i < s → d'[i]! = d[i]! := fun i h => R.out (Or.inl h)
  have H : ∀ i, e ≤ i → d'[i]! = d[i]! := fun i h => R.out (Or.inr h)
  have c1 : ∀ i j, a ≤ i → i < s → e ≤ j → j < b → bf d[i]! d[j]! := fun i j g1 g2 g3 g4 => by
    rcases h1 with h | h | h
    · omega
    · omega
    · have b1 := (ag (s - 1) e (by omega) (by omega) (by omega) (by omega)).2 h
      have b2 : bf d[i]! d[e]! := by
        by_cases q : i = s - 1
        · rw [q]; exact b1
        · exact tr _ _ _ (hl i (s - 1) g1 (by omega) (by omega)) b1
      by_cases q : j = e
      · rw [q]; exact b2
      · exact tr _ _ _ b2 (hr e j (by omega) (by omega) g4)
  have c2 : ∀ i j, m ≤ i → i < e → s ≤ j → j < m → bf d[i]! d[j]! := fun i j g1 g2 g3 g4 => by
    rcases h2 with h | h | h
    · omega
    · omega
    · have b1 := (ag s (e - 1) (by omega) (by omega) (by omega) (by omega)).1 h
      have b2 : bf d[i]! d[s]! := by
        by_cases q : i = e - 1
        · rw [q]; exact b1
        · exact tr _ _ _ (hr i (e - 1) g1 (by omega) (by omega)) b1
      by_cases q : j = s
      · rw [q]; exact b2
      · exact tr _ _ _ b2 (hl s j (by omega) (by omega) g4)
  refine ⟨fun i j g1 g2 g3 => ?_, fun i j g1 g2 g3 => ?_, fun i j g1 g2 g3 => ?_, fun i j g1 g2 g3 => ?_, fun i j g1 g2 g3 g4 => ?_, fun i j g1 g2 g3 g4 => ?_, fun i j g1 g2 g3 g4 => ?_⟩
  · rw [L i (by omega), L j (by omega)]; exact hl i j g1 g2 (by omega)
  · rw [R.lo i g1 (by omega), R.lo j (by omega) (by omega)]; exact hr _ _ (by omega) (by omega) (by omega)
  · rw [R.hi i g1 (by omega), R.hi j (by omega) (by omega)]; exact hl _ _ (by omega) (by omega) (by omega)
  · rw [H i (by omega), H j (by omega)]; exact hr _ _ (by omega) (by omega) (by omega)
  · by_cases q1 : i < s
    · rw [L i q1]
      by_cases q2 : j < e
      · rw [R.hi j g3 q2]; exact hl _ _ g1 (by omega) (by omega)
      · rw [H j (by omega)]; exact c1 i j g1 q1 (by omega) g4
    · rw [R.lo i (by omega) g2]
      by_cases q2 : j < e
      · rw [R.hi j g3 q2]; exact c2 _ _ (by omega) (by omega) (by omega) (by omega)
      · rw [H j (by omega)]; exact hr _ _ (by omega) (by omega) g4
  · rw [L i g2, R.lo j g3 g4]; exact ag _ _ g1 (by omega) (by omega) (by omega)
  · rw [R.hi i g1 g2, H j g3]; exact ag _ _ (by omega) (by omega) (by omega) g4
/-- d' is d, with a ≤ x < b sorted. -/
structure Mrg (bf : α → α → Prop) (a b : Nat) (d d' : Array α) : Prop where
  perm : PermIn a b d d'
  srt : Srt bf a b d'
theorem Mrg.size {a b : Nat} {d d' : Array α} (h : Mrg bf a b d d') : d'.size = d.size := h.perm.1
/-- Behind both halves. -/
theorem Parts.all {a s k e b : Nat} {d d1 d2 : Array α} (P : Parts c bf a s k e b d) (hb : b ≤ d.size) (hak : a ≤ k) (hkb : k ≤ b) (h1 : Mrg bf a k d d1) (h2 : Mrg bf k b d1 d2) : Mrg bf a b d d2 := by
  have z1 := h1.perm.1
  refine ⟨perm_trans (perm_mono h1.perm (Nat.le_refl _) hkb hb) (perm_mono h2.perm hak (Nat.le_refl _) (by omega)), fun i j g1 g2 g3 => ?_⟩
  by_cases q1 : j < k
  · rw [h2.perm.2.1 i (Or.inl (by omega)), h2.perm.2.1 j (Or.inl q1)]; exact h1.srt i j g1 g2 q1
  · by_cases q2 : k ≤ i
    · exact h2.srt i j q2 g2 g3
    · rw [h2.perm.2.1 i (Or.inl (by omega))]
      have e1 : ∀ y, k ≤ y → y < b → bf d1[i]! d[y]! := fun y u1 u2 => permIn_all d d1 a k (fun x => bf x d[y]!) (by omega) h1.perm (fun x v1 v2 => P.cross x y v1 v2 u1 u2) i g1 (by omega)
      refine permIn_all d1 d2 k b (fun y => bf d1[i]! y) (by omega) h2.perm (fun y u1 u2 => ?_) j (by omega) g3
      rw [h1.perm.2.1 y (Or.inr u1)]; exact e1 y u1 u2
theorem Parts.one {a s k e b : Nat} {d : Array α} (P : Parts c bf a s k e b d) (hb : b ≤ d.size) (hak : a ≤ k) (hkb : k ≤ b) (h1 : Srt bf a k d) (h2 : Srt bf k b d) : Mrg bf a b d d :=
  P.all hb hak hkb ⟨permIn_refl _ _ _, h1⟩ ⟨permIn_refl _ _ _, h2⟩
theorem Mrg.after {a s m e b : Nat} {d d1 d2 : Array α} (R : Rot d d1 s m e) (has : a ≤ s) (heb : e ≤ b) (hb : b ≤ d.size) (h : Mrg bf a b d1 d2) : Mrg bf a b d d2 :=
  ⟨perm_trans (perm_mono R.perm has heb hb) h.perm, h.srt⟩
/-- One ahead of a sorted part. -/
theorem mrg_first (tr : ∀ x y z, bf x y → bf y z → bf x z) {d d' : Array α} {a e b : Nat} (h0 : a + 1 ≤ e) (heb : e ≤ b) (hb : b ≤ d.size) (hr : Srt bf (a + 1) b d) (ag : Agr c bf a (a + 1) b d)
    (h1 : e = b ∨ c d[e]! d[a]! = false) (h2 : e = a + 1 ∨ c d[e - 1]! d[a]! = true) (R : Rot d d' a (a + 1) e) : Mrg bf a b d d' := by
  have P := parts tr (Nat.le_refl a) (Nat.le_succ a) h0 heb (Srt.small d (by omega)) hr ag (Or.inl rfl) (h2.imp_left (fun h => h) |>.elim (fun h => Or.inr (Or.inl h)) (fun h => Or.inr (Or.inr h))) R
  refine Mrg.after R (Nat.le_refl _) heb hb (P.one (by rw [R.size]; exact hb) (by omega) (by omega) (P.as.join P.sk (Or.inl (Nat.le_refl _))) (fun i j g1 g2 g3 => ?_))
  by_cases q : i < e
  · obtain rfl : i = a + (e - (a + 1)) := by omega
    have he : c d[e]! d[a]! = false := by
      rcases h1 with h | h
      · omega
      · exact h
    have hb1 := (ag a e (Nat.le_refl _) (by omega) (by omega) (by omega)).2 he
    have hb2 : bf d[a]! d[j]! := by
      by_cases q2 : j = e
      · rw [q2]; exact hb1
      · exact tr _ _ _ hb1 (hr e j (by omega) (by omega) g3)
    have e1 : d'[a + (e - (a + 1))]! = d[a]! := by rw [R.hi _ (Nat.le_refl _) q]; congr 1; omega
    rw [e1, R.out (Or.inr (by omega))]
    exact hb2
  · exact P.eb i j (by omega) g2 g3
/-- One behind a sorted part. -/
theorem mrg_last (tr : ∀ x y z, bf x y → bf y z → bf x z) {d d' : Array α} {a s m : Nat} (h0 : a ≤ s) (hsm : s ≤ m) (hb : m + 1 ≤ d.size) (hl : Srt bf a m d) (ag : Agr c bf a m (m + 1) d)
    (h1 : s = a ∨ c d[m]! d[s - 1]! = false) (h2 : s = m ∨ c d[m]! d[s]! = true) (R : Rot d d' s m (m + 1)) : Mrg bf a (m + 1) d d' := by
  by_cases hs : s = m
  · subst hs
    have hd : Srt bf a (s + 1) d := fun i j g1 g2 g3 => by
      by_cases q : j < s
      · exact hl i j g1 g2 q
      · obtain rfl : j = s := by omega
        have hc : c d[j]! d[j - 1]! = false := by
          rcases h1 with h | h
          · omega
          · exact h
        have hb1 := (ag (j - 1) j (by omega) (by omega) (Nat.le_refl _) (by omega)).2 hc
        by_cases q2 : i = j - 1
        · rw [q2]; exact hb1
        · exact tr _ _ _ (hl i (j - 1) g1 (by omega) (by omega)) hb1
    refine ⟨perm_mono R.perm h0 (Nat.le_refl _) hb, hd.congr fun x g1 g2 => ?_⟩
    by_cases q : x < s
    · exact R.out (Or.inl q)
    · rw [R.lo x (by omega) (by omega)]; congr 1; omega
  · have P := parts tr h0 hsm (Nat.le_succ m) (Nat.le_refl _) hl (Srt.small d (by omega)) ag (Or.inr (Or.inl rfl)) (h2.elim Or.inl (fun h => Or.inr (Or.inr h))) R
    have k1 : s + (m + 1 - m) = s + 1 := by omega
    rw [k1] at P
    refine Mrg.after R h0 (Nat.le_refl _) hb (P.one (by rw [R.size]; exact hb) (by omega) (by omega) (fun i j g1 g2 g3 => ?_) (P.ke.join P.eb (Or.inr (Nat.le_refl _))))
    by_cases q : j < s
    · exact P.as i j g1 g2 q
    · obtain rfl : j = s := by omega
      have hc : c d[m]! d[j - 1]! = false := by
        rcases h1 with h | h
        · omega
        · exact h
      have hb1 := (ag (j - 1) m (by omega) (by omega) (Nat.le_refl _) (by omega)).2 hc
      have e1 : d'[j]! = d[m]! := by rw [R.lo j (Nat.le_refl _) (by omega)]; congr 1; omega
      rw [e1, R.out (Or.inl (by omega))]
      by_cases q2 : i = j - 1
      · rw [q2]; exact hb1
      · exact tr _ _ _ (hl i (j - 1) g1 (by omega) (by omega)) hb1
/-! Parts of one size, side by side. -/
/-- Each one of a part was there ahead. -/
def From (a b : Nat) (d0 d : Array α) : Prop := ∀ i, a ≤ i → i < b → ∃ j, a ≤ j ∧ j < b ∧ d[i]! = d0[j]!
def Own (bf : α → α → Prop) (d0 d : Array α) (a b : Nat) : Prop := Srt bf a b d ∧ From a b d0 d
theorem Own.congr {d0 d d' : Array α} {a b : Nat} (h : Own bf d0 d a b) (e : ∀ x, a ≤ x → x < b → d'[x]! = d[x]!) : Own bf d0 d' a b :=
  ⟨h.1.congr e, fun i g1 g2 => by rw [e i g1 g2]; exact h.2 i g1 g2⟩
/-- The test is right for all of a row as it was at first. -/
def Fair (c : α → α → Bool) (bf : α → α → Prop) (d0 : Array α) (n : Nat) : Prop := ∀ i j, i < j → j < n → Ag c bf d0[i]! d0[j]!
theorem Fair.agr {d0 d : Array α} {n a m b : Nat} (F : Fair c bf d0 n) (hb : b ≤ n) (h1 : From a m d0 d) (h2 : From m b d0 d) : Agr c bf a m b d := fun i j g1 g2 g3 g4 => by
  obtain ⟨p, p1, p2, p3⟩ := h1 i g1 g2
  obtain ⟨q, q1, q2, q3⟩ := h2 j g3 g4
  rw [p3, q3]; exact F p q (by omega) (by omega)
theorem Mrg.own {d0 d d' : Array α} {a m b : Nat} (h : Mrg bf a b d d') (hb : b ≤ d.size) (ham : a ≤ m) (hmb : m ≤ b) (h1 : From a m d0 d) (h2 : From m b d0 d) : Own bf d0 d' a b := by
  refine ⟨h.srt, permIn_all d d' a b (fun x => ∃ j, a ≤ j ∧ j < b ∧ x = d0[j]!) hb h.perm (fun i g1 g2 => ?_)⟩
  by_cases q : i < m
  · obtain ⟨p, p1, p2, p3⟩ := h1 i g1 q
    exact ⟨p, p1, by omega, p3⟩
  · obtain ⟨p, p1, p2, p3⟩ := h2 i (by omega) g2
    exact ⟨p, by omega, p2, p3⟩
/-- Where a part that begins at q ends. -/
def fin (s n q : Nat) : Nat := min (q + s) n
/-- The parts below a have the size t, those from a on the size s. -/
structure Blks (bf : α → α → Prop) (d0 d : Array α) (n s t a : Nat) : Prop where
  perm : PermIn 0 n d0 d
  low : ∀ q, t ∣ q → q < a → q < n → Own bf d0 d q (fin t n q)
  high : ∀ q, s ∣ q → a ≤ q → q < n → Own bf d0 d q (fin s n q)
theorem dvd_mid {s q a : Nat} (h1 : s ∣ q) (h2 : s ∣ a) (h3 : a ≤ q) (h4 : q < a + s) : q = a := by
  have h := (Nat.dvd_sub h1 h2)
  rcases Nat.eq_zero_or_pos (q - a) with h0 | h0
  · omega
  · have := Nat.le_of_dvd h0 h; omega
theorem dvd_end {s q a : Nat} (h1 : s ∣ q) (h2 : s ∣ a) (h4 : q < a) : q + s ≤ a := by
  have h := (Nat.dvd_sub h2 h1)
  have := Nat.le_of_dvd (by omega) h; omega
/-- Two parts of the size s at a have become one. -/
theorem Blks.step {d0 d d' : Array α} {n s a : Nat} (B : Blks bf d0 d n s (s + s) a) (hs : 0 < s) (h2 : (s + s) ∣ a) (hn : n ≤ d0.size) (hm : a + s < n) (M : Mrg bf a (fin (s + s) n a) d d') : Blks bf d0 d' n s (s + s) (a + (s + s)) := by
  have hd := B.perm.1
  have hsa : s ∣ a := Nat.dvd_trans ⟨2, by omega⟩ h2
  have f1 : fin (s + s) n a ≤ n := Nat.min_le_right _ _
  have f2 : a + s ≤ fin (s + s) n a := by unfold fin; omega
  have f3 : fin (s + s) n a ≤ a + (s + s) := Nat.min_le_left _ _
  have O1 : Own bf d0 d a (a + s) := by
    have := B.high a hsa (Nat.le_refl _) (by omega)
    have e : fin s n a = a + s := by unfold fin; omega
    rwa [e] at this
  have O2 : Own bf d0 d (a + s) (fin (s + s) n a) := by
    have := B.high (a + s) (Nat.dvd_add hsa (Nat.dvd_refl s)) (by omega) hm
    have e : fin s n (a + s) = fin (s + s) n a := by unfold fin; omega
    rwa [e] at this
  refine ⟨perm_trans B.perm (perm_mono M.perm (Nat.zero_le _) f1 (by omega)), fun q g1 g2 g3 => ?_, fun q g1 g2 g3 => ?_⟩
  · by_cases hq : q < a
    · have hq2 := dvd_end g1 h2 hq
      exact (B.low q g1 hq g3).congr fun x u1 u2 => M.perm.2.1 x (Or.inl (by unfold fin at u2; omega))
    · obtain rfl : q = a := dvd_mid g1 h2 (by omega) g2
      exact M.own (by omega) (by omega) f2 O1.2 O2.2
  · exact (B.high q g1 (by omega) g3).congr fun x u1 u2 => M.perm.2.1 x (Or.inr (by omega))
theorem Blks.parts {d0 d : Array α} {n s a : Nat} (B : Blks bf d0 d n s (s + s) a) (h2 : (s + s) ∣ a) (F : Fair c bf d0 n) (hm : a + s < n) : Srt bf a (a + s) d ∧ Srt bf (a + s) (fin (s + s) n a) d ∧ Agr c bf a (a + s) (fin (s + s) n a) d := by
  have hsa : s ∣ a := Nat.dvd_trans ⟨2, by omega⟩ h2
  have O1 : Own bf d0 d a (a + s) := by
    have := B.high a hsa (Nat.le_refl _) (by omega)
    have e : fin s n a = a + s := by unfold fin; omega
    rwa [e] at this
  have O2 : Own bf d0 d (a + s) (fin (s + s) n a) := by
    have := B.high (a + s) (Nat.dvd_add hsa (Nat.dvd_refl s)) (by omega) hm
    have e : fin s n (a + s) = fin (s + s) n a := by unfold fin; omega
    rwa [e] at this
  exact ⟨O1.1, O2.1, F.agr (Nat.min_le_right _ _) O1.2 O2.2⟩
/-- All of the size s: begin anew with the next size. -/
theorem Blks.again {d0 d : Array α} {n s t a : Nat} (B : Blks bf d0 d n t s a) (ha : n ≤ a) : Blks bf d0 d n s (s + s) 0 :=
  ⟨B.perm, fun q _ g _ => by omega, fun q g1 _ g3 => B.low q g1 (by omega) g3⟩
/-- A last part alone, with none behind it. -/
theorem Blks.rest {d0 d : Array α} {n s a : Nat} (B : Blks bf d0 d n s (s + s) a) (hs : 0 < s) (h2 : (s + s) ∣ a) (hm : n ≤ a + s) : Blks bf d0 d n s (s + s) n := by
  have hsa : s ∣ a := Nat.dvd_trans ⟨2, by omega⟩ h2
  refine ⟨B.perm, fun q g1 g2 g3 => ?_, fun q g1 g2 g3 => by omega⟩
  by_cases hq : q < a
  · exact B.low q g1 hq g3
  · obtain rfl : q = a := dvd_mid g1 h2 (by omega) (by omega)
    have := B.high q hsa (by omega) g3
    have e : fin s n q = fin (s + s) n q := by unfold fin; omega
    rwa [e] at this
theorem Blks.whole {d0 d : Array α} {n s t a : Nat} (B : Blks bf d0 d n t s a) (ha : n ≤ a) (hs : n ≤ s) : PermIn 0 n d0 d ∧ Srt bf 0 n d := by
  refine ⟨B.perm, ?_⟩
  rcases Nat.eq_zero_or_pos n with h0 | h0
  · exact Srt.small d (by omega)
  · have := (B.low 0 (Nat.dvd_zero s) (by omega) h0).1
    have e : fin s n 0 = n := by unfold fin; omega
    rwa [e] at this
theorem Blks.whole0 {d0 d : Array α} {n s t : Nat} (B : Blks bf d0 d n s t 0) (hs : n ≤ s) : PermIn 0 n d0 d ∧ Srt bf 0 n d := by
  refine ⟨B.perm, ?_⟩
  rcases Nat.eq_zero_or_pos n with h0 | h0
  · exact Srt.small d (by omega)
  · have := (B.high 0 (Nat.dvd_zero s) (Nat.le_refl _) h0).1
    have e : fin s n 0 = n := by unfold fin; omega
    rwa [e] at this
/-- The first parts, sorted one by one: those from a on are as they were. -/
structure Ins (bf : α → α → Prop) (d0 d : Array α) (n s a : Nat) : Prop where
  perm : PermIn 0 n d0 d
  low : ∀ q, s ∣ q → q < a → q < n → Own bf d0 d q (fin s n q)
  high : ∀ x, a ≤ x → d[x]! = d0[x]!
theorem Ins.start {d0 : Array α} {n s : Nat} : Ins bf d0 d0 n s 0 := ⟨permIn_refl _ _ _, fun q _ g _ => by omega, fun _ _ => rfl⟩
theorem Ins.step {d0 d d' : Array α} {n s a : Nat} (B : Ins bf d0 d n s a) (hs : 0 < s) (h2 : s ∣ a) (hn : n ≤ d0.size) (han : a ≤ n) (M : Mrg bf a (fin s n a) d d') : Ins bf d0 d' n s (a + s) := by
  have hd := B.perm.1
  have f1 : fin s n a ≤ n := Nat.min_le_right _ _
  have f3 : fin s n a ≤ a + s := Nat.min_le_left _ _
  have f4 : a ≤ fin s n a := by unfold fin; omega
  have fr : ∀ u v, a ≤ u → From u v d0 d := fun u v hu i g1 g2 => ⟨i, g1, g2, B.high i (by omega)⟩
  refine ⟨perm_trans B.perm (perm_mono M.perm (Nat.zero_le _) f1 (by omega)), fun q g1 g2 g3 => ?_, fun x hx => ?_⟩
  · by_cases hq : q < a
    · have hq2 := dvd_end g1 h2 hq
      exact (B.low q g1 hq g3).congr fun x u1 u2 => M.perm.2.1 x (Or.inl (by unfold fin at u2; omega))
    · obtain rfl : q = a := dvd_mid g1 h2 (by omega) g2
      exact M.own (by omega) (Nat.le_refl _) f4 (fr _ _ (Nat.le_refl _)) (fr _ _ (Nat.le_refl _))
  · rw [M.perm.2.1 x (Or.inr (by omega))]; exact B.high x (by omega)
theorem Ins.agr {d0 d : Array α} {n s a m b : Nat} (B : Ins bf d0 d n s a) (F : Fair c bf d0 n) (hb : b ≤ n) : Agr c bf a m b d := fun i j g1 g2 g3 g4 => by
  rw [B.high i g1, B.high j (by omega)]; exact F i j (by omega) (by omega)
theorem Ins.blks {d0 d : Array α} {n s a : Nat} (B : Ins bf d0 d n s a) (ha : n ≤ a) : Blks bf d0 d n s (s + s) 0 :=
  ⟨B.perm, fun q _ g _ => by omega, fun q g1 _ g3 => B.low q g1 (by omega) g3⟩
theorem Ins.whole {d0 d : Array α} {n s a : Nat} (B : Ins bf d0 d n s a) (ha : n ≤ a) (hs : n ≤ s) : PermIn 0 n d0 d ∧ Srt bf 0 n d := by
  refine ⟨B.perm, ?_⟩
  rcases Nat.eq_zero_or_pos n with h0 | h0
  · exact Srt.small d (by omega)
  · have := (B.low 0 (Nat.dvd_zero s) (by omega) h0).1
    have e : fin s n 0 = n := by unfold fin; omega
    rwa [e] at this
/-- A part of which a beginning is sorted, one by one: i are. -/
structure Run (c : α → α → Bool) (bf : α → α → Prop) (d0 d : Array α) (a i b : Nat) : Prop where
  perm : PermIn a b d0 d
  srt : Srt bf a i d
  frm : From a i d0 d
  high : ∀ x, i ≤ x → d[x]! = d0[x]!
theorem Run.start {d0 : Array α} {a b : Nat} : Run c bf d0 d0 a (a + 1) b := ⟨permIn_refl _ _ _, Srt.small _ (by omega), fun i g1 g2 => ⟨i, g1, g2, rfl⟩, fun _ _ => rfl⟩
theorem Run.step {d0 d d' : Array α} {a i b s : Nat} (tr : ∀ x y z, bf x y → bf y z → bf x z) (R : Run c bf d0 d a i b) (F : ∀ x y, a ≤ x → x < y → y < b → Ag c bf d0[x]! d0[y]!) (hb : b ≤ d0.size) (hib : i < b) (has : a ≤ s) (S : Shl d d' s i)
    (h1 : s = a ∨ c d[i]! d[s - 1]! = false) (h2 : s = i ∨ c d[i]! d[s]! = true) : Run c bf d0 d' a (i + 1) b := by
  have hd := R.perm.1
  have hsi := S.km
  have ag : Agr c bf a i (i + 1) d := fun x y g1 g2 g3 g4 => by
    obtain ⟨p, p1, p2, p3⟩ := R.frm x g1 g2
    rw [p3, R.high y g3]
    exact F p y p1 (by omega) (by omega)
  have M := mrg_last tr has hsi (by omega) R.srt ag h1 h2 S.rot
  refine ⟨perm_trans R.perm (perm_mono M.perm (Nat.le_refl _) (by omega) (by omega)), M.srt, ?_, fun x hx => ?_⟩
  · exact (M.own (by omega) (by omega) (Nat.le_succ i) R.frm (fun x g1 g2 => ⟨x, g1, g2, R.high x g1⟩)).2
  · rw [M.perm.2.1 x (Or.inr hx)]; exact R.high x (by omega)
theorem Run.done {d0 d : Array α} {a i b : Nat} (R : Run c bf d0 d a i b) (h : b ≤ i) : Mrg bf a b d0 d := ⟨R.perm, fun x y g1 g2 g3 => R.srt x y g1 g2 (by omega)⟩
end Go.Proofs.Ytinfjfjheimceaa.So
