/- The order of keys: mathematics; package quittanceref12: side, Compare. -/
import Derived.Test.YtialjglgkfcdmaaOrTake
import Derived.Test.YtialjglgkfcdmaaOrSame
import Derived.Test.YtialjglgkfcdmaaOrRow
import Derived.Test.YtialjglgkfcdmaaOcRBytes
import Derived.Deep.CutRange
import Derived.Deep.QuietTactic
import Derived.BigQuiet
import Derived.Sort.Walk0
import Derived.Deep.RegionWith
import Derived.Deep.Draws
import Derived.RegionTactic
import Derived.Laws.StructEq
namespace Go.Proofs.Ytialjglgkfcdmaa.Or
/-- Two texts that differ, the first one being less there. -/
def Lt2 (x y : List UInt8) : Prop := ∃ p a b x' y', x = p ++ a :: x' ∧ y = p ++ b :: y' ∧ a.toNat < b.toNat
theorem Lt2.app {x y : List UInt8} (h : Lt2 x y) (r s : List UInt8) : Lt2 (x ++ r) (y ++ s) := by
  obtain ⟨p, a, b, x', y', rfl, rfl, h⟩ := h
  exact ⟨p, a, b, x' ++ r, y' ++ s, by simp, by simp, h⟩
theorem Lt2.pre {x y : List UInt8} (h : Lt2 x y) (q : List UInt8) : Lt2 (q ++ x) (q ++ y) := by
  obtain ⟨p, a, b, x', y', rfl, rfl, h⟩ := h
  exact ⟨q ++ p, a, b, x', y', by simp, by simp, h⟩
theorem Lt2.head {a b : UInt8} (h : a.toNat < b.toNat) (x y : List UInt8) : Lt2 (a :: x) (b :: y) := ⟨[], a, b, x, y, rfl, rfl, h⟩
theorem Lt2.lt {x y : List UInt8} (h : Lt2 x y) : x < y := by
  obtain ⟨p, a, b, x', y', rfl, rfl, h⟩ := h
  induction p with
  | nil => exact List.cons_lt_cons_iff.2 (.inl (UInt8.lt_iff_toNat_lt.2 h))
  | cons c p ih => exact List.cons_lt_cons_iff.2 (.inr ⟨rfl, ih⟩)
theorem Lt2.ne {x y : List UInt8} (h : Lt2 x y) : x ≠ y := by
  intro e; subst e; exact List.lt_irrefl _ h.lt
theorem Lt2.nopre {x y : List UInt8} (h : Lt2 x y) : ¬ y <+: x ∧ ¬ x <+: y := by
  obtain ⟨p, a, b, x', y', rfl, rfl, h⟩ := h
  constructor
  · rintro ⟨t, ht⟩
    rw [List.append_assoc] at ht
    have := List.append_cancel_left ht
    obtain rfl := (List.cons.inj this).1
    omega
  · rintro ⟨t, ht⟩
    rw [List.append_assoc] at ht
    have := List.append_cancel_left ht
    obtain rfl := (List.cons.inj this).1
    omega
theorem Lt2.notlt {x y : List UInt8} (h : Lt2 x y) : ¬ y < x := fun h2 => List.lt_irrefl _ (List.lt_trans h.lt h2)
theorem val_inj (n : Nat) : ∀ l m : List UInt8, l.length = n → m.length = n → valL l = valL m → l = m := by
  induction n with
  | zero => intro l m h1 h2 _; rw [List.length_eq_zero_iff.1 h1, List.length_eq_zero_iff.1 h2]
  | succ n ih =>
    intro l m h1 h2 hv
    obtain ⟨l', c, rfl⟩ := snoc_of l (by intro e; subst e; simp at h1)
    obtain ⟨m', d, rfl⟩ := snoc_of m (by intro e; subst e; simp at h2)
    rw [val_snoc, val_snoc] at hv
    have := c.toNat_lt; have := d.toNat_lt
    have e : l' = m' := ih l' m' (by simp at h1; omega) (by simp at h2; omega) (by omega)
    have e2 : c = d := UInt8.toNat_inj.1 (by omega)
    rw [e, e2]
theorem val_lt2 (n : Nat) : ∀ l m : List UInt8, l.length = n → m.length = n → valL l < valL m → Lt2 l m := by
  induction n with
  | zero => intro l m h1 h2 h; rw [List.length_eq_zero_iff.1 h1, List.length_eq_zero_iff.1 h2] at h; omega
  | succ n ih =>
    intro l m h1 h2 hv
    obtain ⟨l', c, rfl⟩ := snoc_of l (by intro e; subst e; simp at h1)
    obtain ⟨m', d, rfl⟩ := snoc_of m (by intro e; subst e; simp at h2)
    rw [val_snoc, val_snoc] at hv
    have := c.toNat_lt; have := d.toNat_lt
    have l1 : l'.length = n := by simp at h1; omega
    have l2 : m'.length = n := by simp at h2; omega
    rcases Nat.lt_or_ge (valL l') (valL m') with h | h
    · exact (ih l' m' l1 l2 h).app _ _
    · have e : l' = m' := val_inj n l' m' l1 l2 (by omega)
      subst e
      exact (Lt2.head (by omega) [] []).pre l'
theorem short_mono {n m : Nat} (h : n ≤ m) : (shortL n).length ≤ (shortL m).length := by
  have h2 := val_lt _ (shortL m) (Nat.le_refl _)
  rw [val_short] at h2
  exact short_le _ n (by omega)
theorem num_lt2 {base n m : Nat} (hb : base ≤ 128) (h : n < m) (hm : m < 18446744073709551616) : Lt2 (numL base n) (numL base m) := by
  have h8 := short8 hm
  have hs := short_mono (Nat.le_of_lt h)
  unfold numL
  by_cases e : (shortL n).length = (shortL m).length
  · rw [e]
    exact (val_lt2 _ (shortL n) (shortL m) e rfl (by rw [val_short, val_short]; exact h)).pre [_]
  · exact Lt2.head (by simp; omega) _ _
theorem cpl_lt2 {x y : List UInt8} (h : Lt2 x y) : Lt2 (y.map cpl) (x.map cpl) := by
  obtain ⟨p, a, b, x', y', rfl, rfl, h⟩ := h
  refine ⟨p.map cpl, cpl b, cpl a, y'.map cpl, x'.map cpl, by simp, by simp, ?_⟩
  rw [cpl_nat, cpl_nat]
  have := a.toNat_lt; have := b.toNat_lt
  omega
theorem nat_pos_of {c : UInt8} (h : c ≠ 0) : 0 < c.toNat := by
  rcases Nat.eq_zero_or_pos c.toNat with h0 | h0
  · exact absurd (UInt8.toNat_inj.1 h0) h
  · exact h0
theorem esc_lt2 : ∀ (s t : List UInt8), s < t → Lt2 (escL s ++ [0, 0]) (escL t ++ [0, 0])
  | [], [], h => absurd h (List.lt_irrefl _)
  | [], c :: t, _ => by
    rw [esc_cons]
    by_cases hc : c = 0
    · rw [if_pos hc]
      exact ⟨[0], 0, 255, [], escL t ++ [0, 0], rfl, by simp, by decide⟩
    · rw [if_neg hc]
      exact ⟨[], 0, c, [0], escL t ++ [0, 0], rfl, by simp, nat_pos_of hc⟩
  | c :: s, [], h => absurd h (List.not_lt_nil _)
  | c :: s, d :: t, h => by
    rw [esc_cons, esc_cons]
    rcases List.cons_lt_cons_iff.1 h with h | ⟨rfl, h5⟩
    · have hn := UInt8.lt_iff_toNat_lt.1 h
      have hd : d ≠ 0 := by intro e; subst e; simp at hn
      rw [if_neg hd]
      by_cases hc : c = 0
      · rw [if_pos hc]
        exact ⟨[], 0, d, 255 :: (escL s ++ [0, 0]), escL t ++ [0, 0], by simp, by simp, nat_pos_of hd⟩
      · rw [if_neg hc]
        exact ⟨[], c, d, escL s ++ [0, 0], escL t ++ [0, 0], by simp, by simp, hn⟩
    · rw [List.append_assoc, List.append_assoc]
      exact (esc_lt2 s t h5).pre _
def LtF (f g : Fd) : Prop := f.n < g.n ∨ (f.n = g.n ∧ f.i < g.i) ∨ (f.n = g.n ∧ f.i = g.i ∧ f.s.data.toList < g.s.data.toList)
instance (f g : Fd) : Decidable (LtF f g) := by unfold LtF; exact inferInstance
theorem list_tri (x y : List UInt8) (h : x ≠ y) : x < y ∨ y < x := by
  by_cases h1 : x < y
  · exact .inl h1
  · by_cases h2 : y < x
    · exact .inr h2
    · exact absurd (List.le_antisymm (List.not_lt.1 h2) (List.not_lt.1 h1)) h
theorem ltF_tri {f g : Fd} (h : f ≠ g) : LtF f g ∨ LtF g f := by
  unfold LtF
  by_cases h1 : f.n = g.n
  · by_cases h2 : f.i = g.i
    · have h3 : f.s.data.toList ≠ g.s.data.toList := fun e => h (by
        have : f.s = g.s := ByteArray.ext (Array.ext' e)
        cases f; cases g; simp_all)
      rcases list_tri _ _ h3 with h4 | h4
      · exact .inl (.inr (.inr ⟨h1, h2, h4⟩))
      · exact .inr (.inr (.inr ⟨h1.symm, h2.symm, h4⟩))
    · rcases Int.lt_or_gt_of_ne h2 with h4 | h4
      · exact .inl (.inr (.inl ⟨h1, h4⟩))
      · exact .inr (.inr (.inl ⟨h1.symm, h4⟩))
  · rcases Int.lt_or_gt_of_ne h1 with h4 | h4
    · exact .inl (.inl h4)
    · exact .inr (.inl h4)
theorem enc_lt2 {c : UInt8} {f g : Fd} (hc : Letter c) (hf : fitsB c f = true) (hg : fitsB c g = true) (of_ : f.ok) (og : g.ok) (h : LtF f g) : Lt2 (enc c f) (enc c g) := by
  obtain ⟨a0, a1, a2, a3⟩ := of_
  obtain ⟨b0, b1, b2, b3⟩ := og
  unfold fitsB at hf hg
  unfold LtF at h
  rcases hc with hc | hc | hc
  · rw [if_pos hc] at hf hg
    simp only [Bool.and_eq_true, decide_eq_true_eq] at hf hg
    rw [enc_n hc, enc_n hc]
    rcases h with h | ⟨_, h⟩ | ⟨_, _, h⟩
    · exact num_lt2 (by omega) (by omega) (by omega)
    · omega
    · rw [size_nil hf.2, size_nil hg.2] at h
      exact absurd h (List.lt_irrefl _)
  · rw [if_neg (by omega), if_pos hc] at hf hg
    simp only [Bool.and_eq_true, decide_eq_true_eq] at hf hg
    rw [enc_i hc, enc_i hc]
    rcases h with h | ⟨_, h⟩ | ⟨_, _, h⟩
    · omega
    · by_cases h1 : f.i < 0
      · rw [if_pos h1]
        by_cases h2 : g.i < 0
        · rw [if_pos h2]
          exact cpl_lt2 (num_lt2 (by omega) (by omega) (by omega))
        · rw [if_neg h2]
          have := short8 (n := (-f.i - 1).toNat) (by omega)
          have := short8 (n := g.i.toNat) (by omega)
          unfold numL
          rw [List.map_cons]
          refine Lt2.head ?_ _ _
          have e1 : ∀ m, m ≤ 8 → (UInt8.ofNat (128 + m)).toNat = 128 + m := by intro m hm; simp; omega
          rw [cpl_nat, e1 _ (by omega), e1 _ (by omega)]
          omega
      · rw [if_neg h1, if_neg (by omega)]
        exact num_lt2 (by omega) (by omega) (by omega)
    · rw [size_nil hf.2, size_nil hg.2] at h
      exact absurd h (List.lt_irrefl _)
  · rw [if_neg (by omega), if_neg (by omega)] at hf hg
    simp only [Bool.and_eq_true, decide_eq_true_eq] at hf hg
    rw [enc_s hc, enc_s hc]
    rcases h with h | ⟨_, h⟩ | ⟨_, _, h⟩
    · omega
    · omega
    · exact esc_lt2 _ _ h
def cmpF : List Fd → List Fd → Int
  | [], [] => 0
  | [], _ :: _ => -1
  | _ :: _, [] => 1
  | f :: L, g :: M => if f = g then cmpF L M else if LtF f g then -1 else 1
theorem cmp_drop : ∀ (k : Nat) (L M : List Fd), L.take k = M.take k → k ≤ L.length → k ≤ M.length → cmpF L M = cmpF (L.drop k) (M.drop k)
  | 0, L, M, _, _, _ => by simp
  | k + 1, [], M, _, h, _ => by simp at h
  | k + 1, _ :: _, [], _, _, h => by simp at h
  | k + 1, f :: L, g :: M, h, h1, h2 => by
    rw [List.take_succ_cons, List.take_succ_cons] at h
    obtain ⟨rfl, h5⟩ := List.cons.inj h
    rw [cmpF, if_pos rfl, List.drop_succ_cons, List.drop_succ_cons]
    exact cmp_drop k L M h5 (by simpa using h1) (by simpa using h2)
theorem cmp_at {k : Nat} {L M : List Fd} (h : L.take k = M.take k) (h1 : k < L.length) (h2 : k < M.length) (hne : L[k] ≠ M[k]) : cmpF L M = if LtF L[k] M[k] then -1 else 1 := by
  rw [cmp_drop k L M h (by omega) (by omega), List.drop_eq_getElem_cons h1, List.drop_eq_getElem_cons h2, cmpF, if_neg hne]
theorem cmp_end {k : Nat} {L M : List Fd} (h : L.take k = M.take k) (h1 : k ≤ L.length) (h2 : k ≤ M.length) (hk : k = L.length ∨ k = M.length) : cmpF L M = if L.length = M.length then 0 else if L.length < M.length then -1 else 1 := by
  rw [cmp_drop k L M h h1 h2]
  by_cases e : k = L.length
  · by_cases e2 : k = M.length
    · rw [if_pos (by omega), List.drop_of_length_le (by omega), List.drop_of_length_le (by omega)]; rfl
    · rw [if_neg (by omega), if_pos (by omega), List.drop_of_length_le (by omega), List.drop_eq_getElem_cons (by omega)]; rfl
  · rw [if_neg (by omega), if_neg (by omega), List.drop_eq_getElem_cons (by omega), List.drop_of_length_le (l := M) (by omega)]; rfl
theorem app_lt (p : List UInt8) : ∀ a b : List UInt8, p ++ a < p ++ b ↔ a < b := by
  induction p with
  | nil => intro a b; exact Iff.rfl
  | cons c p ih =>
    intro a b
    rw [List.cons_append, List.cons_append, List.cons_lt_cons_iff]
    constructor
    · rintro (h | ⟨_, h⟩)
      · exact absurd h (UInt8.lt_irrefl _)
      · exact (ih a b).1 h
    · intro h
      exact .inr ⟨rfl, (ih a b).2 h⟩
structure KeepR (x y : List UInt8) (L M : List Fd) : Prop where
  lt : x < y ↔ cmpF L M < 0
  eq : x = y ↔ cmpF L M = 0
  pre : y <+: x ↔ M <+: L
theorem good_tail {c : UInt8} {K : List UInt8} {f : Fd} {L : List Fd} {B : List UInt8} (h : Good (c :: K) (f :: L) B) : fitsB c f = true ∧ f.ok ∧ Good K L (encAll K L) ∧ B = enc c f ++ encAll K L :=
  ⟨h.fits 0 (by simp), h.ok f (by simp), ⟨by have := h.len; simpa using this, fun j hj => h.fits (j + 1) (by simpa using hj), fun g hg => h.ok g (by simp [hg]), rfl⟩, h.enc.symm⟩
theorem keep : ∀ (K : List UInt8) (L M : List Fd) (x y : List UInt8), (∀ c ∈ K, Letter c) → Good K L x → Good K M y → KeepR x y L M
  | K, [], [], x, y, _, h1, h2 => by
    have e1 := h1.enc; have e2 := h2.enc
    rw [encAll_nil] at e1 e2
    subst e1 e2
    exact ⟨by simp [cmpF], by simp [cmpF], by simp⟩
  | [], _ :: _, _, _, _, _, h1, _ => by have := h1.len; simp at this
  | [], _, _ :: _, _, _, _, _, h2 => by have := h2.len; simp at this
  | c :: K, [], g :: M, x, y, _, h1, h2 => by
    have e1 := h1.enc
    rw [encAll_nil] at e1
    subst e1
    obtain ⟨-, -, -, rfl⟩ := good_tail h2
    have hne := enc_ne c g
    obtain ⟨d, t, hd⟩ : ∃ d t, enc c g = d :: t := by
      cases he : enc c g with
      | nil => exact absurd he hne
      | cons d t => exact ⟨d, t, rfl⟩
    rw [hd]
    exact ⟨by simp [cmpF], by simp [cmpF], by simp⟩
  | c :: K, f :: L, [], x, y, _, h1, h2 => by
    have e2 := h2.enc
    rw [encAll_nil] at e2
    subst e2
    obtain ⟨-, -, -, rfl⟩ := good_tail h1
    have hne := enc_ne c f
    exact ⟨by simp [cmpF], by simp [cmpF, hne], by simp⟩
  | c :: K, f :: L, g :: M, x, y, hK, h1, h2 => by
    obtain ⟨f1, o1, g1, rfl⟩ := good_tail h1
    obtain ⟨f2, o2, g2, rfl⟩ := good_tail h2
    have hc := hK c (by simp)
    by_cases e : f = g
    · subst e
      have ih := keep K L M _ _ (fun d hd => hK d (by simp [hd])) g1 g2
      refine ⟨?_, ?_, ?_⟩
      · rw [app_lt, cmpF, if_pos rfl]; exact ih.lt
      · rw [List.append_cancel_left_eq, cmpF, if_pos rfl]; exact ih.eq
      · rw [List.prefix_append_right_inj, List.cons_prefix_cons, ih.pre]; simp
    · have hp : ¬ (g :: M) <+: (f :: L) := by rw [List.cons_prefix_cons]; exact fun h => e h.1.symm
      by_cases hl : LtF f g
      · have h := (enc_lt2 hc f1 f2 o1 o2 hl).app (encAll K L) (encAll K M)
        refine ⟨?_, ?_, ?_⟩
        · rw [cmpF, if_neg e, if_pos hl]; simp [h.lt]
        · rw [cmpF, if_neg e, if_pos hl]; simp [h.ne]
        · simp only [h.nopre.1, hp]
      · have hl2 := (ltF_tri e).resolve_left hl
        have h := (enc_lt2 hc f2 f1 o2 o1 hl2).app (encAll K M) (encAll K L)
        refine ⟨?_, ?_, ?_⟩
        · rw [cmpF, if_neg e, if_neg hl]; simp [h.notlt]
        · rw [cmpF, if_neg e, if_neg hl]; simp [h.ne.symm]
        · simp only [h.nopre.2, hp]
open Go.RowKit
theorem less_iff (s t : ByteArray) : Op.bytesLess s.toList t.toList = decide (s.data.toList < t.data.toList) := by
  rw [Proofs.bytesLess_eq, ByteArray.toList_eq, ByteArray.toList_eq]
theorem fd_cases {f g : Fd} (h : f ≠ g) :
    ((f.n == g.n) = false ∧ f.n < g.n ∧ LtF f g) ∨ ((f.n == g.n) = false ∧ ¬ f.n < g.n ∧ ¬ LtF f g) ∨
    ((f.n == g.n) = true ∧ ¬ f.n < g.n ∧ (f.i == g.i) = false ∧ f.i < g.i ∧ LtF f g) ∨ ((f.n == g.n) = true ∧ ¬ f.n < g.n ∧ (f.i == g.i) = false ∧ ¬ f.i < g.i ∧ ¬ LtF f g) ∨
    ((f.n == g.n) = true ∧ ¬ f.n < g.n ∧ (f.i == g.i) = true ∧ ¬ f.i < g.i ∧ (f.s.toList == g.s.toList) = false ∧ Op.bytesLess f.s.toList g.s.toList = true ∧ LtF f g) ∨
    ((f.n == g.n) = true ∧ ¬ f.n < g.n ∧ (f.i == g.i) = true ∧ ¬ f.i < g.i ∧ (f.s.toList == g.s.toList) = false ∧ Op.bytesLess f.s.toList g.s.toList = false ∧ ¬ LtF f g) := by
  rcases fd_ne h with ⟨b1, n1⟩ | ⟨b1, b2, n1, n2⟩ | ⟨b1, b2, b3, n1, n2, n3⟩
  · by_cases hlt : f.n < g.n
    · exact .inl ⟨b1, hlt, .inl hlt⟩
    · refine .inr (.inl ⟨b1, hlt, ?_⟩)
      rintro (h | ⟨h, _⟩ | ⟨h, _, _⟩) <;> omega
  · by_cases hlt : f.i < g.i
    · exact .inr (.inr (.inl ⟨b1, by omega, b2, hlt, .inr (.inl ⟨n1, hlt⟩)⟩))
    · refine .inr (.inr (.inr (.inl ⟨b1, by omega, b2, hlt, ?_⟩)))
      rintro (h | ⟨_, h⟩ | ⟨_, h, _⟩) <;> omega
  · by_cases hlt : f.s.data.toList < g.s.data.toList
    · exact .inr (.inr (.inr (.inr (.inl ⟨b1, by omega, b2, by omega, b3, by rw [less_iff, decide_eq_true hlt], .inr (.inr ⟨n1, n2, hlt⟩)⟩))))
    · refine .inr (.inr (.inr (.inr (.inr ⟨b1, by omega, b2, by omega, b3, by rw [less_iff, decide_eq_false hlt], ?_⟩))))
      rintro (h | ⟨_, h⟩ | ⟨_, _, h⟩)
      · omega
      · omega
      · exact hlt h
theorem two_fds (w : World) (f g : Fd) (t u : TypeId) : FdAt ((w.alloc (.cells #[.int .u64 f.n, .int .i64 f.i, .string f.s] t)).alloc (.cells #[.int .u64 g.n, .int .i64 g.i, .string g.s] u)).drew w.heap.size f ∧ FdAt ((w.alloc (.cells #[.int .u64 f.n, .int .i64 f.i, .string f.s] t)).alloc (.cells #[.int .u64 g.n, .int .i64 g.i, .string g.s] u)).drew (w.heap.size + 1) g := by
  refine ⟨(fd_new w f t).later (((Below.refl _ _).alloc (Nat.le_refl _) _).drew), ?_⟩
  have h := (fd_new (w.alloc (.cells #[.int .u64 f.n, .int .i64 f.i, .string f.s] t)) g u).later ((Below.refl _ _).drew)
  simpa using h
theorem side_c (b : Bool) (w : World) : Calls Try.prog 52 #[.bool b] w fun e w' => e = .returned (.int .i64 (if b then -1 else 1)) ∧ w = w' := by
  cases b
  all_goals go_enter Try.func52, Try.ntmps52
  all_goals go_wp2_with fail
  all_goals go_ret
  all_goals exact ⟨rfl, rfl⟩
theorem side_t (w : World) : Calls Try.prog 52 #[.bool true] w fun e w' => e = .returned (.int .i64 (-1)) ∧ w = w' := side_c true w
theorem side_f (w : World) : Calls Try.prog 52 #[.bool false] w fun e w' => e = .returned (.int .i64 1) ∧ w = w' := side_c false w
set_option maxRecDepth 100000 in
set_option maxHeartbeats 3200000 in
theorem rcompare_c (w : World) (a b : Option Addr) (ca cb : Nat) (L M : List Fd) (hL : Fds w a L) (hM : Fds w b M) (hl : L.length ≤ 1000000) (hm : M.length ≤ 1000000) :
    Calls Try.prog 30 #[.slice a L.length ca, .slice b M.length cb] w fun e w' => e = .returned (.int .i64 (cmpF L M)) ∧ Below w.heap.size w w' := by
  have HLS := Lib.hid hL
  have HMS := Lib.hid hM
  clear hL hM
  go_enter Try.func30, Try.ntmps30
  go_wp2_with fail
  go_loopw [5] (fun i wr => ∃ k : Nat, k ≤ L.length ∧ k ≤ M.length ∧ i = .int .i64 k ∧ L.take k = M.take k ∧ Below w.heap.size w wr) (fun i _ => L.length - (intOf i).toNat)
  case atStart => exact ⟨0, by omega, by omega, rfl, rfl, Below.refl _ _⟩
  case round =>
    obtain ⟨k, hk, hk2, rfl, htk, hB⟩ := hrel
    have HB := Lib.hid hB
    have HTK := Lib.hid htk
    clear hB htk
    by_cases hlt0 : k < L.length ∧ k < M.length
    · have hlt : k < L.length := by omega
      have hlt2 : k < M.length := by omega
      have e1 := List.take_succ_eq_append_getElem hlt
      have e2 := List.take_succ_eq_append_getElem hlt2
      obtain ⟨g1, o1, rfl, hb1, c1, c2, c3⟩ := HLS.out.later HB.out k hlt
      obtain ⟨g2, o2, rfl, hb2, c4, c5, c6⟩ := HMS.out.later HB.out k hlt2
      have hne := cmp_at HTK.out hlt hlt2
      obtain ⟨s, hs⟩ : ∃ s, L[k] = s := ⟨_, rfl⟩
      obtain ⟨t, ht⟩ : ∃ t, M[k] = t := ⟨_, rfl⟩
      rw [hs] at c1 c2 c3 e1 hne
      rw [ht] at c4 c5 c6 e2 hne
      have E1 := Lib.hid e1
      have E2 := Lib.hid e2
      have q0 : (0 : Int) ≤ (k : Int) := by omega
      have q1 : (k : Int) < (L.length : Int) := by omega
      have q2 : (k : Int) < (M.length : Int) := by omega
      clear hs ht e1 e2
      by_cases hst : s = t
      · subst hst
        clear hne
        have z1 : (s.n == s.n) = true := by simp
        have z2 : (s.i == s.i) = true := by simp
        have z3 : (s.s.toList == s.s.toList) = true := by simp
        go_wp2_with fail
        go_quiet (fail)
        go_wp2_with fail
        go_quiet (fail)
        go_wp2_with fail
        go_quiet (fail)
        go_wp2_with fail
        exact ⟨⟨k + 1, by omega, by omega, by simp, by rw [E1.out, E2.out, HTK.out], below_drewN HB.out _⟩, by simp [intOf]; omega⟩
      · have HV := Lib.hid (hne hst)
        clear hne
        rcases fd_cases hst with ⟨b1, b2, hv⟩ | ⟨b1, b2, hv⟩ | ⟨b1, b2, b3, b4, hv⟩ | ⟨b1, b2, b3, b4, hv⟩ | ⟨b1, b2, b3, b4, b5, b6, hv⟩ | ⟨b1, b2, b3, b4, b5, b6, hv⟩
        · have HC := Lib.hid (show cmpF L M = -1 by rw [HV.out, if_pos hv])
          clear hst hv HV
          go_wp2_with fail
          go_quiet (fail)
          go_wp2_with fail
          go_region_with (first | (go_at_call 52; refine (side_t _).mono ?_; rintro e w2 ⟨rfl, rfl⟩))
          all_goals go_wp2_with fail
          all_goals go_ret
          all_goals exact ⟨by rw [HC.out]; rfl, (below_drewN HB.out _).drew⟩
        · have HC := Lib.hid (show cmpF L M = 1 by rw [HV.out, if_neg hv])
          clear hst hv HV
          have d9 : decide (s.n < t.n) = false := decide_eq_false b2
          go_wp2_with fail
          go_quiet (fail)
          go_wp2_with fail
          go_region_with (first | (go_at_call 52; refine (side_f _).mono ?_; rintro e w2 ⟨rfl, rfl⟩))
          all_goals go_wp2_with fail
          all_goals go_ret
          all_goals exact ⟨by rw [HC.out]; rfl, (below_drewN HB.out _).drew⟩
        · have HC := Lib.hid (show cmpF L M = -1 by rw [HV.out, if_pos hv])
          clear hst hv HV
          go_wp2_with fail
          go_quiet (fail)
          go_wp2_with fail
          go_quiet (fail)
          go_wp2_with fail
          go_region_with (first | (go_at_call 52; refine (side_t _).mono ?_; rintro e w2 ⟨rfl, rfl⟩))
          all_goals go_wp2_with fail
          all_goals go_ret
          all_goals exact ⟨by rw [HC.out]; rfl, (below_drewN HB.out _).drew⟩
        · have HC := Lib.hid (show cmpF L M = 1 by rw [HV.out, if_neg hv])
          clear hst hv HV
          have d9 : decide (s.i < t.i) = false := decide_eq_false b4
          go_wp2_with fail
          go_quiet (fail)
          go_wp2_with fail
          go_quiet (fail)
          go_wp2_with fail
          go_region_with (first | (go_at_call 52; refine (side_f _).mono ?_; rintro e w2 ⟨rfl, rfl⟩))
          all_goals go_wp2_with fail
          all_goals go_ret
          all_goals exact ⟨by rw [HC.out]; rfl, (below_drewN HB.out _).drew⟩
        · have HC := Lib.hid (show cmpF L M = -1 by rw [HV.out, if_pos hv])
          clear hst hv HV
          go_wp2_with fail
          go_quiet (fail)
          go_wp2_with fail
          go_quiet (fail)
          go_wp2_with fail
          go_quiet (fail)
          go_wp2_with fail
          go_region_with (first | (go_at_call 52; refine (side_t _).mono ?_; rintro e w2 ⟨rfl, rfl⟩))
          all_goals go_wp2_with fail
          all_goals go_ret
          all_goals exact ⟨by rw [HC.out]; rfl, (below_drewN HB.out _).drew⟩
        · have HC := Lib.hid (show cmpF L M = 1 by rw [HV.out, if_neg hv])
          clear hst hv HV
          go_wp2_with fail
          go_quiet (fail)
          go_wp2_with fail
          go_quiet (fail)
          go_wp2_with fail
          go_quiet (fail)
          go_wp2_with fail
          go_region_with (first | (go_at_call 52; refine (side_f _).mono ?_; rintro e w2 ⟨rfl, rfl⟩))
          all_goals go_wp2_with fail
          all_goals go_ret
          all_goals exact ⟨by rw [HC.out]; rfl, (below_drewN HB.out _).drew⟩
    · have HE := cmp_end HTK.out hk hk2 (by omega)
      rcases Nat.lt_trichotomy L.length M.length with he | he | he
      · rw [if_neg (by omega), if_pos he] at HE
        have HC := Lib.hid HE
        obtain rfl : k = L.length := by omega
        have q1 : ¬ (L.length : Int) < (L.length : Int) := by omega
        have q3 : ((L.length : Int) == (M.length : Int)) = false := beq_eq_false_iff_ne.2 (by omega)
        have q4 : (L.length : Int) < (M.length : Int) := by omega
        clear HE he
        go_wp2_with fail
        refine (side_t _).mono ?_
        rintro e w2 ⟨rfl, rfl⟩
        go_wp2_with fail
        go_ret
        exact ⟨by rw [HC.out]; rfl, HB.out⟩
      · rw [if_pos he] at HE
        have HC := Lib.hid HE
        obtain rfl : k = L.length := by omega
        have q1 : ¬ (L.length : Int) < (L.length : Int) := by omega
        have q3 : ((L.length : Int) == (M.length : Int)) = true := beq_iff_eq.2 (by omega)
        clear HE he
        go_wp2_with fail
        go_ret
        exact ⟨by rw [HC.out]; rfl, HB.out⟩
      · rw [if_neg (by omega), if_neg (by omega)] at HE
        have HC := Lib.hid HE
        obtain rfl : k = M.length := by omega
        have q1 : ¬ (M.length : Int) < (M.length : Int) := by omega
        have q2 : (M.length : Int) < (L.length : Int) := by omega
        have q3 : ((L.length : Int) == (M.length : Int)) = false := beq_eq_false_iff_ne.2 (by omega)
        have q4 : ¬ (L.length : Int) < (M.length : Int) := by omega
        clear HE he
        go_wp2_with fail
        refine (side_f _).mono ?_
        rintro e w2 ⟨rfl, rfl⟩
        go_wp2_with fail
        go_ret
        exact ⟨by rw [HC.out]; rfl, HB.out⟩
end Go.Proofs.Ytialjglgkfcdmaa.Or
