/- Plain lists: beginnings of sheaves written over sectors. -/
import Derived.Test.YtbmlnodimcalgaaDoorLfTorn0
import Derived.Test.YtbmlnodimcalgaaDoorSfMath3
namespace Go.Proofs.YtbmlnodimcalgaaDoor.Sf
open Lf
theorem get_eq {x c : List UInt8} {m : Nat} (hx : x.length = 64) (h : Lf.get x = some (m, c)) : headOf x = m ∧ footOf x = m ∧ m ≠ 0 := by
  have e : Lf.ends x = (headOf x, footOf x) := by unfold Lf.ends; rw [if_pos hx]
  unfold Lf.get at h
  rw [e] at h
  by_cases h0 : headOf x = 0 ∨ headOf x ≠ footOf x
  · rw [if_pos h0] at h; cases h
  · rw [if_neg h0] at h
    obtain ⟨rfl, _⟩ : headOf x = m ∧ mid x = c := by simpa using h
    exact ⟨rfl, (Classical.byContradiction fun q => h0 (Or.inr fun e => q e.symm)), fun q => h0 (Or.inl q)⟩
/-- A sector under a beginning of a leaf: what is a leaf then is what it was, or the new one. -/
theorem sec_step (x b : List UInt8) (st n : Nat) (hx : x.length = 64) (hxh : headOf x = st) (hxf : footOf x = st) (hb : b.length = 64) (hle : footOf b ≤ headOf b) (hst : headOf b < st) (hn : n ≤ 64) :
    (torn x b n).length = 64 ∧ footOf (torn x b n) ≤ headOf (torn x b n) ∧ ∀ m c, Lf.get (torn x b n) = some (m, c) → (torn x b n = b ∧ m < st) ∨ (torn x b n = x ∧ m = st) := by
  have hl := torn_len x b n hx hb hn
  refine ⟨hl, ?_, ?_⟩
  · by_cases h8 : n ≤ 8
    · rw [torn_head _ _ _ hx hb h8, torn_foot0 _ _ _ hx (by omega), hxh]
      have := over_ge st (headOf b) (8 - n) (by omega)
      omega
    · rw [torn_head8 _ _ _ hx (by omega), hxh]
      by_cases h56 : n ≤ 56
      · rw [torn_foot0 _ _ _ hx h56]; omega
      · obtain ⟨m, rfl⟩ : ∃ m, n = 56 + m := ⟨n - 56, by omega⟩
        rw [torn_foot _ _ _ hx hb (by omega), hxf]
        exact over_le _ _ _ (by omega)
  · intro m c h
    obtain ⟨g1, g2, g3⟩ := get_eq hl h
    by_cases h8 : 8 ≤ n
    · rw [torn_head8 _ _ _ hx h8, hxh] at g1
      subst g1
      by_cases h56 : n < 56
      · rw [torn_foot0 _ _ _ hx (by omega)] at g2; omega
      · refine .inr ⟨?_, rfl⟩
        have e1 : leaf st (mid (torn x b n)) = torn x b n := by
          have := (leaf_iff _ hl).2 (by rw [torn_head8 _ _ _ hx h8, hxh, g2])
          rwa [torn_head8 _ _ _ hx h8, hxh] at this
        have e2 : leaf st (mid x) = x := by
          have := (leaf_iff _ hx).2 (by rw [hxh, hxf])
          rwa [hxh] at this
        rw [← e1, torn_mid _ _ _ hx (by omega), e2]
    · have k1 := torn_head _ b _ hx hb (show n ≤ 8 by omega)
      rw [hxh] at k1
      have k2 := over_ge st (headOf b) (8 - n) (by omega)
      rw [torn_foot0 _ _ _ hx (by omega)] at g2
      have k3 : headOf b = m := by omega
      refine .inl ⟨?_, by omega⟩
      have e1 : leaf m (mid (torn x b n)) = torn x b n := by
        have := (leaf_iff _ hl).2 (by rw [g1, torn_foot0 _ _ _ hx (by omega), g2])
        rwa [g1] at this
      have e2 : leaf m (mid b) = b := by
        have := (leaf_iff _ hb).2 (by rw [k3, g2])
        rwa [k3] at this
      rw [← e1, torn_mid0 _ _ _ hx (by omega), e2]
/-- One that was written: where, its stamp, its text. -/
structure Wr where
  f : Nat
  st : Nat
  s : List UInt8
def Wr.leaves (y : Wr) : List (List UInt8) := sheaf y.st y.s
def Wr.Ok (y : Wr) : Prop := y.st ≠ 0 ∧ y.st < 18446744073709551616 ∧ y.s.length ≤ 400
/-- What holds of the sectors. -/
structure Good (W : List Wr) (A : List (List UInt8)) : Prop where
  len : A.length = 12
  sec : ∀ p (h : p < A.length), A[p].length = 64 ∧ footOf A[p] ≤ headOf A[p]
  ok : ∀ y ∈ W, y.Ok
  uni : ∀ n, (∀ p (h : p < A.length) c, Lf.get A[p] ≠ some (n, c)) ∨ ∃ y ∈ W, y.st = n ∧ ∀ p (h : p < A.length) c, Lf.get A[p] = some (n, c) → y.f ≤ p ∧ y.leaves[p - y.f]? = some A[p]
theorem good_zero : Good [] (List.replicate 12 (List.replicate 64 0)) := by
  refine ⟨by simp, ?_, by simp, ?_⟩
  · intro p h
    rw [List.getElem_replicate]
    exact ⟨by decide, by decide⟩
  · intro n
    left
    intro p h c
    rw [List.getElem_replicate]
    have : Lf.get (List.replicate 64 (0 : UInt8)) = none := by decide
    rw [this]; simp
theorem top_ge (A : List (List UInt8)) : ∀ a : Nat, a ≤ A.foldl (fun a x => max a (Lf.ends x).1) a ∧ ∀ x ∈ A, (Lf.ends x).1 ≤ A.foldl (fun a x => max a (Lf.ends x).1) a := by
  induction A with
  | nil => intro a; simp
  | cons x A ih =>
    intro a
    rw [List.foldl_cons]
    obtain ⟨h1, h2⟩ := ih (max a (Lf.ends x).1)
    refine ⟨by omega, fun y hy => ?_⟩
    rcases List.mem_cons.1 hy with rfl | hy
    · omega
    · exact h2 y hy
theorem head_top {A : List (List UInt8)} {p : Nat} (h : p < A.length) (h64 : A[p].length = 64) : headOf A[p] ≤ top A := by
  have := (top_ge A 0).2 A[p] (List.getElem_mem h)
  have e : Lf.ends A[p] = (headOf A[p], footOf A[p]) := by unfold Lf.ends; rw [if_pos h64]
  rw [e] at this
  exact this
/-- The sectors from a place on under beginnings of a sheaf's leaves: the first k of them. -/
def Under (A : List (List UInt8)) (y : Wr) (N : Nat → Nat) (k : Nat) (B : List (List UInt8)) : Prop :=
  B.length = A.length ∧ ∀ p (h : p < A.length), ∃ h2 : p < B.length, B[p] = if y.f ≤ p ∧ p < y.f + k then torn (y.leaves.getD (p - y.f) []) A[p] (N (p - y.f)) else A[p]
theorem under_zero (A : List (List UInt8)) (y : Wr) (N : Nat → Nat) : Under A y N 0 A :=
  ⟨rfl, fun p h => ⟨h, by rw [if_neg (by omega)]⟩⟩
theorem under_succ {A B : List (List UInt8)} {y : Wr} {N : Nat → Nat} {k : Nat} (h : Under A y N k B) (n : Nat) (hk : k < y.leaves.length) (hf : y.f + k < A.length) :
    ∃ hB : y.f + k < B.length, B[y.f + k] = A[y.f + k] ∧ Under A y (fun j => if j = k then n else N j) (k + 1) (B.set (y.f + k) (torn y.leaves[k] B[y.f + k] n)) := by
  obtain ⟨h1, h2⟩ := h
  obtain ⟨hB, e⟩ := h2 (y.f + k) hf
  rw [if_neg (by omega)] at e
  refine ⟨hB, e, by rw [List.length_set]; exact h1, fun p hp => ?_⟩
  obtain ⟨hp2, e2⟩ := h2 p hp
  refine ⟨by rw [List.length_set]; exact hp2, ?_⟩
  by_cases hpk : p = y.f + k
  · subst hpk
    rw [List.getElem_set_self, if_pos (by omega), e, show y.f + k - y.f = k by omega]
    show _ = torn _ _ (if k = k then n else N k)
    rw [if_pos rfl]
    simp [hk]
  · rw [List.getElem_set_ne (by omega), e2]
    by_cases hc : y.f ≤ p ∧ p < y.f + k
    · rw [if_pos hc, if_pos (by omega)]
      show _ = torn _ _ (if p - y.f = k then n else N (p - y.f))
      rw [if_neg (by omega)]
    · rw [if_neg hc, if_neg (by omega)]
theorem sheaf_leaf {n : Nat} {s x : List UInt8} (hn : n < 18446744073709551616) (h : x ∈ sheaf n s) : x.length = 64 ∧ headOf x = n ∧ footOf x = n := by
  obtain ⟨d, hd, rfl⟩ := List.mem_map.1 h
  have h48 := chunks_small _ _ (Nat.le_refl _) d hd
  exact ⟨leaf_len n d h48, head_leaf n d hn, foot_leaf n d hn h48⟩
theorem good_step {W : List Wr} {A B : List (List UInt8)} {y : Wr} {N : Nat → Nat} (h : Good W A) (hy : y.Ok) (htop : top A < y.st) (hN : ∀ j, N j ≤ 64) (hu : Under A y N y.leaves.length B) : Good (W ++ [y]) B := by
  obtain ⟨hl, hp⟩ := hu
  have key : ∀ p (hpB : p < B.length), B[p].length = 64 ∧ footOf B[p] ≤ headOf B[p] ∧ ∀ m c, Lf.get B[p] = some (m, c) → (∃ hA : p < A.length, B[p] = A[p] ∧ m < y.st) ∨ (m = y.st ∧ y.f ≤ p ∧ y.leaves[p - y.f]? = some B[p]) := by
    intro p hpB
    have hpA : p < A.length := by omega
    obtain ⟨_, e⟩ := hp p hpA
    obtain ⟨a1, a2⟩ := h.sec p hpA
    have a3 := head_top hpA a1
    by_cases hc : y.f ≤ p ∧ p < y.f + y.leaves.length
    · rw [if_pos hc] at e
      have hj : p - y.f < y.leaves.length := by omega
      have hx : y.leaves.getD (p - y.f) [] = y.leaves[p - y.f] := by simp [hj]
      rw [hx] at e
      obtain ⟨x1, x2, x3⟩ := sheaf_leaf hy.2.1 (show y.leaves[p - y.f] ∈ sheaf y.st y.s from List.getElem_mem hj)
      obtain ⟨s1, s2, s3⟩ := sec_step y.leaves[p - y.f] A[p] y.st (N (p - y.f)) x1 x2 x3 a1 a2 (by omega) (hN _)
      rw [e]
      refine ⟨s1, s2, fun m c hm => ?_⟩
      rcases s3 m c hm with ⟨q1, q2⟩ | ⟨q1, q2⟩
      · exact .inl ⟨hpA, q1, q2⟩
      · exact .inr ⟨q2, hc.1, by rw [q1]; simp [hj]⟩
    · rw [if_neg hc] at e
      rw [e]
      refine ⟨a1, a2, fun m c hm => .inl ⟨hpA, rfl, ?_⟩⟩
      have := (get_eq a1 hm).1
      omega
  refine ⟨by rw [hl, h.len], fun p hpB => ⟨(key p hpB).1, (key p hpB).2.1⟩, ?_, fun n => ?_⟩
  · intro z hz
    rcases List.mem_append.1 hz with hz | hz
    · exact h.ok z hz
    · rw [List.mem_singleton.1 hz]; exact hy
  · by_cases hn : n = y.st
    · right
      refine ⟨y, by simp, hn.symm, fun p hpB c hc => ?_⟩
      rcases (key p hpB).2.2 n c hc with ⟨_, _, q⟩ | ⟨_, q1, q2⟩
      · omega
      · exact ⟨q1, q2⟩
    · rcases h.uni n with hno | ⟨z, hz, hzn, hzp⟩
      · left
        intro p hpB c hc
        rcases (key p hpB).2.2 n c hc with ⟨hA, q1, _⟩ | ⟨q, _⟩
        · rw [q1] at hc; exact hno p hA c hc
        · exact hn q
      · right
        refine ⟨z, by simp [hz], hzn, fun p hpB c hc => ?_⟩
        rcases (key p hpB).2.2 n c hc with ⟨hA, q1, _⟩ | ⟨q, _⟩
        · rw [q1] at hc ⊢; exact hzp p hA c hc
        · exact absurd q hn
/-- One that was written whole is there. -/
theorem whole_is {A B : List (List UInt8)} {y : Wr} {N : Nat → Nat} (hy : y.Ok) (h64 : ∀ p (h : p < A.length), A[p].length = 64) (hfit : y.f + y.leaves.length ≤ A.length) (hN : ∀ j, j < y.leaves.length → N j = 64) (hu : Under A y N y.leaves.length B) : pget (B.drop y.f) = some (y.st, y.s, y.leaves.length) := by
  obtain ⟨hl, hp⟩ := hu
  have e : (B.drop y.f).take y.leaves.length = y.leaves := by
    refine List.ext_getElem (by simp; omega) fun j h1 h2 => ?_
    obtain ⟨hB, e⟩ := hp (y.f + j) (by omega)
    rw [if_pos (by omega), show y.f + j - y.f = j by omega, hN j h2] at e
    rw [List.getElem_take, List.getElem_drop, e]
    have hx : y.leaves.getD j [] = y.leaves[j] := by simp [h2]
    rw [hx]
    exact torn_all _ _ (sheaf_leaf hy.2.1 (show y.leaves[j] ∈ sheaf y.st y.s from List.getElem_mem h2)).1 (h64 _ (by omega))
  refine pget_of_is ⟨hy.1, hy.2.1, by have := hy.2.2; omega, sheaf_len _ _, by simp; omega, e⟩
/-- What sectors begin with is one that was written. -/
theorem one_is {W : List Wr} {A : List (List UInt8)} {k n m : Nat} {s : List UInt8} (h : Good W A) (hk : k < 12) (hg : pget (A.drop k) = some (n, s, m)) : ∃ y ∈ W, y.st = n ∧ y.f ≤ k ∧ k + m ≤ y.f + y.leaves.length ∧ (k = y.f → s = y.s) := by
  have I := is_of_pget hg
  have hm1 : 1 ≤ m := by rw [I.kk]; exact many_pos _
  have hle := I.le
  rw [List.length_drop, h.len] at hle
  have at_ : ∀ j, j < m → ∃ (hj : k + j < A.length) (c : List UInt8), Lf.get A[k + j] = some (n, c) ∧ (sheaf n s)[j]? = some A[k + j] := by
    intro j hj
    have hkj : k + j < A.length := by rw [h.len]; omega
    have e1 : ((A.drop k).take m)[j]? = some A[k + j] := by
      rw [List.getElem?_take_of_lt hj, List.getElem?_drop, List.getElem?_eq_getElem hkj]
    rw [I.eq] at e1
    have hmem : A[k + j] ∈ sheaf n s := List.mem_of_getElem? e1
    obtain ⟨d, hd, e2⟩ := List.mem_map.1 hmem
    exact ⟨hkj, full d, by rw [← e2]; exact get_leaf n d I.n0 I.nl (chunks_small _ _ (Nat.le_refl _) d hd), e1⟩
  rcases h.uni n with hno | ⟨y, hy, hyn, hyp⟩
  · obtain ⟨h0, c, hc, _⟩ := at_ 0 (by omega)
    exact absurd hc (hno _ h0 c)
  · refine ⟨y, hy, hyn, ?_, ?_, ?_⟩
    · obtain ⟨h0, c, hc, _⟩ := at_ 0 (by omega)
      exact (hyp _ h0 c hc).1
    · obtain ⟨h0, c, hc, _⟩ := at_ (m - 1) (by omega)
      obtain ⟨q1, q2⟩ := hyp _ h0 c hc
      have := (List.getElem?_eq_some_iff.1 q2).1
      omega
    · intro hkf
      have hok := h.ok y hy
      have hall : ∀ j, j < m → y.leaves[j]? = (sheaf n s)[j]? := by
        intro j hj
        obtain ⟨h0, c, hc, e⟩ := at_ j hj
        obtain ⟨q1, q2⟩ := hyp _ h0 c hc
        rw [e, ← q2]
        congr 1
        omega
      have hsl : (sheaf n s).length = m := by rw [sheaf_len, I.kk]
      have hml : m ≤ y.leaves.length := by
        obtain ⟨h0, c, hc, e⟩ := at_ (m - 1) (by omega)
        obtain ⟨q1, q2⟩ := hyp _ h0 c hc
        have := (List.getElem?_eq_some_iff.1 q2).1
        omega
      have htk : y.leaves.take m = sheaf n s := by
        refine List.ext_getElem? fun j => ?_
        by_cases hj : j < m
        · rw [List.getElem?_take_of_lt hj, hall j hj]
        · rw [List.getElem?_eq_none (by simp; omega), List.getElem?_eq_none (by omega)]
      have J : Is y.leaves n s m := ⟨I.n0, I.nl, I.sl, I.kk, hml, htk⟩
      have K := is_put y.st y.s [] hok.1 hok.2.1 (by have := hok.2.2; omega)
      rw [List.append_nil] at K
      have p1 := pget_of_is J
      have p2 := pget_of_is K
      have p3 : pget y.leaves = some (y.st, y.s, many y.s.length) := p2
      rw [p1] at p3
      simp at p3
      exact p3.2.1
end Go.Proofs.YtbmlnodimcalgaaDoor.Sf
