/- Package subs: the periods of a cycle, and what is due. -/
import Derived.Test.YtjchecjonkmhgaaDoorSuCheck
import Derived.Test.YtjchecjonkmhgaaDoorSuPer
namespace Go.Proofs.YtjchecjonkmhgaaDoor.Su
open Go.RowKit Pr Cw An
/-- The month of the bound that a period ends ahead of. -/
def mo (c : Cy) (m : Int) (k : Nat) : Int := fst c m + (k : Int) * c.e
theorem mo_bd {c : Cy} {m : Int} {k : Nat} (h : c.Ok) (hin : In m c.s) (hh : Has c m (k + 1)) : 1 ≤ mo c m k ∧ mo c m k ≤ 119988 := by
  have h1 := (has_s c m k).1 hh
  have h2 := (fst_bd (m := m) h).1
  have h3 := hin.lo
  have h4 := h.e0
  have h5 : 0 ≤ (k : Int) * c.e := Int.mul_nonneg (by omega) (by omega)
  unfold mo
  omega
theorem mo_in {c : Cy} {m : Int} {k : Nat} (h : c.Ok) (hin : In m c.s) (hh : Has c m (k + 1)) : In (mo c m k) (bnd c m (k + 1)) := by
  have h1 := mo_bd h hin hh
  have h2 := atv_bd (mo c m k) c.a h.a0
  rw [bnd_s]
  exact ⟨h1.1, h1.2, h2.1, h2.2⟩
theorem bg_le {c : Cy} {m : Int} {k : Nat} (h : c.Ok) (hin : In m c.s) (hh : Has c m (k + 1)) : bg c (mo c m k) ≤ bnd c m k := by
  have h1 := mo_bd h hin hh
  have hlo := bnd_lo (n := k) h hin
  unfold bg
  split
  · rename_i hg
    cases k with
    | zero =>
      rw [bnd_0]
      have e : mo c m 0 = fst c m := by unfold mo; simp
      rw [e] at hg ⊢
      have he := h.e0
      unfold fst at hg ⊢
      split
      · rename_i hat
        rw [show m + c.e - c.e = m by omega]
        exact hat
      · have := (atv_bd (m - c.e) c.a h.a0).2
        have := B_mono (k := m - c.e) (j := m) (by omega)
        have := hin.a
        omega
    | succ k =>
      rw [bnd_s]
      rw [show mo c m (k + 1) - c.e = fst c m + (k : Int) * c.e by unfold mo; rw [show ((k + 1 : Nat) : Int) = (k : Int) + 1 by omega, Int.add_mul, Int.one_mul]; omega]
      exact Int.le_refl _
  · exact hlo
theorem bg_eq {c : Cy} {m : Int} {k : Nat} (h : c.Ok) (hin : In m c.s) (hh : Has c m (k + 2)) : bg c (mo c m (k + 1)) = bnd c m (k + 1) := by
  have e : mo c m (k + 1) - c.e = fst c m + (k : Int) * c.e := by unfold mo; rw [show ((k + 1 : Nat) : Int) = (k : Int) + 1 by omega, Int.add_mul, Int.one_mul]; omega
  have h1 := (mo_bd h hin (Has.succ h hh)).1
  have h1' : mo c m k = fst c m + (k : Int) * c.e := rfl
  unfold bg
  rw [if_pos (by omega), e, bnd_s]
/-- A period of a cycle. -/
def per (c : Cy) (m : Int) (k : Nat) : Pd := ⟨(k : Int), bnd c m k, bnd c m (k + 1), bnd c m (k + 1) - bg c (mo c m k)⟩
theorem per_small {c : Cy} {m : Int} {k : Nat} (h : c.Ok) (hin : In m c.s) (hh : Has c m (k + 1)) : (per c m k).Small := by
  have h1 := mo_bd h hin hh
  have h2 := bg_bd c _ h h1.1 h1.2
  have h3 := bnd_lo (n := k + 1) h hin
  have h4 := bnd_hi h hh
  constructor <;> simp only [per] <;> omega
theorem per_bd {c : Cy} {m : Int} {k : Nat} (h : c.Ok) (hin : In m c.s) (hh : Has c m (k + 1)) : 1 ≤ bnd c m k ∧ bnd c m k < bnd c m (k + 1) ∧ bnd c m (k + 1) ≤ 3652059 :=
  ⟨bnd_lo h hin, bnd_lt h hin, bnd_hi h hh⟩
/-- What falls on days of a period. -/
def amt (c : Cy) (m : Int) (k : Nat) (price a b : Int) : Int := onv price ((per c m k).pl a) ((per c m k).pl b) (per c m k).u
theorem amt_du {c : Cy} {m : Int} {k : Nat} (h : c.Ok) (hin : In m c.s) (hh : Has c m (k + 1)) (price a b : Int) (p0 : 0 ≤ price) (p1 : price < 4611686018427387904) (h1 : bnd c m k ≤ a) (h2 : a ≤ b) (h3 : b ≤ bnd c m (k + 1)) :
    amt c m k price a b = du price ((per c m k).pl b) (per c m k).u - du price ((per c m k).pl a) (per c m k).u ∧ Ov price ((per c m k).pl a) ((per c m k).pl b) (per c m k).u := by
  have hs := per_small h hin hh
  have hg := bg_le h hin hh
  have hb := per_bd h hin hh
  have ho : 0 ≤ price ∧ price < 4611686018427387904 ∧ 1 ≤ (per c m k).u ∧ (per c m k).u ≤ 3652059 ∧ 0 ≤ (per c m k).pl a ∧ (per c m k).pl a ≤ (per c m k).pl b ∧ (per c m k).pl b ≤ (per c m k).u := by
    have := hs.u1
    simp only [per, Pd.pl] at *
    omega
  exact ⟨by unfold amt onv; rw [if_pos ho], (ov_iff _ _ _ _).2 ho⟩
theorem en_bd {e n : Int} (he : e = 0 ∨ 1 ≤ e) (hn : 1 ≤ n) : 1 ≤ en e n ∧ en e n ≤ n := by unfold en; split <;> omega
/-- A bill. -/
structure Bl where
  k : Int
  f : Int
  n : Int
  a : Int
abbrev Bl.cells (x : Bl) : List Value := [.int .i64 x.k, .int .i64 x.f, .int .i64 x.n, .int .i64 x.a]
def cellsB (L : List Bl) : List Value := L.flatMap Bl.cells
theorem cellsB_snoc (L : List Bl) (y : Bl) : cellsB (L ++ [y]) = cellsB L ++ [.int .i64 y.k, .int .i64 y.f, .int .i64 y.n, .int .i64 y.a] := by simp [cellsB]
/-- The bill of a period. -/
def bill (s : Sb) (m : Int) (k : Nat) : Bl := ⟨(k : Int), bnd s.c m k, en s.e (bnd s.c m (k + 1)), amt s.c m k s.p (bnd s.c m k) (en s.e (bnd s.c m (k + 1)))⟩
/-- The bills of n periods. -/
def bills (s : Sb) (m : Int) (n : Nat) : List Bl := (List.range n).map fun i => bill s m (s.b.toNat + i)
theorem bills_len (s : Sb) (m : Int) (n : Nat) : (bills s m n).length = n := by simp [bills]
theorem bills_succ (s : Sb) (m : Int) (n : Nat) : bills s m (n + 1) = bills s m n ++ [bill s m (s.b.toNat + n)] := by simp [bills, List.range_succ]
/-- No further period is billed. -/
def Stop (s : Sb) (m today most : Int) (i : Nat) : Prop :=
  (i : Int) = most ∨ 2000 ≤ s.b.toNat + i ∨ ¬ Has s.c m (s.b.toNat + i + 1) ∨ today < bnd s.c m (s.b.toNat + i) ∨ (s.e ≠ 0 ∧ s.e ≤ bnd s.c m (s.b.toNat + i))
/-- How many are billed. -/
def Many (s : Sb) (m today most : Int) (n : Nat) : Prop := (∀ i, i < n → ¬ Stop s m today most i) ∧ Stop s m today most n
theorem Many.one {s : Sb} {m today most : Int} {n n' : Nat} (h : Many s m today most n) (k : Many s m today most n') : n = n' := by
  rcases Nat.lt_trichotomy n n' with g | g | g
  · exact absurd h.2 (k.1 n g)
  · exact g
  · exact absurd k.2 (h.1 n' g)
def Sb.after (s : Sb) (n : Nat) : Sb := { s with b := s.b + (n : Int) }
theorem Many.le {s : Sb} {m today most : Int} {n : Nat} (h : Many s m today most n) (hm : 0 ≤ most) (hs : s.Num) : (n : Int) ≤ most ∧ s.b + n ≤ 2000 := by
  have b0 := hs.b0
  have b1 := hs.b1
  cases n with
  | zero => simp; omega
  | succ n =>
    have h0 := h.1 n (by omega)
    unfold Stop at h0
    constructor
    · by_cases hg : (n : Int) < most
      · omega
      · exfalso
        have := h.1 most.toNat (by omega)
        exact this (Or.inl (by omega))
    · omega
end Go.Proofs.YtjchecjonkmhgaaDoor.Su
