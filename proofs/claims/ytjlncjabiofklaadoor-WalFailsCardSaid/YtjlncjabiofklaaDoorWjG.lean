/- Joined: WlTells0 WlFail WlFail2 WlFm WlSm WlApp WlSt. -/
import Derived.Test.YtjlncjabiofklaaDoorWlHead
import Derived.Test.YtjlncjabiofklaaDoorWjF
import Derived.Laws.AppendOwnNone
import Derived.Maps.AppendAt
section
namespace Go.Proofs.YtjlncjabiofklaaDoor.Wl
open Go Go.RowKit Dv Rf Shf Rk
open Tal (Strs bas)
section
variable {w wr w1 w2 w3 w4 : World} {g qb b r0 r1 : Nat} {vA vB vA' vB' : Value} {x x' : Dr} {M M' : Wm} {A B A' B' : List Rk.Sec} {n : Nat} {LL : List (List Rk.Sec)}
/-- What was opened is what there was. -/
theorem Gd.again (h : Gd n x M A B LL) : Gd n x (openW x (n / 2) M.R0.S M.R1.S) A B LL := by
  have hA : A = seg x.V 0 (n / 2) := by have := h.a.q; rwa [h.f0, h.n0] at this
  have hB : B = seg x.V (n / 2) (n / 2) := by have := h.b.q; rwa [h.f1, h.n1] at this
  have := gd_open h.ok h.F h.D h.n8 h.n9 h.P (SA := M.R0.S) (SB := M.R1.S) (LL := LL) (by rw [← hA]; exact h.a.s) (by rw [← hB]; exact h.b.s) (by rw [← h.lS]; exact h.ps)
  rwa [← hA, ← hB] at this
/-- A commit, a save, of both sides. -/
structure Both2 (n : Nat) (x : Dr) (LL : List (List Rk.Sec)) (C : Wm × Dr × Int) (A' B' : List Rk.Sec) (z : Int) : Prop where
  z : C.2.2 = z
  g : ∃ LL', Gd n C.2.1 C.1 A' B' LL'
  p : C.2.1.P = [] ∨ C.2.1 = x
theorem both_commit (h : Gd n x M A B LL) {l : List Rk.Sec} (hl : Small l) : Both2 n x LL (commitW M x l) (docPut A B (decide (M.R0.S.first < M.R1.S.first)) (lgS M.R0.S M.R1.S).e l).1 (docPut A B (decide (M.R0.S.first < M.R1.S.first)) (lgS M.R0.S M.R1.S).e l).2.1 (docPut A B (decide (M.R0.S.first < M.R1.S.first)) (lgS M.R0.S M.R1.S).e l).2.2 := by
  obtain ⟨k, many, p, LL', hk, e1, e2, hc⟩ := commitW_eq h l
  have hP := h.put hl k many p hk LL' hc
  rw [e1, e2]
  exact ⟨hP.z, ⟨_, hP.g⟩, hP.p⟩
theorem both_save (h : Gd n x M A B LL) {l : List Rk.Sec} (hl : Small l) : Both2 n x LL (saveW M x l) (docPut A B (!decide (M.R0.S.first < M.R1.S.first) && decide (0 < (lgS M.R0.S M.R1.S).first)) 0 l).1 (docPut A B (!decide (M.R0.S.first < M.R1.S.first) && decide (0 < (lgS M.R0.S M.R1.S).first)) 0 l).2.1 (docPut A B (!decide (M.R0.S.first < M.R1.S.first) && decide (0 < (lgS M.R0.S M.R1.S).first)) 0 l).2.2 := by
  obtain ⟨k, hk, e1, e2, _⟩ := saveW_eq h l
  have hP := h.put hl k 1 0 hk [l] (.inl ⟨rfl, rfl, rfl⟩)
  rw [e1, e2]
  exact ⟨hP.z, ⟨_, hP.g⟩, hP.p⟩
end
/-- The acts of the statements. -/
structure Ac where
  what : Int
  l : List Rk.Sec
  fuse : Int
  c : Dv.Cr
structure Ac.Fits (x : Ac) : Prop where
  what : 0 ≤ x.what ∧ x.what ≤ 255
  l : x.l.length ≤ 9223372036854775807 ∧ ∀ p ∈ x.l, p.length ≤ 9223372036854775807
  fuse : 0 ≤ x.fuse ∧ x.fuse ≤ 255
  c : x.c.Fits
/-- An act in memory. -/
def AcAt (w : World) (b o : Nat) (x : Ac) : Prop := b < w.heap.size ∧ ∃ s cap, w.cell? ⟨b, o, none⟩ = some (.int .u8 x.what) ∧ w.cell? ⟨b, o + 1, none⟩ = some (.slice s x.l.length cap) ∧ Strs w s (bas x.l) ∧ w.cell? ⟨b, o + 2, none⟩ = some (.int .u8 x.fuse) ∧ w.cell? ⟨b, o + 3, none⟩ = some (.int .u64 (x.c.keep : Int)) ∧ w.cell? ⟨b, o + 4, none⟩ = some (.int .i64 x.c.torn) ∧ w.cell? ⟨b, o + 5, none⟩ = some (.int .i64 x.c.at')
def Acs (w : World) (a : Option Addr) (A : List Ac) : Prop := ∀ j (h : j < A.length), ∃ b off, a = some ⟨b, off, none⟩ ∧ AcAt w b (off + j * 6) A[j]
theorem AcAt.later {w w' : World} {b o : Nat} {x : Ac} (h : AcAt w b o x) (k : Below w.heap.size w w') : AcAt w' b o x := by
  obtain ⟨h0, s, cap, h1, h2, h3, h4, h5, h6, h7⟩ := h
  have kc : ∀ q, w'.cell? ⟨b, q, none⟩ = w.cell? ⟨b, q, none⟩ := fun q => k.cell (p := ⟨b, q, none⟩) h0
  exact ⟨Nat.lt_of_lt_of_le h0 k.size, s, cap, (kc _).trans h1, (kc _).trans h2, h3.later k, (kc _).trans h4, (kc _).trans h5, (kc _).trans h6, (kc _).trans h7⟩
theorem Acs.later {w w' : World} {a : Option Addr} {A : List Ac} (h : Acs w a A) (k : Below w.heap.size w w') : Acs w' a A := fun j hj => by
  obtain ⟨b, off, h1, h2⟩ := h j hj
  exact ⟨b, off, h1, h2.later k⟩
theorem Acs.ls {w : World} {a : Option Addr} {A : List Ac} (h : Acs w a A) : Ls6 w a (A.map Ac.l) := fun j hj => by
  obtain ⟨b, off, h1, h0, s, cap, _, h2, h3, _⟩ := h j (by simpa using hj)
  exact ⟨b, off, s, cap, h1, h0, by simpa using h2, by simpa using h3⟩
end Go.Proofs.YtjlncjabiofklaaDoor.Wl
end
section
namespace Go.Proofs.YtjlncjabiofklaaDoor.Wl
open Go Go.RowKit Dv Rf Shf Rk
open Tal (Strs bas)
/-- Of any sectors all can be read. -/
theorem loaded_ex (L : List Rk.Sec) : ∃ z, Loaded L z := by
  have key : ∀ k s, Reads L s → L.length - s.e ≤ k → ∃ z, Loaded L z := by
    intro k
    induction k with
    | zero =>
      intro s h hk
      cases hs : Rk.step L s with
      | none => exact ⟨s, h, hs⟩
      | some b =>
        exfalso
        have h1 := (Reads.more h hs).fine.le
        obtain ⟨n, t, k, hi, _, rfl⟩ := step_some hs
        have h2 := is_pos hi
        have h3 : s.e + k ≤ L.length := h1
        omega
    | succ j ih =>
      intro s h hk
      cases hs : Rk.step L s with
      | none => exact ⟨s, h, hs⟩
      | some b =>
        have hb := Reads.more h hs
        have h1 := hb.fine.le
        obtain ⟨n, t, k, hi, _, rfl⟩ := step_some hs
        have h2 := is_pos hi
        have h3 : s.e + k ≤ L.length := h1
        exact ih _ hb (by show L.length - (s.e + k) ≤ j; omega)
  exact key _ _ .nil (Nat.le_refl _)
theorem fsl_placed {L : List Rk.Sec} {p n : Nat} {t : List UInt8} (h : Fs L) (hn : n < 18446744073709551616) : Fs (placed L p (Sf.sheaf n t)) := fun x hx => by
  unfold placed at hx
  rcases List.mem_append.1 hx with hx | hx
  · exact h x (List.mem_of_mem_take hx)
  · rcases List.mem_append.1 hx with hx | hx
    · obtain ⟨h1, h2, h3⟩ := Sf.sheaf_leaf hn hx
      exact ⟨h1, by omega⟩
    · exact h x (List.mem_of_mem_drop hx)
theorem fsl_zero (n : Nat) : Fs (List.replicate n Rk.zs) := fun x hx => by
  rw [List.eq_of_mem_replicate hx]
  decide +kernel
theorem crash_out (c : Dv.Cr) (B : List Rk.Sec) (p i q : Nat) (D : List Rk.Sec) (h : q < p ∨ p + B.length ≤ q) : (Dv.crashTo c (ws p B) i D)[q]? = D[q]? := by
  by_cases hq : q < D.length
  · rw [crash_get _ _ _ _ _ _ hq, dif_neg (by omega)]
    simp [List.getD, hq]
  · rw [List.getElem?_eq_none (by rw [Dv.crashTo_len]; omega), List.getElem?_eq_none (by omega)]
theorem putM_three {R : Rm} {x : Dr} {p n : Nat} {t : List UInt8} (hd : R.down = false) (hn : R.top < n) (ht : t.length ≤ 98304) :
    (R.n < p + Sf.many t.length ∧ putM R x p n t = (R, x, 6)) ∨
    (p + Sf.many t.length ≤ R.n ∧ putM R x p n t = (⟨R.f, R.n, (if p = 0 then Ld.zero else R.S).took n t (Sf.many t.length), n, false⟩, drv x (R.f + p) (Sf.sheaf n t), 0)) ∨
    (p + Sf.many t.length ≤ R.n ∧ ∃ m, putM R x p n t = (⟨R.f, R.n, R.S, R.top, true⟩, drv x (R.f + p) ((Sf.sheaf n t).take m), 30)) := by
  unfold putM
  rw [if_neg (by simp [hd]), if_neg (show ¬ n ≤ R.top by omega), if_neg (show ¬ 98304 < t.length by omega)]
  by_cases h2 : R.n < p + Sf.many t.length
  · rw [if_pos h2]; exact .inl ⟨h2, rfl⟩
  rw [if_neg h2]
  by_cases h3 : through x.F (Sf.many t.length) = Sf.many t.length
  · rw [if_pos h3]; exact .inr (.inl ⟨by omega, rfl⟩)
  · rw [if_neg h3]; exact .inr (.inr ⟨by omega, _, rfl⟩)
theorem sync_two (x : Dr) : (∃ F, x.sync = (⟨x.V, [], F⟩, 0)) ∨ x.sync = (x, 30) := by
  unfold Dr.sync
  cases burn x.F with
  | none => exact .inr rfl
  | some F => exact .inl ⟨F, rfl⟩
/-- A log between calls: all is sure. -/
structure Gf (n : Nat) (x : Dr) (M : Wm) (A B : List Rk.Sec) (LL : List (List Rk.Sec)) : Prop where
  g : Gd n x M A B LL
  p : x.P = []
  a : Fs A
  b : Fs B
/-- What is noted of a log can be told. -/
structure Tx (M : Wm) (LL : List (List Rk.Sec)) : Prop where
  now : M.now ≤ 1
  l : M.L.S.T.length ≤ 10000
  n0 : 0 < M.L.n
  many : M.many ≤ M.L.S.T.length
  len : LL.length = M.many
  t : ∀ t ∈ M.L.S.T, t.length ≤ 98304
  ps : ∀ i (h : i < LL.length) (h' : i < M.L.S.T.length), parse M.L.S.T[i] = some LL[i]
/-- A log that a failure may strike: it has some transactions, and behind the failure these or others. -/
structure Lost (n : Nat) (x : Dr) (M : Wm) (LL L2 : List (List Rk.Sec)) : Prop where
  wf : Wf x M
  D : x.D.length = n
  n8 : 8 ≤ n
  n9 : n ≤ 100
  P : x.P.length ≤ 1000
  tx : Tx M LL
  crash : ∀ c : Cr, ∃ SA SB L3, Loaded (seg (x.crash c).V 0 (n / 2)) SA ∧ Loaded (seg (x.crash c).V (n / 2) (n / 2)) SB ∧ Ps (lgS SA SB).T L3 ∧ (L3 = LL ∨ L3 = L2) ∧ Fs (seg (x.crash c).V 0 (n / 2)) ∧ Fs (seg (x.crash c).V (n / 2) (n / 2))
theorem Wf.dr {x y : Dr} {M : Wm} (h : Wf x M) (hy : y.Ok) (hP : y.P.length ≤ 1000) (hD : y.D.length = x.D.length) : Wf y M :=
  ⟨h.now, ⟨hy, by omega, h.f0.n0, h.f0.n9, by rw [hD]; exact h.f0.f, h.f0.t, h.f0.e⟩, ⟨hy, by omega, h.f1.n0, h.f1.n9, by rw [hD]; exact h.f1.f, h.f1.t, h.f1.e⟩, h.l, h.m⟩
section
variable {n : Nat} {x : Dr} {M : Wm} {A B : List Rk.Sec} {LL : List (List Rk.Sec)}
theorem Gf.V (h : Gf n x M A B LL) : x.V = x.D := by unfold Dr.V; rw [h.p]; rfl
theorem Gf.sa (h : Gf n x M A B LL) : seg x.D 0 (n / 2) = A := by rw [← h.V]; have := h.g.a.q; rw [h.g.f0, h.g.n0] at this; exact this.symm
theorem Gf.sb (h : Gf n x M A B LL) : seg x.D (n / 2) (n / 2) = B := by rw [← h.V]; have := h.g.b.q; rw [h.g.f1, h.g.n1] at this; exact this.symm
theorem Gf.fuse (h : Gf n x M A B LL) (fz : Int) : (x.fuse fz).fuse (-1) = x := by
  have hF := h.g.F
  show (⟨x.D, x.P, none⟩ : Dr) = x
  rw [← hF]
theorem Gf.tbs (h : Gf n x M A B LL) (k : Nat) : Tbs (if k = 0 then A else B) M.top := by
  have := h.g.top
  split
  · exact h.a.tbs (by omega)
  · exact h.b.tbs (by omega)
theorem Gf.tx (h : Gf n x M A B LL) : Tx M LL := by
  have hw := h.g.wf
  have h1 := h.g.n8
  have hT : (∀ t ∈ M.L.S.T, t.length ≤ 98304) ∧ M.L.n = n / 2 := by
    have e : M.L = M.half M.now := by unfold Wm.L Wm.half; rfl
    rw [e]; exact ⟨(h.g.hf M.now).1.s.r.fine.t, (h.g.hf M.now).2.2.1⟩
  exact ⟨hw.now, hw.l, by rw [hT.2]; omega, by rw [h.g.many]; exact Nat.le_refl _, by rw [h.g.ps.len, h.g.many], hT.1, fun i hi hi' => h.g.ps.eq i hi hi'⟩
/-- Nothing is under way. -/
theorem Gf.idle (h : Gf n x M A B LL) (fz : Int) (hf : fz ≤ 9223372036854775807) : Lost n (x.fuse fz) M LL LL := by
  have hw := h.g.wf
  refine ⟨hw.dr (h.g.ok.fuse fz hf) h.g.P rfl, h.g.D, h.g.n8, h.g.n9, h.g.P, h.tx, fun c => ?_⟩
  have e : ((x.fuse fz).crash c).V = x.D := by
    show crashTo c x.P 0 x.D = x.D
    rw [h.p]; rfl
  rw [e, h.sa, h.sb]
  exact ⟨M.R0.S, M.R1.S, LL, h.g.a.s, h.g.b.s, by rw [← h.g.lS]; exact h.g.ps, .inl rfl, h.a, h.b⟩
/-- What a failure within a write leaves of both halves. -/
theorem Gf.torn (h : Gf n x M A B LL) (fz : Int) (k p st m : Nat) (t : List UInt8) (hk : k ≤ 1) (hp : p + Sf.many t.length ≤ n / 2) (c : Cr) :
    TornBy (if k = 0 then A else B) p (Sf.sheaf st t) (seg ((drv (x.fuse fz) ((M.half k).f + p) ((Sf.sheaf st t).take m)).crash c).V (if k = 0 then 0 else n / 2) (n / 2)) ∧
    seg ((drv (x.fuse fz) ((M.half k).f + p) ((Sf.sheaf st t).take m)).crash c).V (if k = 0 then n / 2 else 0) (n / 2) = if k = 0 then B else A := by
  have e : ((drv (x.fuse fz) ((M.half k).f + p) ((Sf.sheaf st t).take m)).crash c).V = crashTo c (ws ((M.half k).f + p) ((Sf.sheaf st t).take m)) 0 x.D := by
    show crashTo c (x.P ++ ws ((M.half k).f + p) ((Sf.sheaf st t).take m)) 0 x.D = _
    rw [h.p]; rfl
  rw [e]
  have hsl := Sf.sheaf_len st t
  have hD := h.g.D
  have hl : ((Sf.sheaf st t).take m).length ≤ Sf.many t.length := by simp; omega
  rcases (show k = 0 ∨ k = 1 by omega) with rfl | rfl
  · have hf : (M.half 0).f = 0 := h.g.f0
    simp only [if_pos]
    rw [hf]
    refine ⟨TornBy.more (m := m) ?_, ?_⟩
    · rw [← h.sa]
      exact crash_in c _ 0 (n / 2) p 0 _ (by omega) (by omega)
    · rw [← h.sb]
      exact seg_same fun j h1 h2 => crash_out _ _ _ _ _ _ (by omega)
  · have hf : (M.half 1).f = n / 2 := h.g.f1
    simp only [if_neg (show ¬ (1 : Nat) = 0 by decide)]
    rw [hf]
    refine ⟨TornBy.more (m := m) ?_, ?_⟩
    · rw [← h.sb]
      exact crash_in c _ (n / 2) (n / 2) p 0 _ (by omega) (by omega)
    · rw [← h.sa]
      exact seg_same fun j h1 h2 => crash_out _ _ _ _ _ _ (by omega)
/-- What a put is: one more behind the log, or a beginning of the other half. -/
def How (M : Wm) (LL : List (List Rk.Sec)) (l : List Rk.Sec) (k many p : Nat) (L2 : List (List Rk.Sec)) : Prop :=
  (p = 0 ∧ many = 1 ∧ L2 = [l] ∧ k = if M.age = 0 then 0 else 1 - M.now) ∨ (k = M.now ∧ M.age ≠ 0 ∧ p = (M.half k).S.e ∧ many = M.many + 1 ∧ L2 = LL ++ [l])
theorem Gf.hit (h : Gf n x M A B LL) {l : List Rk.Sec} (hl : Small l) (fz : Int) (k many p m : Nat) (hk : k ≤ 1) (L2 : List (List Rk.Sec)) (hc : How M LL l k many p L2) (hT : M.top < 9223372036854775807) (hp : p + Sf.many (Tal.row (bas l)).length ≤ n / 2) (c : Cr) :
    ∃ SA SB L3, Loaded (seg ((drv (x.fuse fz) ((M.half k).f + p) ((Sf.sheaf (M.top + 1) (Tal.row (bas l))).take m)).crash c).V 0 (n / 2)) SA ∧ Loaded (seg ((drv (x.fuse fz) ((M.half k).f + p) ((Sf.sheaf (M.top + 1) (Tal.row (bas l))).take m)).crash c).V (n / 2) (n / 2)) SB ∧ Ps (lgS SA SB).T L3 ∧ (L3 = LL ∨ L3 = L2) ∧ Fs (seg ((drv (x.fuse fz) ((M.half k).f + p) ((Sf.sheaf (M.top + 1) (Tal.row (bas l))).take m)).crash c).V 0 (n / 2)) ∧ Fs (seg ((drv (x.fuse fz) ((M.half k).f + p) ((Sf.sheaf (M.top + 1) (Tal.row (bas l))).take m)).crash c).V (n / 2) (n / 2)) := by
  obtain ⟨h1, h2⟩ := h.torn fz k p (M.top + 1) m (Tal.row (bas l)) hk hp c
  generalize ((drv (x.fuse fz) ((M.half k).f + p) ((Sf.sheaf (M.top + 1) (Tal.row (bas l))).take m)).crash c).V = V at h1 h2 ⊢
  have hb := h.tbs k
  have hrow := hl.row
  have nl : M.top + 1 < 18446744073709551616 := by omega
  have hFC : Fs (seg V (if k = 0 then 0 else n / 2) (n / 2)) := (h1.tbs hb nl (Nat.lt_succ_self _)).fs
  obtain ⟨C, hC⟩ : ∃ C, C = seg V (if k = 0 then 0 else n / 2) (n / 2) := ⟨_, rfl⟩
  rw [← hC] at h1 hFC
  have hS := (h.g.hf k).1.s
  have hrp := row_parse hl
  obtain ⟨t, ht⟩ : ∃ t, t = Tal.row (bas l) := ⟨_, rfl⟩
  rw [← ht] at h1 hrp hp hrow
  -- the half that was written
  have key : ∃ z, Loaded C z ∧ ((z.first = (M.half k).S.first ∧ z = (M.half k).S) ∨ (p = 0 ∧ z.first = M.top + 1 ∧ z.T = [t]) ∨ (p = 0 ∧ (z = Ld.zero ∨ (z.first = (M.half k).S.first ∧ z.first ≠ 0))) ∨ (p ≠ 0 ∧ z.first = (M.half k).S.first ∧ z.T = (M.half k).S.T ++ [t])) := by
    rcases hc with ⟨q1, _⟩ | ⟨q1, q2, q3, _⟩
    · subst q1
      obtain ⟨z, hz⟩ := loaded_ex C
      refine ⟨z, hz, ?_⟩
      rcases torn_first h1 hb nl (Nat.lt_succ_self _) (by omega) hS hz with ⟨g1, g2, _⟩ | g | g
      · exact .inr (.inl ⟨rfl, g1, g2⟩)
      · exact .inr (.inr (.inl ⟨rfl, .inl g⟩))
      · exact .inr (.inr (.inl ⟨rfl, .inr g⟩))
    · have hTn : (M.half k).S.T.length ≠ 0 := fun hz => by
        have e := hS.r.fine.z hz
        have ha := h.g.age
        have hL : M.L = M.half k := by rw [q1]; unfold Wm.L Wm.half; rfl
        rw [hL, e] at ha
        exact q2 ha
      have hp0 : p ≠ 0 := by
        have := hS.r.fine.tl
        omega
      rcases torn_add h1 hb nl (Nat.lt_succ_self _) (by omega) hS (Nat.le_of_eq q3.symm) with g | ⟨_, g⟩
      · exact ⟨_, g, .inl ⟨rfl, rfl⟩⟩
      · exact ⟨_, g, .inr (.inr (.inr ⟨hp0, by show (if (M.half k).S.T.length = 0 then _ else _) = _; rw [if_neg hTn], rfl⟩))⟩
  obtain ⟨z, hz, hk2⟩ := key
  have hfst := h.g.first_le
  have hps := h.g.ps
  have hlS := h.g.lS
  have hnow := h.g.now
  have hage := h.g.age
  rw [hlS] at hps hage
  rcases (show k = 0 ∨ k = 1 by omega) with rfl | rfl
  · simp only [if_pos] at h2 hC
    have e0 : M.half 0 = M.R0 := rfl
    rw [e0] at hk2 hS
    have h11 : M.R1.S.first ≤ M.top := (hfst 1).1
    refine ⟨z, M.R1.S, ?_⟩
    rw [h2, ← hC]
    have done : ∀ L3, Ps (lgS z M.R1.S).T L3 → (L3 = LL ∨ L3 = L2) → ∃ L3, Loaded C z ∧ Loaded B M.R1.S ∧ Ps (lgS z M.R1.S).T L3 ∧ (L3 = LL ∨ L3 = L2) ∧ Fs C ∧ Fs B := fun L3 g1 g2 => ⟨L3, hz, h.g.b.s, g1, g2, hFC, h.b⟩
    rcases hk2 with ⟨_, rfl⟩ | ⟨g0, g1, g2⟩ | ⟨g0, g1⟩ | ⟨g0, g1, g2⟩
    · exact done LL hps (.inl rfl)
    · rcases hc with ⟨_, _, rfl, _⟩ | ⟨q1, q2, q3, _⟩
      · refine done [l] ?_ (.inr rfl)
        unfold lgS
        rw [if_neg (by omega), g2]
        exact Ps.nil.snoc hrp
      · exfalso
        have hTn := hS.r.fine.tl
        have : M.R0.S.T.length = 0 := by rw [e0] at q3; omega
        have e := hS.r.fine.z this
        have hL : M.L = M.R0 := by unfold Wm.L; rw [← q1, if_pos rfl]
        have := h.g.age
        rw [hL, e] at this
        exact q2 this
    · refine done LL ?_ (.inl rfl)
      rcases hc with ⟨_, _, _, q4⟩ | ⟨q1, q2, q3, _⟩
      · by_cases ha : M.age = 0
        · have h01 : ¬ M.R0.S.first < M.R1.S.first := fun hh => by unfold lgS at hage; rw [if_pos hh] at hage; omega
          have hf0 : M.R0.S.first = 0 := by unfold lgS at hage; rw [if_neg h01] at hage; omega
          have hz0 : z = Ld.zero := by
            rcases g1 with g1 | ⟨g1, g2⟩
            · exact g1
            · omega
          have hR0 : M.R0.S = Ld.zero := hS.r.fine.z (by
            by_cases hn : M.R0.S.T.length = 0
            · exact hn
            · exact absurd hf0 (first_ne hS.r hn))
          rw [hz0, ← hR0]
          exact hps
        · rw [if_neg ha] at q4
          have h01 : M.R0.S.first < M.R1.S.first := by
            by_cases hh : M.R0.S.first < M.R1.S.first
            · exact hh
            · rw [if_neg hh] at hnow; omega
          have hzf : z.first < M.R1.S.first := by
            rcases g1 with rfl | ⟨g1, _⟩
            · show 0 < _; omega
            · omega
          unfold lgS at hps ⊢
          rw [if_pos h01] at hps
          rw [if_pos hzf]
          exact hps
      · exfalso
        have hTn := hS.r.fine.tl
        have : M.R0.S.T.length = 0 := by rw [e0] at q3; omega
        have e := hS.r.fine.z this
        have hL : M.L = M.R0 := by unfold Wm.L; rw [← q1, if_pos rfl]
        have := h.g.age
        rw [hL, e] at this
        exact q2 this
    · rcases hc with ⟨q1, _⟩ | ⟨q1, q2, q3, _, rfl⟩
      · exact absurd q1 g0
      · refine done (LL ++ [l]) ?_ (.inr rfl)
        have h01 : ¬ M.R0.S.first < M.R1.S.first := fun hh => by rw [if_pos hh] at hnow; omega
        unfold lgS at hps ⊢
        rw [if_neg h01] at hps
        rw [if_neg (by rw [g1]; exact h01), g2]
        exact hps.snoc hrp
  · simp only [if_neg (show ¬ (1 : Nat) = 0 by decide)] at h2 hC
    have e1 : M.half 1 = M.R1 := rfl
    rw [e1] at hk2 hS
    have h00 : M.R0.S.first ≤ M.top := (hfst 0).1
    refine ⟨M.R0.S, z, ?_⟩
    rw [h2, ← hC]
    have done : ∀ L3, Ps (lgS M.R0.S z).T L3 → (L3 = LL ∨ L3 = L2) → ∃ L3, Loaded A M.R0.S ∧ Loaded C z ∧ Ps (lgS M.R0.S z).T L3 ∧ (L3 = LL ∨ L3 = L2) ∧ Fs A ∧ Fs C := fun L3 g1 g2 => ⟨L3, h.g.a.s, hz, g1, g2, h.a, hFC⟩
    have one : p = 0 → ¬ (1 = M.now ∧ M.age ≠ 0 ∧ p = (M.half 1).S.e) := fun g0 ⟨q1, q2, q3⟩ => by
      have hTn := hS.r.fine.tl
      have : M.R1.S.T.length = 0 := by rw [e1] at q3; omega
      have e := hS.r.fine.z this
      have hL : M.L = M.R1 := by unfold Wm.L; rw [← q1, if_neg (by decide)]
      have := h.g.age
      rw [hL, e] at this
      exact q2 this
    rcases hk2 with ⟨_, rfl⟩ | ⟨g0, g1, g2⟩ | ⟨g0, g1⟩ | ⟨g0, g1, g2⟩
    · exact done LL hps (.inl rfl)
    · rcases hc with ⟨_, _, rfl, _⟩ | ⟨q1, q2, q3, _⟩
      · refine done [l] ?_ (.inr rfl)
        unfold lgS
        rw [if_pos (by omega), g2]
        exact Ps.nil.snoc hrp
      · exact absurd ⟨q1, q2, q3⟩ (one g0)
    · refine done LL ?_ (.inl rfl)
      rcases hc with ⟨_, _, _, q4⟩ | ⟨q1, q2, q3, _⟩
      · have ha : M.age ≠ 0 := fun ha => by rw [if_pos ha] at q4; omega
        rw [if_neg ha] at q4
        have h01 : ¬ M.R0.S.first < M.R1.S.first := fun hh => by rw [if_pos hh] at hnow; omega
        have hzf : ¬ M.R0.S.first < z.first := by
          rcases g1 with rfl | ⟨g1, _⟩
          · exact Nat.not_lt_zero _
          · omega
        unfold lgS at hps ⊢
        rw [if_neg h01] at hps
        rw [if_neg hzf]
        exact hps
      · exact absurd ⟨q1, q2, q3⟩ (one g0)
    · rcases hc with ⟨q1, _⟩ | ⟨q1, q2, q3, _, rfl⟩
      · exact absurd q1 g0
      · refine done (LL ++ [l]) ?_ (.inr rfl)
        have h01 : M.R0.S.first < M.R1.S.first := by
          by_cases hh : M.R0.S.first < M.R1.S.first
          · exact hh
          · rw [if_neg hh] at hnow; omega
        unfold lgS at hps ⊢
        rw [if_pos h01] at hps
        rw [if_pos (by rw [g1]; exact h01), g2]
        exact hps.snoc hrp
end
end Go.Proofs.YtjlncjabiofklaaDoor.Wl
end
section
namespace Go.Proofs.YtjlncjabiofklaaDoor.Wl
open Go Go.RowKit Dv Rf Shf Rk
open Tal (Strs bas)
theorem rputM_fs {Q : List Rk.Sec} {p n : Nat} {t : List UInt8} (h : Fs Q) (hn : n < 18446744073709551616) : Fs (rputM Q p n t).1 := by
  unfold rputM
  split
  · exact h
  split
  · exact h
  split
  · exact h
  · exact fsl_placed h hn
theorem put_L {M : Wm} {k : Nat} {R : Rm} (hk : k ≤ 1) (hn : M.now ≤ 1) : ((M.put k R).fall).L = if k = M.now then R else M.L := by
  rcases (show k = 0 ∨ k = 1 by omega) with rfl | rfl <;> rcases (show M.now = 0 ∨ M.now = 1 by omega) with e | e <;> simp [Wm.put, Wm.fall, Wm.L, e]
/-- What a put behind a fuse comes to: refused, through, or down. -/
def Did (n : Nat) (x : Dr) (fz : Int) (M : Wm) (LL L2 : List (List Rk.Sec)) (C : Wm × Dr × Int) : Prop :=
  C = (M, x.fuse fz, 6) ∨ (C.2.2 = 0 ∧ (∃ A' B', Gf n (C.2.1.fuse (-1)) C.1 A' B' L2) ∧ C.2.1.Ok) ∨ (C.2.2 = 30 ∧ Lost n C.2.1 C.1 LL L2 ∧ C.1.down = true)
section
variable {n : Nat} {x : Dr} {M : Wm} {A B : List Rk.Sec} {LL : List (List Rk.Sec)}
theorem Gf.lost (h : Gf n x M A B LL) {l : List Rk.Sec} (hl : Small l) (fz : Int) (hf : fz ≤ 9223372036854775807) (k many p m : Nat) (hk : k ≤ 1) (L2 : List (List Rk.Sec)) (hc : How M LL l k many p L2) (hT : M.top < 9223372036854775807) (hp : p + Sf.many (Tal.row (bas l)).length ≤ n / 2) (R : Rm)
    (hRf : R.f = (M.half k).f) (hRn : R.n = n / 2) (hS : R.S = (M.half k).S ∨ R.S = (if p = 0 then Ld.zero else (M.half k).S).took (M.top + 1) (Tal.row (bas l)) (Sf.many (Tal.row (bas l)).length)) :
    Lost n (drv (x.fuse fz) ((M.half k).f + p) ((Sf.sheaf (M.top + 1) (Tal.row (bas l))).take m)) (M.put k R).fall LL L2 := by
  have n8 := h.g.n8
  have n9 := h.g.n9
  have hD := h.g.D
  have hfit := h.g.fit k
  have hhf := h.g.hf k
  have hrow := hl.row
  have hsl := Sf.sheaf_len (M.top + 1) (Tal.row (bas l))
  have hfine := hhf.1.s.r.fine
  have hlen : (if k = 0 then A else B).length = n / 2 := by split; exact h.g.la; exact h.g.lb
  have hSe := hfine.le
  have hSt := hfine.tl
  have hff : (M.half k).f + n / 2 ≤ n := by rw [hhf.2.1]; split <;> omega
  have htk : ((Sf.sheaf (M.top + 1) (Tal.row (bas l))).take m).length ≤ Sf.many (Tal.row (bas l)).length := by simp; omega
  have hps := h.g.ps
  have hmany := h.g.many
  have hage := h.g.age
  have hLs : k = M.now → M.L = M.half k := fun e => by unfold Wm.L Wm.half; rw [e]
  -- the row that was written
  have hRS : R.S.e ≤ n / 2 ∧ R.S.T.length ≤ 101 ∧ (∀ t ∈ R.S.T, t.length ≤ 98304) := by
    rcases hS with e | e
    · rw [e]; exact ⟨by omega, by omega, hfine.t⟩
    · rw [e]
      by_cases hp0 : p = 0
      · rw [if_pos hp0]
        refine ⟨by show 0 + _ ≤ _; omega, by show ([] ++ [_] : List Rk.Sec).length ≤ _; simp, fun t ht => ?_⟩
        have : t = Tal.row (bas l) := by simpa [Ld.took, Ld.zero] using ht
        rw [this]; omega
      · rw [if_neg hp0]
        have hpe : p = (M.half k).S.e := by
          rcases hc with ⟨q, _⟩ | ⟨_, _, q, _⟩
          · exact absurd q hp0
          · exact q
        refine ⟨by show (M.half k).S.e + _ ≤ _; omega, by show ((M.half k).S.T ++ [_]).length ≤ _; simp; omega, fun t ht => ?_⟩
        rcases List.mem_append.1 (show t ∈ (M.half k).S.T ++ [Tal.row (bas l)] from ht) with ht | ht
        · exact hfine.t t ht
        · have : t = Tal.row (bas l) := by simpa using ht
          rw [this]; omega
  -- what it still says of the log
  have hRL : k = M.now → M.many ≤ R.S.T.length ∧ ∀ i (hi : i < LL.length) (hi' : i < R.S.T.length), parse R.S.T[i] = some LL[i] := fun e => by
    have hL := hLs e
    rw [hL] at hps hmany hage
    rcases hS with e2 | e2
    · rw [e2]; exact ⟨by omega, fun i hi hi' => hps.eq i hi hi'⟩
    · by_cases hp0 : p = 0
      · have h0 : M.age = 0 := by
          rcases hc with ⟨_, _, _, q⟩ | ⟨_, q2, q3, _⟩
          · by_cases ha : M.age = 0
            · exact ha
            · rw [if_neg ha] at q; have := h.g.now1; omega
          · exfalso
            have : (M.half k).S.T.length = 0 := by omega
            rw [hfine.z this] at hage
            exact q2 hage
        have hT0 : (M.half k).S.T.length = 0 := by
          by_cases hz : (M.half k).S.T.length = 0
          · exact hz
          · exact absurd (hage.symm.trans h0) (first_ne hhf.1.s.r hz)
        have hLL : LL.length = 0 := by rw [hps.len]; exact hT0
        exact ⟨by omega, fun i hi _ => absurd hi (by omega)⟩
      · rw [if_neg hp0] at e2
        have e3 : R.S.T = (M.half k).S.T ++ [Tal.row (bas l)] := by rw [e2]; rfl
        refine ⟨by rw [e3]; simp; omega, fun i hi hi' => ?_⟩
        have hi2 : i < (M.half k).S.T.length := by have := hps.len; omega
        have := hps.eq i hi hi2
        rw [← this]
        congr 1
        simp [e3, List.getElem_append_left hi2]
  have hok : (drv (x.fuse fz) ((M.half k).f + p) ((Sf.sheaf (M.top + 1) (Tal.row (bas l))).take m)).Ok :=
    drv_ok (h.g.ok.fuse fz hf) (fun b hb => sheaf_64 (by omega) b (List.mem_of_mem_take hb)) (by show _ ≤ x.D.length; omega)
  have hPl : (drv (x.fuse fz) ((M.half k).f + p) ((Sf.sheaf (M.top + 1) (Tal.row (bas l))).take m)).P.length ≤ 1000 := by
    show (x.P ++ ws _ _).length ≤ 1000
    rw [h.p, List.nil_append, ws_len]
    omega
  have hFR : Fit (drv (x.fuse fz) ((M.half k).f + p) ((Sf.sheaf (M.top + 1) (Tal.row (bas l))).take m)) R := ⟨hok, by omega, by omega, by omega, by show R.f + R.n ≤ x.D.length; rw [hRf, hRn]; omega, by omega, by omega⟩
  have hF2 : ∀ j, Fit (drv (x.fuse fz) ((M.half k).f + p) ((Sf.sheaf (M.top + 1) (Tal.row (bas l))).take m)) (M.half j) := fun j => by
    have := h.g.fit j
    exact ⟨hok, by omega, this.n0, this.n9, this.f, this.t, this.e⟩
  have hnow := h.g.now1
  have hLn : M.L.n = n / 2 := by unfold Wm.L; split; exact h.g.n0; exact h.g.n1
  have hLt : ∀ t ∈ M.L.S.T, t.length ≤ 98304 := by
    have e : M.L = M.half M.now := by unfold Wm.L Wm.half; rfl
    rw [e]; exact (h.g.hf M.now).1.s.r.fine.t
  have hLl : M.L.S.T.length ≤ 101 := by
    have e : M.L = M.half M.now := by unfold Wm.L Wm.half; rfl
    have h1 := (h.g.hf M.now).1.s.r.fine
    have h2 := h1.le
    have h3 := h1.tl
    have h4 : (if M.now = 0 then A else B).length = n / 2 := by split; exact h.g.la; exact h.g.lb
    rw [e]; omega
  have hpl := put_L (R := R) hk hnow
  have hTl : ((M.put k R).fall).L.S.T.length ≤ 10000 := by rw [hpl]; split <;> omega
  have e1 : (M.put k R).fall.now = M.now := by unfold Wm.put; split <;> rfl
  have e2 : (M.put k R).fall.many = M.many := by unfold Wm.put; split <;> rfl
  refine ⟨⟨by rw [e1]; exact hnow, ?_, ?_, hTl, ?_⟩, hD, n8, n9, hPl, ⟨by rw [e1]; exact hnow, hTl, ?_, ?_, by rw [hps.len, e2, hmany], ?_, ?_⟩, fun c => h.hit hl fz k many p m hk L2 hc hT hp c⟩
  · rcases (show k = 0 ∨ k = 1 by omega) with rfl | rfl
    · exact hFR
    · exact hF2 0
  · rcases (show k = 0 ∨ k = 1 by omega) with rfl | rfl
    · exact hF2 1
    · exact hFR
  · rw [e2]; omega
  · rw [hpl]; split <;> omega
  · rw [hpl, e2]
    split
    · exact (hRL ‹_›).1
    · omega
  · rw [hpl]
    split
    · exact hRS.2.2
    · exact hLt
  · intro i hi hi'
    have key : ∀ X : Rm, (k = M.now → X = R) → (k ≠ M.now → X = M.L) → ∀ hx : i < X.S.T.length, parse X.S.T[i] = some LL[i] := fun X h1 h2 hx => by
      by_cases e : k = M.now
      · obtain rfl := h1 e; exact (hRL e).2 i hi hx
      · obtain rfl := h2 e; exact hps.eq i hi hx
    exact key _ (fun e => by rw [hpl, if_pos e]) (fun e => by rw [hpl, if_neg e]) hi'
theorem Gf.put (h : Gf n x M A B LL) {l : List Rk.Sec} (hl : Small l) (fz : Int) (hf : fz ≤ 9223372036854775807) (k many p : Nat) (hk : k ≤ 1) (L2 : List (List Rk.Sec)) (hc : How M LL l k many p L2) : Did n x fz M LL L2 (codePut M (x.fuse fz) l k many p) := by
  have hc' : (p = 0 ∧ many = 1 ∧ L2 = [l]) ∨ (k = M.now ∧ M.age ≠ 0 ∧ p = (M.half k).S.e ∧ many = M.many + 1 ∧ L2 = LL ++ [l]) := hc.imp (fun ⟨a, b, c, _⟩ => ⟨a, b, c⟩) id
  have hP := h.g.put hl k many p hk L2 hc'
  have hhf := h.g.hf k
  have hrow := hl.row
  unfold codePut at hP ⊢
  by_cases hT : 9223372036854775807 ≤ M.top
  · rw [if_pos hT]; exact .inl rfl
  rw [if_neg hT] at hP ⊢
  unfold wrHalf at hP ⊢
  have htop := (h.g.first_le k).2
  rcases putM_three (x := x.fuse fz) (p := p) (n := M.top + 1) (t := Tal.row (bas l)) hhf.2.2.2 (by omega) (by omega) with ⟨_, e⟩ | ⟨hq, e⟩ | ⟨hq, m, e⟩
  · rw [e]
    have ee : M.put k (M.half k) = M := by unfold Wm.put Wm.half; split <;> rfl
    have e3 : ((M.put k (M.half k)).after k many 6, x.fuse fz, (6 : Int)) = (M, x.fuse fz, 6) := by
      rw [ee]; unfold Wm.after; rw [if_neg (by decide), if_neg (by decide)]
    show Did n x fz M LL L2 (if (6 : Int) = 0 then _ else ((M.put k (M.half k)).after k many 6, x.fuse fz, (6 : Int)))
    rw [if_neg (by decide), e3]
    exact .inl rfl
  · rw [hhf.2.2.1] at hq e
    have e0 := putM_ok hhf.2.2.2 (show (M.half k).top < M.top + 1 by omega) (show (Tal.row (bas l)).length ≤ 98304 by omega) (show p + Sf.many (Tal.row (bas l)).length ≤ (M.half k).n by rw [hhf.2.2.1]; exact hq) h.g.F (p := p)
    rw [e]
    rw [e0] at hP
    obtain ⟨R', hR⟩ : ∃ R' : Rm, R' = ⟨(M.half k).f, n / 2, (if p = 0 then Ld.zero else (M.half k).S).took (M.top + 1) (Tal.row (bas l)) (Sf.many (Tal.row (bas l)).length), M.top + 1, false⟩ := ⟨_, rfl⟩
    rw [hhf.2.2.1, ← hR] at hP
    rw [← hR]
    show Did n x fz M LL L2 (if (0 : Int) = 0 then ((M.put k R').after k many (drv (x.fuse fz) ((M.half k).f + p) (Sf.sheaf (M.top + 1) (Tal.row (bas l)))).sync.2, (drv (x.fuse fz) ((M.half k).f + p) (Sf.sheaf (M.top + 1) (Tal.row (bas l)))).sync.1, (drv (x.fuse fz) ((M.half k).f + p) (Sf.sheaf (M.top + 1) (Tal.row (bas l)))).sync.2) else _)
    rw [if_pos rfl]
    have hsl := Sf.sheaf_len (M.top + 1) (Tal.row (bas l))
    have hff : (M.half k).f + n / 2 ≤ n := by rw [hhf.2.1]; split <;> omega
    have hok : (drv (x.fuse fz) ((M.half k).f + p) (Sf.sheaf (M.top + 1) (Tal.row (bas l)))).Ok := drv_ok (h.g.ok.fuse fz hf) (sheaf_64 (by omega)) (by show _ ≤ x.D.length; rw [h.g.D]; omega)
    rcases sync_two (drv (x.fuse fz) ((M.half k).f + p) (Sf.sheaf (M.top + 1) (Tal.row (bas l)))) with ⟨F, hs⟩ | hs
    · have hoks := hok.sync
      rw [hs] at hoks ⊢
      refine .inr (.inl ⟨rfl, ?_, hoks⟩)
      have hs0 : (drv x ((M.half k).f + p) (Sf.sheaf (M.top + 1) (Tal.row (bas l)))).sync = (⟨(drv x ((M.half k).f + p) (Sf.sheaf (M.top + 1) (Tal.row (bas l)))).V, [], none⟩, 0) := sync_of (by unfold drv rest; rw [h.g.F])
      have hP2 : Put n x M A B LL ((M.put k R').after k many (drv x ((M.half k).f + p) (Sf.sheaf (M.top + 1) (Tal.row (bas l)))).sync.2, (drv x ((M.half k).f + p) (Sf.sheaf (M.top + 1) (Tal.row (bas l)))).sync.1, (drv x ((M.half k).f + p) (Sf.sheaf (M.top + 1) (Tal.row (bas l)))).sync.2) (docPut A B (decide (k = 1)) p l) L2 := hP
      rw [hs0] at hP2
      have hz : (docPut A B (decide (k = 1)) p l).2.2 = 0 := hP2.z.symm
      have hg := hP2.g
      rw [if_pos hz] at hg
      have hpk : ∀ b, Fs (pick b A B) := fun b => by
        unfold pick
        split
        · exact h.b
        · exact h.a
      refine ⟨_, _, hg, rfl, ?_, ?_⟩
      · unfold docPut
        rw [← h.g.top, if_neg hT]
        show Fs (if decide (k = 1) = true then A else _)
        split
        · exact h.a
        · exact rputM_fs (hpk _) (by omega)
      · unfold docPut
        rw [← h.g.top, if_neg hT]
        show Fs (if decide (k = 1) = true then _ else B)
        split
        · exact rputM_fs (hpk _) (by omega)
        · exact h.b
    · rw [hs]
      have e5 : (M.put k R').after k many 30 = (M.put k R').fall := by unfold Wm.after; rw [if_neg (by decide), if_pos rfl]
      have hL := h.lost hl fz hf k many p (Sf.sheaf (M.top + 1) (Tal.row (bas l))).length hk L2 hc (by omega) hq R' (by rw [hR]) (by rw [hR]) (.inr (by rw [hR]))
      rw [List.take_length] at hL
      refine .inr (.inr ⟨rfl, ?_, ?_⟩)
      · show Lost n _ ((M.put k R').after k many 30) LL L2
        rw [e5]; exact hL
      · show ((M.put k R').after k many 30).down = true
        rw [e5]; rfl
  · rw [hhf.2.2.1] at hq e
    rw [e]
    obtain ⟨R', hR⟩ : ∃ R' : Rm, R' = ⟨(M.half k).f, n / 2, (M.half k).S, (M.half k).top, true⟩ := ⟨_, rfl⟩
    rw [← hR]
    have e5 : (M.put k R').after k many 30 = (M.put k R').fall := by unfold Wm.after; rw [if_neg (by decide), if_pos rfl]
    show Did n x fz M LL L2 (if (30 : Int) = 0 then _ else ((M.put k R').after k many 30, drv (x.fuse fz) ((M.half k).f + p) ((Sf.sheaf (M.top + 1) (Tal.row (bas l))).take m), (30 : Int)))
    rw [if_neg (by decide), e5]
    have hL := h.lost hl fz hf k many p m hk L2 hc (by omega) hq R' (by rw [hR]) (by rw [hR]) (.inl (by rw [hR]))
    exact .inr (.inr ⟨rfl, hL, rfl⟩)
theorem Gf.commit (h : Gf n x M A B LL) {l : List Rk.Sec} (hl : Small l) (fz : Int) (hf : fz ≤ 9223372036854775807) : Did n x fz M LL (LL ++ [l]) (commitW M (x.fuse fz) l) := by
  unfold commitW codeW
  have hd : ¬ M.down = true := by rw [h.g.dn]; decide
  by_cases h0 : M.age = 0
  · rw [if_pos h0, if_neg hd]
    have hLL : LL = [] := by
      have hf := h.g.age
      have hT : M.L.S.T.length = 0 := by
        by_cases hz : M.L.S.T.length = 0
        · exact hz
        · have hl : Loaded (lgL A B M.R0.S M.R1.S) (lgS M.R0.S M.R1.S) := h.g.rd.l
          rw [← h.g.lS] at hl
          exact absurd (hf.symm.trans h0) (first_ne hl.r hz)
      have := h.g.ps.len
      exact List.eq_nil_of_length_eq_zero (by omega)
    rw [hLL, List.nil_append]
    have := h.put hl fz hf 0 1 0 (by omega) [l] (.inl ⟨rfl, rfl, rfl, by rw [if_pos h0]⟩)
    rwa [hLL] at this
  · rw [if_neg h0, if_neg hd]
    exact h.put hl fz hf M.now (M.many + 1) _ h.g.now1 _ (.inr ⟨rfl, h0, rfl, rfl, rfl⟩)
theorem Gf.save (h : Gf n x M A B LL) {l : List Rk.Sec} (hl : Small l) (fz : Int) (hf : fz ≤ 9223372036854775807) : Did n x fz M LL [l] (saveW M (x.fuse fz) l) := by
  unfold saveW codeW
  rw [if_neg (show ¬ M.down = true by rw [h.g.dn]; decide)]
  have := h.g.now1
  exact h.put hl fz hf _ 1 0 (by split <;> omega) [l] (.inl ⟨rfl, rfl, rfl, rfl⟩)
theorem commit_dead {l : List Rk.Sec} (hd : M.down = true) : commitW M x l = (M, x, 30) := by
  unfold commitW codeW
  simp [hd]
theorem save_dead {l : List Rk.Sec} (hd : M.down = true) : saveW M x l = (M, x, 30) := by
  unfold saveW codeW
  rw [if_pos hd]
/-- Opened behind a failure. -/
theorem Lost.opens {L2 : List (List Rk.Sec)} (h : Lost n x M LL L2) (c : Cr) : ∃ SA SB L3 A B, Loaded (seg (x.crash c).V 0 (n / 2)) SA ∧ Loaded (seg (x.crash c).V (n / 2) (n / 2)) SB ∧ Ps (lgS SA SB).T L3 ∧ (L3 = LL ∨ L3 = L2) ∧ Gf n (x.crash c) (openW (x.crash c) (n / 2) SA SB) A B L3 := by
  obtain ⟨SA, SB, L3, h1, h2, h3, h4, h5, h6⟩ := h.crash c
  have hD : (x.crash c).D.length = n := by show (crashTo c x.P 0 x.D).length = n; rw [crashTo_len]; exact h.D
  exact ⟨SA, SB, L3, _, _, h1, h2, h3, h4, gd_open (h.wf.f0.hx.crash c) rfl hD h.n8 h.n9 (Nat.zero_le _) h1 h2 h3, rfl, h5, h6⟩
end
end Go.Proofs.YtjlncjabiofklaaDoor.Wl
end
section
namespace Go.Proofs.YtjlncjabiofklaaDoor.Wl
open Go Go.RowKit Dv Rf Shf Rk
open Tal (Strs bas)
/-- A log over a drive; Pr: the blocks that have stayed as they were in pw. -/
structure Fm (w : World) (Pr : Nat → Prop) (pw wr : World) (b r0 r1 g : Nat) (x : Dr) (M : Wm) : Prop where
  q : ∃ U : Nat → Prop, Trio U wr b r0 r1 g x M ∧ (∀ j, U j → w.heap.size ≤ j) ∧ ∀ j, Pr j → ¬ U j
  k : Keeps (fun j => ¬ Pr j) pw wr
  l : ∀ j, Pr j → j < pw.heap.size
  b : Below w.heap.size w wr
/-- A list of strings that can be read. -/
def Lsw (w : World) (v : Value) (l : List Rk.Sec) : Prop := ∃ A cap, v = .slice A l.length cap ∧ Strs w A (bas l)
theorem Ls.weak {w : World} {v : Value} {l : List Rk.Sec} (h : Ls w v l) : Lsw w v l := by
  obtain ⟨A, cap, h1, _, h3, _⟩ := h
  exact ⟨A, cap, h1, h3⟩
/-- A list of lists that can be read, its blocks among those that stay. -/
def Lsr (Pr : Nat → Prop) (w : World) (v : Value) (LL : List (List Rk.Sec)) : Prop := ∃ A cap, v = .slice A LL.length cap ∧ (LL.length = 0 → (A = none ∧ cap = 0) ∨ ∃ q, A = some q) ∧ ∀ i (hi : i < LL.length), ∃ q u, A = some ⟨q, 0, none⟩ ∧ Pr q ∧ q < w.heap.size ∧ w.cell? ⟨q, i, none⟩ = some u ∧ Lsw w u LL[i] ∧ ∀ j, u.ownBlock = some j → LL[i] ≠ [] → Pr j
theorem Lsw.kept {T : Nat → Prop} {w w' : World} {v : Value} {l : List Rk.Sec} (h : Lsw w v l) (k : Keeps T w w') (hT : l ≠ [] → ∀ j, v.ownBlock = some j → ¬ T j) : Lsw w' v l := by
  obtain ⟨A, cap, rfl, h3⟩ := h
  by_cases hl : l = []
  · subst hl
    exact ⟨A, cap, rfl, fun j hj => absurd hj (by simp [bas])⟩
  · exact ⟨A, cap, rfl, strs_keeps h3 k fun b off e => hT hl b (by rw [e]; rfl)⟩
/-- The list of an act. -/
theorem lsw_act {w wr : World} {A : Option Addr} {cap : Nat} {l : List Rk.Sec} (h : Strs w A (bas l)) (k : Below w.heap.size w wr) : Lsw wr (.slice A l.length cap) l ∧ ∀ j, (Value.slice A l.length cap).ownBlock = some j → l ≠ [] → j < w.heap.size := by
  refine ⟨⟨A, cap, rfl, h.later k⟩, fun j hj hl => ?_⟩
  have h0 : 0 < (bas l).length := by
    rw [bas_len]
    cases l with
    | nil => exact absurd rfl hl
    | cons => simp
  obtain ⟨b, off, rfl, hb, _⟩ := h 0 h0
  have : b = j := by simpa [Value.ownBlock] using hj
  rw [← this]; exact hb
section
variable {w pw wr w2 w3 : World} {Pr Ps' : Nat → Prop} {b r0 r1 g : Nat} {x x' : Dr} {M M' : Wm} {v : Value} {LL : List (List Rk.Sec)}
theorem Lsr.keeps (h : Lsr Pr w v LL) (k : Keeps (fun j => ¬ Pr j) w w2) : Lsr Pr w2 v LL := by
  obtain ⟨A, cap, h1, h2, h3⟩ := h
  refine ⟨A, cap, h1, h2, fun i hi => ?_⟩
  obtain ⟨q, u, k1, k2, k3, k4, k5, k6⟩ := h3 i hi
  exact ⟨q, u, k1, k2, Nat.lt_of_lt_of_le k3 k.size, (World.cell?_of_block (a := ⟨q, i, none⟩) (k.block q k3 fun hn => hn k2)).trans k4, k5.kept k fun hne j hj hn => hn (k6 j hj hne), k6⟩
theorem Lsr.later (h : Lsr Pr w v LL) (k : Below w.heap.size w w2) : Lsr Pr w2 v LL := h.keeps (Keeps.of _ k)
theorem Lsr.mono (h : Lsr Pr w v LL) (hP : ∀ j, Pr j → Ps' j) : Lsr Ps' w v LL := by
  obtain ⟨A, cap, h1, h2, h3⟩ := h
  refine ⟨A, cap, h1, h2, fun i hi => ?_⟩
  obtain ⟨q, u, k1, k2, k3, k4, k5, k6⟩ := h3 i hi
  exact ⟨q, u, k1, hP q k2, k3, k4, k5, fun j hj hne => hP j (k6 j hj hne)⟩
theorem Lss.lsr {base : Nat} (h : Lss base w v LL) : Lsr (fun j => base ≤ j ∧ j < w.heap.size) w v LL := by
  obtain ⟨vs, h⟩ := h
  have hvl := h.len
  have hcase := h.own.2
  obtain ⟨A, cap, rfl⟩ := own_slice h.own
  refine ⟨A, cap, rfl, fun h0 => ?_, fun i hi => ?_⟩
  · cases A with
    | none =>
      left
      rcases hcase with ⟨e, _⟩ | ⟨g, c, cur, e, _⟩
      · simp at e; exact ⟨rfl, e.2⟩
      · cases e
    | some q => exact .inr ⟨q, rfl⟩
  · rcases hcase with ⟨e, h0⟩ | ⟨g, c, cur, e, hg, _⟩
    · rw [h0] at hvl; simp at hvl; omega
    · cases e
      have hm : vs[i]'(by omega) ∈ vs := List.getElem_mem _
      exact ⟨g, vs[i]'(by omega), rfl, ⟨hg, (Rf.own_cell h.own).1⟩, (Rf.own_cell h.own).1, (Rf.own_cell h.own).2 i _ (by simp), (h.ls i _ _ (by simp) (by simp [hi])).weak, fun j hj _ => ⟨(h.blk _ hm j hj).1, (h.blk _ hm j hj).2.1⟩⟩
theorem Lsr.slice (h : Lsr Pr w v LL) : ∃ A cap, v = .slice A LL.length cap := by
  obtain ⟨A, cap, h1, _⟩ := h
  exact ⟨A, cap, h1⟩
theorem Fm.later (h : Fm w Pr pw wr b r0 r1 g x M) (k : Below wr.heap.size wr w2) : Fm w Pr pw w2 b r0 r1 g x M := by
  obtain ⟨U, h1, h2, h3⟩ := h.q
  exact ⟨⟨U, h1.later k, h2, h3⟩, h.k.then (Keeps.of (fun _ => False) k) fun _ hj => hj.elim, h.l, h.b.trans (k.mono h.b.size)⟩
/-- Its blocks, and what an operation on them leaves. -/
theorem Fm.pick (h : Fm w Pr pw wr b r0 r1 g x M) : ∃ U : Nat → Prop, Trio U wr b r0 r1 g x M ∧ ∀ (w3 : World) (b' r0' r1' g' : Nat) (x' : Dr) (M' : Wm), Trio (fun j => U j ∨ wr.heap.size ≤ j) w3 b' r0' r1' g' x' M' → Keeps U wr w3 → Fm w Pr pw w3 b' r0' r1' g' x' M' := by
  obtain ⟨U, h1, h2, h3⟩ := h.q
  refine ⟨_, h1.lt, fun w3 b' r0' r1' g' x' M' kt kk => ?_⟩
  refine ⟨⟨_, kt, ?_, ?_⟩, h.k.then kk fun j hj => .inl fun hp => h3 j hp hj.1, h.l, h.b.trans (kk.below (fun j hj => h2 j hj.1) h.b.size)⟩
  · rintro j (hj | hj)
    · exact h2 j hj.1
    · exact Nat.le_trans h.b.size hj
  · rintro j hp (hj | hj)
    · exact h3 j hp hj.1
    · have := h.l j hp
      have := h.k.size
      omega
/-- More is to stay, or less. -/
theorem Fm.grow (h : Fm w Pr pw wr b r0 r1 g x M) (k : Below wr.heap.size wr w2) (Pr' : Nat → Prop) (h1 : ∀ j, Pr' j → Pr j ∨ wr.heap.size ≤ j) (h2 : ∀ j, Pr' j → j < w2.heap.size) : Fm w Pr' w2 w2 b r0 r1 g x M := by
  obtain ⟨U, k1, k2, k3⟩ := h.q
  refine ⟨⟨_, k1.lt.later k, fun j hj => k2 j hj.1, fun j hp hj => ?_⟩, Keeps.refl _ _, h2, h.b.trans (k.mono h.b.size)⟩
  rcases h1 j hp with hp | hp
  · exact k3 j hp hj.1
  · have := hj.2; omega
/-- What stays has stayed. -/
theorem Fm.rw (h : Fm w Pr pw wr b r0 r1 g x M) {j : Nat} {t : TypeId} {L : List Value} (hr : Rw pw j t L) (hp : Pr j) : Rw wr j t L := hr.keeps h.k fun hn => hn hp
theorem Fm.ls (h : Fm w Pr pw wr b r0 r1 g x M) (hl : Lsr Pr pw v LL) : Lsr Pr wr v LL := hl.keeps h.k
theorem Fm.os (h : Fm w Pr pw wr b r0 r1 g x M) : ∃ U : Nat → Prop, Dv.Os U wr g x := by
  obtain ⟨U, ⟨t0, t1, hv⟩, _⟩ := h.q
  exact ⟨U, hv.os⟩
theorem Fm.code {f : FuncId} {s : Value} {C : Wm × Dr × Int} (h : Fm w Pr pw wr b r0 r1 g x M) (hc : ∀ U : Nat → Prop, Trio U wr b r0 r1 g x M → Calls Tryd.prog f #[.pointer (some ⟨b, 0, none⟩), s] wr (WrRes U b r0 r1 g C wr)) :
    Calls Tryd.prog f #[.pointer (some ⟨b, 0, none⟩), s] wr fun e w' => e = .returned (.int .i64 C.2.2) ∧ Fm w Pr pw w' b r0 r1 g C.2.1 C.1 := by
  obtain ⟨U, h1, h2⟩ := h.pick
  exact (hc U h1).mono fun e w' hr => ⟨hr.1, h2 _ _ _ _ _ _ _ hr.2.1 hr.2.2⟩
theorem Trio.fused {U : Nat → Prop} (h : Trio U wr b r0 r1 g x M) (hx : x.Ok) (k : Int) : Calls Tryd.prog 9 #[.pointer (some ⟨g, 0, none⟩), .int .i64 k] wr fun e w' => e = .returned (.tuple #[]) ∧ Then U b r0 r1 g (x.fuse k) M wr w' := by
  obtain ⟨V, h1, h2⟩ := h.half0
  exact (h1.fuse hx k).mono fun e w' hr => ⟨hr.1, h2 w' _ M.R0 hr.2⟩
theorem bothCrash {U : Nat → Prop} {r : Nat} {R : Rm} (h : Both U wr r g x R) (hx : x.Ok) (hP : x.P.length ≤ 100000) (c : Cr) (hc : c.Fits) : Calls Tryd.prog 13 #[.pointer (some ⟨g, 0, Option.none⟩), c.val] wr fun e w' => e = .returned (.tuple #[]) ∧ Past U r g (x.crash c) R wr w' := by
  obtain ⟨tv, h1, h2, h3⟩ := h
  refine (os_crash (os_row h1 h2) hx hP c hc).mono fun e w' hr => ⟨hr.1, ?_⟩
  obtain ⟨k1, k2⟩ := hr.2
  exact ⟨⟨tv, k1.mono fun j hj => hj.imp (fun h => h.1) id, h2.keeps k2 fun j hj hn => hn.2 hj, fun j hj => .inl (h3 j hj)⟩, k2.mono fun j hj => .inl hj.1⟩
theorem fm_fuse (h : Fm w Pr pw wr b r0 r1 g x M) (hx : x.Ok) (k : Int) : Calls Tryd.prog 9 #[.pointer (some ⟨g, 0, none⟩), .int .i64 k] wr fun e w' => e = .returned (.tuple #[]) ∧ Fm w Pr pw w' b r0 r1 g (x.fuse k) M := by
  obtain ⟨U, h1, h2⟩ := h.pick
  exact (h1.fused hx k).mono fun e w' hr => ⟨hr.1, h2 _ _ _ _ _ _ _ hr.2.1 hr.2.2⟩
theorem fm_crash (h : Fm w Pr pw wr b r0 r1 g x M) (hx : x.Ok) (hP : x.P.length ≤ 100000) (c : Cr) (hc : c.Fits) : Calls Tryd.prog 13 #[.pointer (some ⟨g, 0, Option.none⟩), c.val] wr fun e w' => e = .returned (.tuple #[]) ∧ Fm w Pr pw w' b r0 r1 g (x.crash c) M := by
  obtain ⟨U, h1, h2⟩ := h.pick
  obtain ⟨V, k1, k2⟩ := h1.half0
  refine (bothCrash k1 hx hP c hc).mono fun e w' hr => ⟨hr.1, ?_⟩
  have := k2 w' _ M.R0 hr.2
  exact h2 _ _ _ _ _ _ _ this.1 this.2
/-- Opened again. -/
theorem fm_open {n : Nat} {SA SB : Ld} {LL : List (List Rk.Sec)} (h : Fm w Pr pw wr b r0 r1 g x M) (hx : x.Ok) (hD : x.D.length = n) (n8 : 8 ≤ n) (n9 : n ≤ 100) (hA : Loaded (seg x.V 0 (n / 2)) SA) (hB : Loaded (seg x.V (n / 2) (n / 2)) SB) (hp : Wl.Ps (lgS SA SB).T LL) :
    Calls Tryd.prog 5 #[.pointer (some ⟨g, 0, none⟩)] wr fun e w' => ∃ b' r0' r1', e = .returned (.tuple #[.pointer (some ⟨b', 0, none⟩), .int .i64 0]) ∧ Fm w Pr pw w' b' r0' r1' g x (openW x (n / 2) SA SB) := by
  obtain ⟨U, h1, h2⟩ := h.pick
  obtain ⟨t0, t1, hv⟩ := h1
  refine (open_w hv.os hx (n / 2) SA SB (by rw [hD]) (by rw [hD]; exact n8) (by rw [hD]; omega) hA hB).mono fun e w' hr => ?_
  obtain ⟨hk, hr⟩ := hr
  rcases hr with ⟨_, b', r0', r1', _, rfl, ht⟩ | ⟨hno, _⟩
  · exact ⟨b', r0', r1', rfl, h2 _ _ _ _ _ _ _ ht hk⟩
  · exact absurd hp (hno LL)
/-- Its transactions. -/
theorem fm_txns (h : Fm w Pr pw wr b r0 r1 g x M) (hl : Tx M LL) : Calls Tryd.prog 8 #[.pointer (some ⟨b, 0, none⟩)] wr fun e w' => ∃ v, e = .returned v ∧ Lss wr.heap.size w' v LL ∧ Below wr.heap.size wr w' := by
  obtain ⟨U, h1, _⟩ := h.q
  exact txns_c U b r0 r1 g x M wr LL h1 hl.now hl.n0 hl.l hl.many hl.len hl.t hl.ps
theorem fm_room (h : Fm w Pr pw wr b r0 r1 g x M) (hn : M.now ≤ 1) : Calls Tryd.prog 15 #[.pointer (some ⟨b, 0, none⟩)] wr fun e w' => e = .returned (.int .i64 (M.room : Int)) ∧ Below wr.heap.size wr w' := by
  obtain ⟨U, ⟨t0, t1, hv⟩, _⟩ := h.q
  exact (wroom_c b r0 r1 M wr hv.blk hn).mono fun e w' hr => ⟨hr.1, by obtain ⟨m, rfl⟩ := hr.2; exact drewN_below (Below.refl _ _) m⟩
end
end Go.Proofs.YtjlncjabiofklaaDoor.Wl
end
section
namespace Go.Proofs.YtjlncjabiofklaaDoor.Wl
open Go Go.RowKit Dv Rf Shf Rk
open Tal (Strs bas)
theorem lsr_at {P : Nat → Prop} {w : World} {a : Option Addr} {n c : Nat} {LL : List (List Rk.Sec)} (h : Lsr P w (.slice a n c) LL) {i : Nat} (hi : i < LL.length) :
    ∃ g v, g < w.heap.size ∧ a = some ⟨g, 0, none⟩ ∧ w.cell? ⟨g, i, none⟩ = some v ∧ Lsw w v LL[i] := by
  obtain ⟨A, cap, e, _, h3⟩ := h
  obtain ⟨q, u, k1, _, k3, k4, k5, _⟩ := h3 i hi
  obtain ⟨rfl, _, _⟩ : a = A ∧ n = LL.length ∧ c = cap := by simpa using e
  exact ⟨q, u, k3, k1, k4, k5⟩
set_option maxRecDepth 100000 in
set_option maxHeartbeats 1600000 in
/-- Two rows of transactions, whether they are the same. -/
theorem same06_r (LL MM : List (List Rk.Sec)) (va vb : Value) (P Q : Nat → Prop) (w : World) (ha : Lsr P w va LL) (hb : Lsr Q w vb MM) (hl : LL.length ≤ 100000) (_hm : MM.length ≤ 100000) (hz : ∀ l ∈ LL, l.length ≤ 1000000) (hz' : ∀ l ∈ MM, l.length ≤ 1000000) :
    Calls Tryd.prog 12 #[va, vb] w fun e w' => e = .returned (.bool (decide (LL = MM))) ∧ Below w.heap.size w w' := by
  obtain ⟨a, ca, rfl⟩ := ha.slice
  obtain ⟨b, cb, rfl⟩ := hb.slice
  have HA := Lib.hid ha
  have HB := Lib.hid hb
  have HZ := Lib.hid hz
  have HZ' := Lib.hid hz'
  clear ha hb hz hz'
  by_cases hlen : LL.length = MM.length
  · have hzz : ((LL.length : Int) != (MM.length : Int)) = false := by simp [hlen]
    have HLEN := Lib.hid hlen
    clear hlen
    go_enter Tryd.func12, Tryd.ntmps12
    go_wp2_with fail
    clear hzz
    go_loopg [5] LL.length (fun kx s5 wr => ∃ i : Nat, s5 = .int .i64 (i : Int) ∧ i ≤ LL.length ∧ Hid (LL.take i = MM.take i) ∧ Hid (Below w.heap.size w wr) ∧ LL.length ≤ i + kx)
    case atStart => exact ⟨0, rfl, Nat.zero_le _, (by show _ = _; simp), Below.refl _ _, by omega⟩
    case round =>
      obtain ⟨i, rfl, hi, HT, HW, hkx⟩ := hrel
      by_cases hlt : i < LL.length
      · have hlt2 : i < MM.length := by have := HLEN.out; omega
        have A1 := HA.out.later HW.out
        have B1 := HB.out.later HW.out
        obtain ⟨ga, ra, hga, rfl, hca⟩ := lsr_at A1 hlt
        obtain ⟨gb, rb, hgb, rfl, hcb⟩ := lsr_at B1 hlt2
        obtain ⟨x, hx⟩ : ∃ x, x = LL[i] := ⟨_, rfl⟩
        obtain ⟨y, hy⟩ : ∃ y, y = MM[i] := ⟨_, rfl⟩
        obtain ⟨Aa, capa, ea, hSa⟩ := hca.2
        obtain ⟨Ab, capb, eb, hSb⟩ := hcb.2
        have c1 := hca.1
        have c2 := hcb.1
        rw [ea, ← hx] at c1
        rw [eb, ← hy] at c2
        rw [← hx] at hSa
        rw [← hy] at hSb
        have KS : Hid (Calls Tryd.prog 30 #[.slice Aa x.length capa, .slice Ab y.length capb] wr.drew fun e w' => e = .returned (.bool (decide (x = y))) ∧ Below wr.heap.size wr w') := by
          have h1 := HZ.out x (by rw [hx]; exact List.getElem_mem hlt)
          have h2 := HZ'.out y (by rw [hy]; exact List.getElem_mem hlt2)
          have := Shf.same_c wr.drew Aa Ab capa capb (bas x) (bas y) (hSa.later (Below.refl _ _).drew) (hSb.later (Below.refl _ _).drew) (by rw [bas_len]; omega) (by rw [bas_len]; omega)
          rw [bas_len, bas_len] at this
          have e : decide (bas x = bas y) = decide (x = y) := by
            by_cases h : x = y
            · rw [h]; simp
            · rw [decide_eq_false h, decide_eq_false (fun hh => h (bas_inj hh))]
          rw [e] at this
          exact this.mono fun e w' hq => ⟨hq.1, (Below.refl _ wr).drew.trans hq.2⟩
        obtain ⟨bxy, hbxy⟩ : ∃ q, q = decide (x = y) := ⟨_, rfl⟩
        rw [← hbxy] at KS
        have HBXY := Lib.hid hbxy
        clear hbxy
        have HT1 : Hid (LL.take (i + 1) = LL.take i ++ [x]) := by show _ = _; rw [List.take_succ_eq_append_getElem hlt, ← hx]
        have HT2 : Hid (MM.take (i + 1) = MM.take i ++ [y]) := by show _ = _; rw [List.take_succ_eq_append_getElem hlt2, ← hy]
        have HXY : Hid (x ≠ y → LL ≠ MM) := fun hn e => hn (by rw [hx, hy]; simp only [e])
        have j0 : (0 : Int) ≤ (i : Int) := by omega
        have j1 : (i : Int) < (LL.length : Int) := by omega
        have j2 : (i : Int) < (MM.length : Int) := by omega
        have HGA := Lib.hid hga
        have HGB := Lib.hid hgb
        clear hga hgb hca hcb A1 B1 hx hy ea eb hSa hSb
        go_wp2_with fail
        go_region_held3 (fun u => u.cell? ⟨ga, i, none⟩ = some (.slice Aa x.length capa) ∧ u.cell? ⟨gb, i, none⟩ = some (.slice Ab y.length capb)) (go_keep) ((go_at_call 30; refine KS.out.mono ?_; rintro e w6 ⟨rfl, hb6⟩; have HB6 := Lib.hid hb6; have c1' := (hb6.cell (p := ⟨ga, i, none⟩) HGA.out).trans c1; have c2' := (hb6.cell (p := ⟨gb, i, none⟩) HGB.out).trans c2; clear hb6))
        have HW6 : Hid (Below w.heap.size w w6) := HW.out.trans (HB6.out.mono HW.out.size)
        clear c1 c2 c1' c2'
        cases bxy with
        | true =>
          have hxy : x = y := of_decide_eq_true HBXY.out.symm
          have HT9 : Hid (LL.take (i + 1) = MM.take (i + 1)) := by show _ = _; rw [HT1.out, HT2.out, HT.out, hxy]
          clear hxy
          go_wp2_with fail
          go_roundg (LL.length - (i + 1))
          case measure => omega
          case rel => exact ⟨i + 1, by simp, by omega, HT9, HW6, by omega⟩
        | false =>
          have hxy : ¬ x = y := of_decide_eq_false HBXY.out.symm
          have HN : Hid (decide (LL = MM) = false) := decide_eq_false (HXY.out hxy)
          clear hxy hkx
          go_wp2_with fail
          go_ret
          rw [HN.out]
          exact ⟨rfl, HW6.out⟩
      · obtain rfl : i = LL.length := by omega
        have HE : Hid (decide (LL = MM) = true) := by
          refine decide_eq_true ?_
          have := HT.out
          rw [List.take_length] at this
          rw [this, HLEN.out, List.take_length]
        clear hkx hlt hi
        go_wp2_with fail
        go_ret
        rw [HE.out]
        exact ⟨rfl, HW.out⟩
  · have hzz : ((LL.length : Int) != (MM.length : Int)) = true := by simp; omega
    have HN : Hid (decide (LL = MM) = false) := decide_eq_false fun e => hlen (by rw [e])
    clear hlen
    go_enter Tryd.func12, Tryd.ntmps12
    go_wp2_with fail
    go_ret
    rw [HN.out]
    exact ⟨rfl, Below.refl _ _⟩
end Go.Proofs.YtjlncjabiofklaaDoor.Wl
end
section
namespace Go.Proofs.YtjlncjabiofklaaDoor.Wl
open Go Go.RowKit Dv Rf Shf Rk
open Tal (Strs bas)
/-- Append of a row that may be none. -/
theorem wp_append_any {P : Program} {w : World} {o : Oper} {a : Act} {K : Act → World → Prop} {Q : Exit → Act → World → Prop} (s x : Operand) (t : TypeId)
    (ho : o.op = .call { callee := .builtin .append, args := #[s, x], argTypes := #[t, t] })
    (base : Nat) (e : TypeId) (i : TypeInfo) (z : Value) (size bytes : Nat) (ht : P.underlying t = some (.slice e)) (hi : P.info? e = some i) (hz : i.zero = some z)
    (hsize : i.size = size) (hby : i.bytes = bytes) (hzs : z.cells.size = size) (hsz : 0 < size)
    (v : Value) (n : Nat) (xs : List Value) (hs : a.eval s = v) (hown : w.ownsRow base e size v n xs)
    (A : Option Addr) (m c : Nat) (news : List Value) (hx : a.eval x = .slice A m c)
    (hA : (A = none ∧ m = 0 ∧ c = 0 ∧ news = []) ∨ ∃ ad, A = some ad ∧ news.length = m * size ∧ ∀ j u, news[j]? = some u → w.cell? (ad.add j) = some u) (h1 : ∀ u ∈ news, u.oneCell' = true)
    (h63 : n + m ≤ maxLen) (hbytes : (n + m) * bytes ≤ 140737488355328) (hbase : base ≤ w.heap.size)
    (h : ∀ v' w', w'.ownsRow base e size v' (n + m) (xs ++ news) → w.grownBy w' v.ownBlock → (v'.ownBlock = v.ownBlock ∨ v'.ownBlock = some w.heap.size) → K (a.put o.dst v') w') : o.wp P a w K Q := by
  rcases hA with ⟨rfl, rfl, rfl, rfl⟩ | ⟨ad, rfl, hl, hnews⟩
  · have hr := run_append_owned_none (P := P) (w := w) base t o.type e i size ht hi v n xs hown
    unfold Oper.wp execOp
    simp only [ho, resolve, invoke, builtin, Sem.run_bind, Sem.run_pure, Result.andThen_ok, List.map_toArray, List.map_cons, List.map_nil, hs, hx, hr]
    exact h v w (by simpa using hown) (World.grownBy.refl _ _) (.inl rfl)
  · obtain ⟨v', w', hr, h2, h3, _, h5⟩ := run_append_own_at (P := P) (w := w) base t o.type e i z size bytes ht hi hz hsize hby hzs hsz v n xs hown ad m c news hl hnews h1 h63 hbytes hbase
    unfold Oper.wp execOp
    simp only [ho, resolve, invoke, builtin, Sem.run_bind, Sem.run_pure, Result.andThen_ok, List.map_toArray, List.map_cons, List.map_nil, hs, hx, hr]
    exact h v' w' h2 h3 h5
/-- The values of a list of lists that can be read. -/
theorem Lsr.row {P : Nat → Prop} {w : World} {A : Option Addr} {n c : Nat} {LL : List (List Rk.Sec)} (h : Lsr P w (.slice A n c) LL) : ∃ vs : List Value, vs.length = LL.length ∧ n = LL.length ∧
    (∀ u, Below w.heap.size w u → (A = none ∧ n = 0 ∧ c = 0 ∧ vs = []) ∨ ∃ ad, A = some ad ∧ vs.length = n * 1 ∧ ∀ (j : Nat) (y : Value), vs[j]? = some y → u.cell? (ad.add j) = some y) ∧ (∀ y ∈ vs, y.oneCell' = true) ∧
    ∀ (i : Nat) (y : Value) (l : List Rk.Sec), vs[i]? = some y → LL[i]? = some l → Lsw w y l ∧ ∀ j, y.ownBlock = some j → l ≠ [] → P j := by
  obtain ⟨A', cap, e, h2, h3⟩ := h
  obtain ⟨rfl, rfl, rfl⟩ : A = A' ∧ n = LL.length ∧ c = cap := by simpa using e
  by_cases h0 : LL.length = 0
  · refine ⟨[], by simp [h0], rfl, fun u _ => ?_, fun y hy => (by cases hy), fun i y l hy => (by simp at hy)⟩
    rcases h2 h0 with ⟨rfl, rfl⟩ | ⟨q, rfl⟩
    · exact .inl ⟨rfl, h0, rfl, rfl⟩
    · exact .inr ⟨q, rfl, by simp [h0], fun j y hy => (by simp at hy)⟩
  · obtain ⟨q, _, rfl, _, hq, _⟩ := h3 0 (by omega)
    have key : ∀ i (hi : i < LL.length), ∃ u, w.cell? ⟨q, i, none⟩ = some u ∧ Lsw w u LL[i] ∧ ∀ j, u.ownBlock = some j → LL[i] ≠ [] → P j := fun i hi => by
      obtain ⟨q', u, k1, _, _, k4, k5, k6⟩ := h3 i hi
      cases k1
      exact ⟨u, k4, k5, k6⟩
    have hvs : ∀ (i : Nat) (y : Value), ((List.range LL.length).map fun i => (w.cell? ⟨q, i, none⟩).getD (.bool false))[i]? = some y → ∃ hi : i < LL.length, w.cell? ⟨q, i, none⟩ = some y ∧ Lsw w y LL[i] ∧ ∀ j, y.ownBlock = some j → LL[i] ≠ [] → P j := fun i y hy => by
      have hi : i < LL.length := by
        rcases Nat.lt_or_ge i LL.length with h | h
        · exact h
        · rw [List.getElem?_eq_none (by simp; omega)] at hy; cases hy
      obtain ⟨u, k1, k2, k3⟩ := key i hi
      rw [List.getElem?_map, List.getElem?_range hi] at hy
      simp only [Option.map_some, Option.some.injEq] at hy
      rw [k1] at hy
      simp only [Option.getD_some] at hy
      subst hy
      exact ⟨hi, k1, k2, k3⟩
    refine ⟨(List.range LL.length).map fun i => (w.cell? ⟨q, i, none⟩).getD (.bool false), by simp, rfl, fun u hu => .inr ⟨_, rfl, by simp, fun j y hy => ?_⟩, fun y hy => ?_, fun i y l hy hl => ?_⟩
    · obtain ⟨hi, k1, _⟩ := hvs j y hy
      rw [Go.WideShapes.add_plain, Nat.zero_add]
      exact (hu.cell (p := ⟨q, j, none⟩) hq).trans k1
    · obtain ⟨i, hy⟩ := List.getElem?_of_mem hy
      obtain ⟨_, _, ⟨A9, c9, rfl, _⟩, _⟩ := hvs i y hy
      rfl
    · obtain ⟨hi, _, k2, k3⟩ := hvs i y hy
      rw [List.getElem?_eq_getElem hi] at hl
      cases hl
      exact ⟨k2, k3⟩
theorem lsr_own {P : Nat → Prop} {base : Nat} {u : World} {v : Value} {vs : List Value} {LL : List (List Rk.Sec)} (ho : u.ownsRow base TLs 1 v LL.length vs) (hl : vs.length = LL.length)
    (h : ∀ (i : Nat) (y : Value) (l : List Rk.Sec), vs[i]? = some y → LL[i]? = some l → Lsw u y l ∧ ∀ j, y.ownBlock = some j → l ≠ [] → P j) : Lsr (fun j => P j ∨ (base ≤ j ∧ j < u.heap.size)) u v LL := by
  obtain ⟨A, cap, rfl⟩ := own_slice ho
  refine ⟨A, cap, rfl, fun h0 => ?_, fun i hi => ?_⟩
  · cases A with
    | none =>
      left
      rcases ho.2 with ⟨e, _⟩ | ⟨g, c, cur, e, _⟩
      · simp at e; exact ⟨rfl, e.2⟩
      · cases e
    | some q => exact .inr ⟨q, rfl⟩
  · rcases id ho.2 with ⟨e, h0⟩ | ⟨g, c, cur, e, hg, _⟩
    · rw [h0] at hl; simp at hl; omega
    · cases e
      have hc := Rf.own_cell ho
      obtain ⟨k1, k2⟩ := h i (vs[i]'(by omega)) LL[i] (by simp) (by simp [hi])
      exact ⟨g, vs[i]'(by omega), rfl, .inr ⟨hg, hc.1⟩, hc.1, hc.2 i _ (by simp), k1, fun j hj hne => .inl (k2 j hj hne)⟩
/-- Where both lists stand, in any order. -/
structure Ap2 (W : World) (vs : List Value) (z : Value) (l0 l2 l5 l6 l7 : Bool) (v0 v2 v5 v6 : Value) (u : World) : Prop where
  b : Below W.heap.size W u
  r0 : l0 = true → l2 = false → u.ownsRow W.heap.size TLs 1 v0 0 []
  r2 : l2 = true → l6 = false → u.ownsRow W.heap.size TLs 1 v2 vs.length vs
  r5 : l5 = true → l6 = false → ∃ g5, v5 = .slice (some ⟨g5, 0, none⟩) 1 1 ∧ Rw u g5 TLs [z] ∧ (l0 = true → l2 = false → v0.ownBlock ≠ some g5) ∧ (l2 = true → v2.ownBlock ≠ some g5)
  r6 : l6 = true → u.ownsRow W.heap.size TLs 1 v6 (vs.length + 1) (vs ++ [z])
  m2 : l2 = true → l0 = true
  m6 : l6 = true → l2 = true
  m65 : l6 = true → l5 = true
  m7 : l7 = true → l6 = true
section
variable {W u u' : World} {vs : List Value} {z : Value} {l0 l2 l5 l6 l7 : Bool} {v0 v2 v5 v6 : Value}
theorem Ap2.start (k : Below W.heap.size W u) : Ap2 W vs z false false false false false v0 v2 v5 v6 u := ⟨k, fun h => (by cases h), fun h => (by cases h), fun h => (by cases h), fun h => (by cases h), fun h => (by cases h), fun h => (by cases h), fun h => (by cases h), fun h => (by cases h)⟩
theorem Ap2.zero (h : Ap2 W vs z l0 l2 l5 l6 l7 v0 v2 v5 v6 u) (hi : l0 = false) : Ap2 W vs z true l2 l5 l6 l7 (.slice (some ⟨u.heap.size, 0, none⟩) 0 0) v2 v5 v6 (u.alloc (.cells #[] TLs)) := by
  have e2 : l2 = false := by cases l2; rfl; have := h.m2 rfl; rw [hi] at this; cases this
  have e6 : l6 = false := by cases l6; rfl; have := h.m6 rfl; rw [e2] at this; cases this
  subst e2 e6
  refine ⟨h.b.alloc h.b.size _, fun _ _ => own_zero _ _ _ _ h.b.size, fun h => (by cases h), fun h5 _ => ?_, fun h => (by cases h), fun h => (by cases h), fun h => (by cases h), fun h => (by cases h), h.m7⟩
  obtain ⟨g5, k1, k2, _, _⟩ := h.r5 h5 rfl
  refine ⟨g5, k1, k2.later ((Below.refl _ u).alloc (Nat.le_refl _) _), fun _ _ e => ?_, fun h => (by cases h)⟩
  have := k2.lt
  have e2 : u.heap.size = g5 := by simpa [Value.ownBlock] using e
  omega
theorem Ap2.one (h : Ap2 W vs z l0 l2 l5 l6 l7 v0 v2 v5 v6 u) (hi : l5 = false) : Ap2 W vs z l0 l2 true l6 l7 v0 v2 (.slice (some ⟨u.heap.size, 0, none⟩) 1 1) v6 (u.alloc (.cells #[z] TLs)) := by
  have e6 : l6 = false := by cases l6; rfl; have := h.m65 rfl; rw [hi] at this; cases this
  subst e6
  have k : Below u.heap.size u (u.alloc (.cells #[z] TLs)) := (Below.refl _ u).alloc (Nat.le_refl _) _
  refine ⟨h.b.alloc h.b.size _, fun a b => Rf.own_later (h.r0 a b) k, fun a b => Rf.own_later (h.r2 a b) k, fun _ _ => ⟨u.heap.size, rfl, Rw.new u [z] TLs, fun a b e => ?_, fun a e => ?_⟩, fun h => (by cases h), h.m2, fun h => (by cases h), fun h => (by cases h), h.m7⟩
  · have := ((h.r0 a b).lt _ e).2; omega
  · have := ((h.r2 a rfl).lt _ e).2; omega
theorem Ap2.first (h : Ap2 W vs z l0 l2 l5 l6 l7 v0 v2 v5 v6 u) (hi : l2 = false) {v : Value} {n : Nat} (hown : u'.ownsRow W.heap.size TLs 1 v (0 + n) ([] ++ vs)) (hg : u.grownBy u' v0.ownBlock) (hat : v.ownBlock = v0.ownBlock ∨ v.ownBlock = some u.heap.size) (h0 : u.ownsRow W.heap.size TLs 1 v0 0 []) (hl0 : l0 = true) (hn : n = vs.length) : Ap2 W vs z l0 true l5 l6 l7 v0 v v5 v6 u' := by
  have e6 : l6 = false := by cases l6; rfl; have := h.m6 rfl; rw [hi] at this; cases this
  subst e6 hn hi
  rw [Nat.zero_add, List.nil_append] at hown
  refine ⟨h.b.grown hg h.b.size fun j hj => (h0.lt j hj).1, fun _ h => (by cases h), fun _ _ => hown, fun h5 _ => ?_, fun h => (by cases h), fun _ => hl0, fun h => (by cases h), fun h => (by cases h), h.m7⟩
  obtain ⟨g5, k1, k2, k3, _⟩ := h.r5 h5 rfl
  refine ⟨g5, k1, k2.of (hg.block g5 k2.lt fun e => k3 hl0 rfl e.symm), fun _ h => (by cases h), fun _ e => ?_⟩
  rcases hat with ha | ha
  · exact k3 hl0 rfl (ha ▸ e)
  · rw [ha] at e
    have := k2.lt
    have e2 : u.heap.size = g5 := by simpa using e
    omega
theorem Ap2.second (h : Ap2 W vs z l0 l2 l5 l6 l7 v0 v2 v5 v6 u) (hi : l6 = false) {v : Value} {n : Nat} (hown : u'.ownsRow W.heap.size TLs 1 v (n + 1) (vs ++ [z])) (hg : u.grownBy u' v2.ownBlock) (h2 : u.ownsRow W.heap.size TLs 1 v2 n vs) (hl2 : l2 = true) (hl5 : l5 = true) (hn : n = vs.length) : Ap2 W vs z l0 l2 l5 true l7 v0 v2 v5 v u' := by
  subst hn hi hl2 hl5
  exact ⟨h.b.grown hg h.b.size fun j hj => (h2.lt j hj).1, fun _ h => (by cases h), fun _ h => (by cases h), fun _ h => (by cases h), fun _ => hown, h.m2, fun _ => rfl, fun _ => rfl, fun _ => rfl⟩
theorem Ap2.last (h : Ap2 W vs z l0 l2 l5 l6 l7 v0 v2 v5 v6 u) (hl : l6 = true) : Ap2 W vs z l0 l2 l5 l6 true v0 v2 v5 v6 u := ⟨h.b, h.r0, h.r2, h.r5, h.r6, h.m2, h.m6, h.m65, fun _ => hl⟩
end
end Go.Proofs.YtjlncjabiofklaaDoor.Wl
end
section
namespace Go.Proofs.YtjlncjabiofklaaDoor.Wl
open Go Go.RowKit Dv Rf Shf Rk
open Tal (Strs bas)
abbrev TC : TypeId := 34
abbrev TAc : TypeId := 37
def crCells (c : Cr) : List Value := [.int .u64 (c.keep : Int), .int .i64 c.torn, .int .i64 c.at']
def acCells (y : Ac) (sl : Option Addr) (n cl : Nat) : List Value := [.int .u8 y.what, .slice sl n cl, .int .u8 y.fuse, .int .u64 (y.c.keep : Int), .int .i64 y.c.torn, .int .i64 y.c.at']
/-- Lists of lists that are looked at. -/
def Lim (LL : List (List Rk.Sec)) : Prop := LL.length ≤ 20000 ∧ ∀ l ∈ LL, l.length ≤ 98304
theorem Tx.lim {M : Wm} {LL : List (List Rk.Sec)} (h : Tx M LL) : Lim LL := by
  have h1 := h.l
  have h2 := h.many
  have h3 := h.len
  refine ⟨by omega, fun l hl => ?_⟩
  obtain ⟨i, hi, rfl⟩ := List.getElem_of_mem hl
  have e := h.ps i hi (by omega)
  have ht := h.t _ (List.getElem_mem (show i < M.L.S.T.length by omega))
  unfold parse at e
  split at e
  · rename_i l' ho
    cases e
    have := (Tal.takeRow_once _ _ _ ho).2
    omega
  · cases e
theorem lim_one {l : List Rk.Sec} (h : Small l) : Lim [l] := ⟨by simp, fun m hm => by
  have : m = l := by simpa using hm
  rw [this]; have := h.1; omega⟩
theorem Tx.lim1 {M : Wm} {LL : List (List Rk.Sec)} (h : Tx M LL) {l : List Rk.Sec} (hl : Small l) : Lim (LL ++ [l]) := by
  have h0 := h.lim
  have h1 := h.l
  have h2 := h.many
  have h3 := h.len
  refine ⟨by simp; omega, fun m hm => ?_⟩
  rcases List.mem_append.1 hm with hm | hm
  · exact h0.2 m hm
  · exact (lim_one hl).2 m hm
theorem same_lim {P Q : Nat → Prop} {w : World} {va vb : Value} {LL MM : List (List Rk.Sec)} (ha : Lsr P w va LL) (hb : Lsr Q w vb MM) (h1 : Lim LL) (h2 : Lim MM) :
    Calls Tryd.prog 12 #[va, vb] w fun e w' => e = .returned (.bool (decide (LL = MM))) ∧ Below w.heap.size w w' :=
  same06_r LL MM va vb P Q w ha hb (by have := h1.1; omega) (by have := h2.1; omega) (fun l hl => by have := h1.2 l hl; omega) (fun l hl => by have := h2.2 l hl; omega)
/-- The boxes and the list of what was there, which stay. -/
structure St (w W : World) (Pr : Nat → Prop) (bc bx : Nat) (y : Ac) (sl : Option Addr) (cl : Nat) (l : List Rk.Sec) (c : Cr) (vw : Value) (LL : List (List Rk.Sec)) : Prop where
  xx : Rw W bx TAc (acCells y sl l.length cl)
  cc : Rw W bc TC (crCells c)
  cf : c.Fits
  ll : Lsr (fun j => Pr j ∧ j ≠ bc) W vw LL
  pw : ∀ j, j < w.heap.size → Pr j
  pc : Pr bc
  px : Pr bx
  ne : bx ≠ bc
  bw : w.heap.size ≤ bc
/-- Where a round begins. -/
structure Fl (w : World) (n bc g : Nat) (wr : World) (b r0 r1 : Nat) (x : Dr) (M : Wm) (A B : List Rk.Sec) (LL : List (List Rk.Sec)) : Prop where
  fm : Fm w (fun j => j < w.heap.size ∨ j = bc) wr wr b r0 r1 g x M
  gf : Gf n x M A B LL
  cc : ∃ c : Cr, c.Fits ∧ Rw wr bc TC (crCells c)
  bw : w.heap.size ≤ bc
section
variable {w W wx w2 : World} {Pr Pr' : Nat → Prop} {bc bx b r0 r1 g n : Nat} {y : Ac} {sl : Option Addr} {cl : Nat} {l : List Rk.Sec} {c : Cr} {vw v : Value} {LL L2 : List (List Rk.Sec)} {x : Dr} {M : Wm}
theorem Fm.ls2 (h : Fm w Pr W wx b r0 r1 g x M) (hl : Lsr (fun j => Pr j ∧ j ≠ bc) W v LL) : Lsr (fun j => Pr j ∧ j ≠ bc) wx v LL := hl.keeps (h.k.mono fun _ hj => .inl fun hp => hj hp.1)
theorem St.boxx (s : St w W Pr bc bx y sl cl l c vw LL) (h : Fm w Pr W wx b r0 r1 g x M) : Rw wx bx TAc (acCells y sl l.length cl) := h.rw s.xx s.px
theorem St.boxc (s : St w W Pr bc bx y sl cl l c vw LL) (h : Fm w Pr W wx b r0 r1 g x M) : Rw wx bc TC (crCells c) := h.rw s.cc s.pc
theorem St.list (s : St w W Pr bc bx y sl cl l c vw LL) (h : Fm w Pr W wx b r0 r1 g x M) : Lsr (fun j => Pr j ∧ j ≠ bc) wx vw LL := h.ls2 s.ll
theorem St.grow (s : St w W Pr bc bx y sl cl l c vw LL) (h : Fm w Pr W wx b r0 r1 g x M) (k : Below wx.heap.size wx w2) (hP : ∀ j, Pr j → Pr' j) : St w w2 Pr' bc bx y sl cl l c vw LL :=
  ⟨(s.boxx h).later k, (s.boxc h).later k, s.cf, ((s.list h).later k).mono fun j hj => ⟨hP j hj.1, hj.2⟩, fun j hj => hP j (s.pw j hj), hP _ s.pc, hP _ s.px, s.ne, s.bw⟩
/-- What a failure keeps, set anew. -/
theorem St.set (s : St w W Pr bc bx y sl cl l c vw LL) (h : Fm w Pr W wx b r0 r1 g x M) (c' : Cr) (hc : c'.Fits) (e : w2 = ((wx.setCell ⟨bc, 0, none⟩ (.int .u64 (c'.keep : Int))).setCell ⟨bc, 1, none⟩ (.int .i64 c'.torn)).setCell ⟨bc, 2, none⟩ (.int .i64 c'.at')) :
    Fm w Pr w2 w2 b r0 r1 g x M ∧ St w w2 Pr bc bx y sl cl l c' vw LL ∧ ∀ v L, Lsr (fun j => Pr j ∧ j ≠ bc) wx v L → Lsr (fun j => Pr j ∧ j ≠ bc) w2 v L := by
  have k : Keeps (fun j => j = bc) wx w2 := by
    rw [e]
    exact (((Keeps.refl (fun j => j = bc) wx).setCell bc 0 _ (.inl rfl)).setCell bc 1 _ (.inl rfl)).setCell bc 2 _ (.inl rfl)
  have hl : ∀ v L, Lsr (fun j => Pr j ∧ j ≠ bc) wx v L → Lsr (fun j => Pr j ∧ j ≠ bc) w2 v L := fun v L hv => hv.keeps (k.mono fun j hj => .inl fun hp => hp.2 hj)
  obtain ⟨U, k1, k2, k3⟩ := h.q
  refine ⟨⟨⟨U, k1.keep k fun j hj ej => k3 bc s.pc (ej ▸ hj), k2, k3⟩, Keeps.refl _ _, fun j hj => Nat.lt_of_lt_of_le (h.l j hj) (Nat.le_trans h.k.size k.size), h.b.trans (k.below (fun j hj => by rw [hj]; exact s.bw) h.b.size)⟩, ⟨(s.boxx h).keeps k s.ne, ?_, hc, hl _ _ (s.list h), s.pw, s.pc, s.px, s.ne, s.bw⟩, hl⟩
  rw [e]
  exact (((s.boxc h).setCell 0 _).setCell 1 _).setCell 2 _
/-- The next round. -/
theorem St.fl {A B : List Rk.Sec} (s : St w W Pr bc bx y sl cl l c vw L2) (h : Fm w Pr W wx b r0 r1 g x M) (hg : Gf n x M A B LL) : Fl w n bc g wx b r0 r1 x M A B LL :=
  ⟨h.grow (Below.refl _ _) _ (fun j hj => .inl (hj.elim (s.pw j) fun e => e ▸ s.pc)) (fun _ hj => hj.elim (fun hj => Nat.lt_of_lt_of_le hj h.b.size) fun e => e ▸ (s.boxc h).lt), hg, ⟨c, s.cf, s.boxc h⟩, s.bw⟩
end
/-- What an act has come to: done or refused; or a failure may strike. -/
def Kind (k z : Int) (n : Nat) (x : Dr) (M : Wm) (LL L2 : List (List Rk.Sec)) : Prop :=
  (k ≤ 3 ∧ (z = 0 ∨ z = 6) ∧ ∃ A B L, Gf n (x.fuse (-1)) M A B L ∧ (z = 0 → L = L2)) ∨ (Lost n x M LL L2 ∧ ((k ≤ 3 ∧ z = 30 ∧ M.down = true) ∨ (5 ≤ k ∧ z = 0 ∧ L2 = LL)))
def Mid (w : World) (n bc bx g : Nat) (y : Ac) (sl : Option Addr) (cl : Nat) (l : List Rk.Sec) (b r0 r1 : Nat) (vw vn : Value) (z : Int) (wx : World) : Prop :=
  ∃ (W : World) (Pr : Nat → Prop) (c : Cr) (x : Dr) (M : Wm) (LL L2 : List (List Rk.Sec)), St w W Pr bc bx y sl cl l c vw LL ∧ Lsr (fun j => Pr j ∧ j ≠ bc) W vn L2 ∧ Fm w Pr W wx b r0 r1 g x M ∧ x.Ok ∧ Lim LL ∧ Lim L2 ∧ Kind (y.what % 7) z n x M LL L2
/-- Done or refused. -/
def MidA (w : World) (n bc bx g : Nat) (y : Ac) (sl : Option Addr) (cl : Nat) (l : List Rk.Sec) (b r0 r1 : Nat) (z : Int) (wx : World) : Prop :=
  ∃ (W : World) (Pr : Nat → Prop) (c : Cr) (x : Dr) (M : Wm) (vw : Value) (LL L : List (List Rk.Sec)) (A B : List Rk.Sec), St w W Pr bc bx y sl cl l c vw LL ∧ Fm w Pr W wx b r0 r1 g x M ∧ x.Ok ∧ Gf n (x.fuse (-1)) M A B L ∧ y.what % 7 ≤ 3 ∧ (z = 0 ∨ z = 6)
/-- A failure may strike. -/
def MidB (w : World) (n bc bx g : Nat) (y : Ac) (sl : Option Addr) (cl : Nat) (l : List Rk.Sec) (b r0 r1 : Nat) (vw vn : Value) (z : Int) (wx : World) : Prop :=
  ∃ (W : World) (Pr : Nat → Prop) (c : Cr) (x : Dr) (M : Wm) (LL L2 : List (List Rk.Sec)), St w W Pr bc bx y sl cl l c vw LL ∧ Lsr (fun j => Pr j ∧ j ≠ bc) W vn L2 ∧ Fm w Pr W wx b r0 r1 g x M ∧ Lim LL ∧ Lim L2 ∧ Lost n x M LL L2 ∧ ((y.what % 7 ≤ 3 ∧ z = 30 ∧ M.down = true) ∨ (5 ≤ y.what % 7 ∧ z = 0 ∧ L2 = LL))
theorem did_kind {n : Nat} {x : Dr} {M : Wm} {A B : List Rk.Sec} {LL L2 : List (List Rk.Sec)} {fz k : Int} {C : Wm × Dr × Int} (h : Did n x fz M LL L2 C) (hg : Gf n x M A B LL) (hf : fz ≤ 9223372036854775807) (hk : k ≤ 3) : C.2.1.Ok ∧ Kind k C.2.2 n C.2.1 C.1 LL L2 := by
  rcases h with rfl | ⟨h1, ⟨A', B', h2⟩, h3⟩ | ⟨h1, h2, h3⟩
  · refine ⟨hg.g.ok.fuse fz hf, .inl ⟨hk, .inr rfl, A, B, LL, ?_, fun h => (by cases h)⟩⟩
    show Gf n ((x.fuse fz).fuse (-1)) M A B LL
    rw [hg.fuse]; exact hg
  · exact ⟨h3, .inl ⟨hk, .inl h1, A', B', L2, h2, fun _ => rfl⟩⟩
  · exact ⟨h2.wf.f0.hx, .inr ⟨h2, .inl ⟨hk, h1, h3⟩⟩⟩
section
variable {w W wx w2 : World} {Pr : Nat → Prop} {bc bx b r0 r1 g n : Nat} {y : Ac} {sl : Option Addr} {cl : Nat} {l : List Rk.Sec} {c : Cr} {vw vn : Value} {LL LP : List (List Rk.Sec)} {x : Dr} {M : Wm}
/-- Behind the list that is to be there then. -/
theorem mid_app {z : Int} {vs : List Value} (s : St w W Pr bc bx y sl cl l c vw LL) (h : Fm w Pr W wx b r0 r1 g x M) (k : Below wx.heap.size wx w2) (hs : Strs w sl (bas l)) (hl : vs.length = LP.length)
    (hv : ∀ (i : Nat) (q : Value) (m : List Rk.Sec), vs[i]? = some q → LP[i]? = some m → Lsw wx q m ∧ ∀ j, q.ownBlock = some j → m ≠ [] → Pr j ∧ j ≠ bc)
    (ho : w2.ownsRow wx.heap.size TLs 1 vn (vs.length + 1) (vs ++ [.slice sl l.length cl])) (h1 : Lim LL) (h2 : Lim (LP ++ [l])) (hx : x.Ok) (hk : Kind (y.what % 7) z n x M LL (LP ++ [l])) : Mid w n bc bx g y sl cl l b r0 r1 vw vn z w2 := by
  have hbc := (s.boxc h).lt
  have hP : ∀ j, Pr j → Pr j ∨ (wx.heap.size ≤ j ∧ j < w2.heap.size) := fun j hj => .inl hj
  refine ⟨w2, fun j => Pr j ∨ (wx.heap.size ≤ j ∧ j < w2.heap.size), c, x, M, LL, LP ++ [l], s.grow h k hP, ?_, h.grow k _ (fun j hj => hj.imp id fun h => h.1) (fun j hj => hj.elim (fun hj => Nat.lt_of_lt_of_le (Nat.lt_of_lt_of_le (h.l j hj) h.k.size) k.size) fun h => h.2), hx, h1, h2, hk⟩
  have hw := h.b.trans (k.mono h.b.size)
  have ha := lsw_act (cap := cl) hs hw
  refine (lsr_own (P := fun j => Pr j ∧ j ≠ bc) (vs := vs ++ [.slice sl l.length cl]) (by rw [List.length_append, ← hl]; exact ho) (by simp [hl]) fun i q m hq hm => ?_).mono fun j hj => ?_
  · by_cases hi : i < LP.length
    · rw [List.getElem?_append_left (by omega)] at hq
      rw [List.getElem?_append_left hi] at hm
      obtain ⟨k1, k2⟩ := hv i q m hq hm
      exact ⟨k1.kept (Keeps.of (fun _ => False) k) fun _ _ _ h => h, k2⟩
    · rw [List.getElem?_append_right (by omega)] at hq hm
      have e0 : i - LP.length = 0 := by
        rcases Nat.eq_zero_or_pos (i - LP.length) with h' | h'
        · exact h'
        · rw [List.getElem?_eq_none (by simp; omega)] at hm; cases hm
      rw [e0] at hm
      rw [hl, e0] at hq
      cases hm
      cases hq
      exact ⟨ha.1, fun j hj hne => ⟨s.pw j (ha.2 j hj hne), fun e => by have := ha.2 j hj hne; have := s.bw; omega⟩⟩
  · rcases hj with hj | hj
    · exact ⟨.inl hj.1, hj.2⟩
    · exact ⟨.inr hj, fun e => by omega⟩
theorem fm_pending (h : Fm w Pr W wx b r0 r1 g x M) (hx : x.Ok) (hP : x.P = []) : Calls Tryd.prog 16 #[.pointer (some ⟨g, 0, none⟩)] wx fun e w' => e = .returned (.int .i64 0) ∧ wx = w' := by
  obtain ⟨U, bv, bd, pv, fv, ha, _⟩ := h.os
  have := pending_c g bv bd pv fv x wx ha hx
  rw [hP] at this
  exact this
theorem fm_copy (h : Fm w Pr W wx b r0 r1 g x M) (hx : x.Ok) (hP : x.P.length ≤ 100000) : Calls Tryd.prog 14 #[.pointer (some ⟨g, 0, none⟩)] wx fun e w' => ∃ g', e = .returned (.pointer (some ⟨g', 0, none⟩)) ∧ Dv.Os (fun j => wx.heap.size ≤ j) w' g' x ∧ Below wx.heap.size wx w' := by
  obtain ⟨U, h1⟩ := h.os
  exact os_copy h1 hx hP
/-- Another log over a drive that was copied. -/
theorem second_open {lo : Nat} {SA SB : Ld} (h : Dv.Os (fun j => lo ≤ j) wx g x) (hlo : lo ≤ wx.heap.size) (hx : x.Ok) (hD : x.D.length = n) (n8 : 8 ≤ n) (n9 : n ≤ 100) (hA : Loaded (seg x.V 0 (n / 2)) SA) (hB : Loaded (seg x.V (n / 2) (n / 2)) SB) (hp : Wl.Ps (lgS SA SB).T LL) :
    Calls Tryd.prog 5 #[.pointer (some ⟨g, 0, none⟩)] wx fun e w' => ∃ b' r0' r1', e = .returned (.tuple #[.pointer (some ⟨b', 0, none⟩), .int .i64 0]) ∧ (∃ U : Nat → Prop, Trio U w' b' r0' r1' g x (openW x (n / 2) SA SB)) ∧ Below lo wx w' := by
  refine (open_w h hx (n / 2) SA SB (by rw [hD]) (by rw [hD]; exact n8) (by rw [hD]; omega) hA hB).mono fun e w' hr => ?_
  obtain ⟨hk, hr⟩ := hr
  rcases hr with ⟨_, b', r0', r1', _, rfl, ht⟩ | ⟨hno, _⟩
  · exact ⟨b', r0', r1', rfl, ⟨_, ht⟩, hk.below (fun j hj => hj) hlo⟩
  · exact absurd hp (hno LL)
theorem second_txns (h : ∃ U : Nat → Prop, Trio U wx b r0 r1 g x M) (hl : Tx M LL) : Calls Tryd.prog 8 #[.pointer (some ⟨b, 0, none⟩)] wx fun e w' => ∃ v, e = .returned v ∧ Lss wx.heap.size w' v LL ∧ Below wx.heap.size wx w' := by
  obtain ⟨U, h1⟩ := h
  exact txns_c U b r0 r1 g x M wx LL h1 hl.now hl.n0 hl.l hl.many hl.len hl.t hl.ps
theorem second_room (h : ∃ U : Nat → Prop, Trio U wx b r0 r1 g x M) (hn : M.now ≤ 1) : Calls Tryd.prog 15 #[.pointer (some ⟨b, 0, none⟩)] wx fun e w' => e = .returned (.int .i64 (M.room : Int)) ∧ Below wx.heap.size wx w' := by
  obtain ⟨U, t0, t1, hv⟩ := h
  exact (wroom_c b r0 r1 M wx hv.blk hn).mono fun e w' hr => ⟨hr.1, by obtain ⟨m, rfl⟩ := hr.2; exact drewN_below (Below.refl _ _) m⟩
end
end Go.Proofs.YtjlncjabiofklaaDoor.Wl
end
