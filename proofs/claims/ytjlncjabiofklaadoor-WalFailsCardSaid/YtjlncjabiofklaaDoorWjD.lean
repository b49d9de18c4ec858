/- Joined: RkMoved WlGood. -/
import Derived.Test.YtjlncjabiofklaaDoorRkB
import Derived.Test.YtjlncjabiofklaaDoorWlRTxns
section
namespace Go.Proofs.YtjlncjabiofklaaDoor.Rk
open Go Go.RowKit Dv Rf Shf
open Tal (Strs bas)
/-- A row and its drive are what some sectors say. -/
structure Told (x : Dr) (R : Rm) (Q : List Sec) : Prop where
  q : Q = seg x.V R.f R.n
  s : Loaded Q R.S
  top : R.top = Sf.top Q
/-- What a put does to a row that is what its sectors say. -/
structure Moved (x : Dr) (R : Rm) (n : Nat) (M : Rm × Dr × Int) (N : List Sec × Int) : Prop where
  z : M.2.2 = N.2
  told : Told M.2.1 M.1 N.1
  down : M.1.down = false
  F : M.2.1.F = none
  ff : M.1.f = R.f
  nn : M.1.n = R.n
  top : M.1.top ≤ max R.top n
  D : M.2.1.D = x.D
  P : M.2.1.P.length ≤ x.P.length + R.n
  ok : M.2.1.Ok
  out : ∀ j, j < R.f ∨ R.f + R.n ≤ j → M.2.1.V[j]? = x.V[j]?
theorem putM_told {x : Dr} {R : Rm} {Q : List Sec} {p n : Nat} {t : List UInt8} (hT : Told x R Q) (hx : x.Ok) (hf : R.f + R.n ≤ x.D.length) (hd : R.down = false) (hF : x.F = none) (hp : p = R.S.e ∨ p = 0) (hn : n < 18446744073709551616) (hl : t.length ≤ 98304) :
    Moved x R n (putM R x p n t) (rputM Q p n t) := by
  have hV : x.V.length = x.D.length := Dr.vlen x
  have hQl : Q.length = R.n := by rw [hT.q, seg_len (by omega)]
  have same : ∀ z, Moved x R n (R, x, z) (Q, z) := fun z => ⟨rfl, hT, hd, hF, rfl, rfl, by show R.top ≤ _; omega, rfl, by show x.P.length ≤ _; omega, hx, fun _ _ => rfl⟩
  unfold putM rputM
  rw [if_neg (by simp [hd]), ← hT.top]
  by_cases h1 : n ≤ R.top
  · rw [if_pos h1, if_pos h1]; exact same 2
  rw [if_neg h1, if_neg h1, if_neg (show ¬ 98304 < t.length by omega), if_neg (show ¬ 98304 < t.length by omega), hQl]
  by_cases h2 : R.n < p + Sf.many t.length
  · rw [if_pos h2, if_pos h2]; exact same 6
  rw [if_neg h2, if_neg h2, if_pos (by unfold through; rw [hF])]
  have hsl := Sf.sheaf_len n t
  have hfq : R.f + p + (Sf.sheaf n t).length ≤ x.D.length := by omega
  have hVV : (drv x (R.f + p) (Sf.sheaf n t)).V = puts (ws (R.f + p) (Sf.sheaf n t)) x.V := by unfold drv Dr.V; rw [puts_app]
  have hseg : seg (drv x (R.f + p) (Sf.sheaf n t)).V R.f R.n = placed Q p (Sf.sheaf n t) := by rw [hVV, puts_in _ _ _ _ _ (by omega) (by omega), ← hT.q]
  have htop : Sf.top Q < n := by rw [← hT.top]; omega
  refine ⟨rfl, ⟨hseg.symm, ?_, (top_placed hn htop).symm⟩, rfl, ?_, rfl, rfl, by show n ≤ _; omega, rfl, ?_, drv_ok hx (sheaf_64 hn) hfq, fun j hj => ?_⟩
  · show Loaded (placed Q p (Sf.sheaf n t)) ((if p = 0 then Ld.zero else R.S).took n t (Sf.many t.length))
    by_cases hp0 : p = 0
    · subst hp0
      rw [if_pos rfl]
      exact loaded_begin hn hl htop (by omega)
    · rw [if_neg hp0]
      obtain rfl : p = R.S.e := hp.resolve_right hp0
      exact loaded_add hT.s hn hl htop (by omega)
  · unfold drv rest; rw [hF]
  · unfold drv; simp only [List.length_append, ws_len]; omega
  · show (drv x (R.f + p) (Sf.sheaf n t)).V[j]? = _
    rw [hVV]
    exact puts_out _ _ _ _ (by omega)
end Go.Proofs.YtjlncjabiofklaaDoor.Rk
end
section
namespace Go.Proofs.YtjlncjabiofklaaDoor.Wl
open Go Go.RowKit Dv Rf Shf Rk
open Tal (Strs bas)
theorem row_parse {l : List Rk.Sec} (h : Small l) : parse (Tal.row (bas l)) = some l := by
  have hl := h.1
  have hz := h.2
  have := Tal.takeRow_back l [] (fun x hx => by have := hz x hx; omega) (by omega)
  rw [List.append_nil, ← Tal.row_bas] at this
  unfold parse
  rw [this]
theorem seg_same {V W : List Rk.Sec} {f n : Nat} (h : ∀ j, f ≤ j → j < f + n → W[j]? = V[j]?) : seg W f n = seg V f n := by
  refine List.ext_getElem? fun i => ?_
  by_cases hi : i < n
  · rw [seg_get hi, seg_get hi, h _ (by omega) (by omega)]
  · rw [seg_none (by omega), seg_none (by omega)]
/-- A log in memory and its drive are what the sectors of both halves say. -/
structure Gd (n : Nat) (x : Dr) (M : Wm) (A B : List Rk.Sec) (LL : List (List Rk.Sec)) : Prop where
  ok : x.Ok
  F : x.F = none
  D : x.D.length = n
  n8 : 8 ≤ n
  n9 : n ≤ 100
  P : x.P.length ≤ 1000
  a : Rk.Told x M.R0 A
  b : Rk.Told x M.R1 B
  f0 : M.R0.f = 0
  n0 : M.R0.n = n / 2
  f1 : M.R1.f = n / 2
  n1 : M.R1.n = n / 2
  d0 : M.R0.down = false
  d1 : M.R1.down = false
  dn : M.down = false
  now : M.now = if M.R0.S.first < M.R1.S.first then 1 else 0
  many : M.many = M.L.S.T.length
  room : M.room = n / 2 - M.L.S.e
  age : M.age = M.L.S.first
  ps : Ps M.L.S.T LL
section
variable {n : Nat} {x : Dr} {M : Wm} {A B : List Rk.Sec} {LL : List (List Rk.Sec)}
theorem Gd.now1 (h : Gd n x M A B LL) : M.now ≤ 1 := by rw [h.now]; split <;> omega
theorem Gd.V (h : Gd n x M A B LL) : x.V.length = n := by rw [Dr.vlen x, h.D]
theorem Gd.la (h : Gd n x M A B LL) : A.length = n / 2 := by rw [h.a.q, seg_len (by rw [h.V, h.f0, h.n0]; omega), h.n0]
theorem Gd.lb (h : Gd n x M A B LL) : B.length = n / 2 := by rw [h.b.q, seg_len (by rw [h.V, h.f1, h.n1]; omega), h.n1]
theorem Gd.rd (h : Gd n x M A B LL) : Rd (n / 2) A B M.R0.S M.R1.S := ⟨h.a.s, h.b.s, h.la, h.lb, by have := h.n9; omega, by have := h.n8; omega⟩
theorem Gd.lS (h : Gd n x M A B LL) : M.L.S = lgS M.R0.S M.R1.S := by
  unfold Wm.L lgS
  rw [h.now]
  split
  · rw [if_neg (by decide)]
  · rw [if_pos rfl]
theorem Gd.second (h : Gd n x M A B LL) : decide (M.R0.S.first < M.R1.S.first) = decide (M.now = 1) := by
  rw [h.now]
  split
  · rename_i hh; rw [decide_eq_true hh]; rfl
  · rename_i hh; rw [decide_eq_false hh]; rfl
theorem Gd.hf (h : Gd n x M A B LL) (k : Nat) : Rk.Told x (M.half k) (if k = 0 then A else B) ∧ (M.half k).f = (if k = 0 then 0 else n / 2) ∧ (M.half k).n = n / 2 ∧ (M.half k).down = false := by
  unfold Wm.half
  by_cases hk : k = 0
  · simp only [hk, if_pos]; exact ⟨h.a, h.f0, h.n0, h.d0⟩
  · simp only [if_neg hk]; exact ⟨h.b, h.f1, h.n1, h.d1⟩
theorem Gd.fit (h : Gd n x M A B LL) (k : Nat) : Fit x (M.half k) := by
  obtain ⟨h1, h2, h3, _⟩ := h.hf k
  have h4 := h1.s.r.fine.le
  have h5 := h1.s.r.fine.tl
  have hl : (if k = 0 then A else B).length = n / 2 := by split; exact h.la; exact h.lb
  have := h.D; have := h.n8; have := h.n9; have := h.P
  exact ⟨h.ok, by omega, by omega, by omega, by rw [h2, h3]; split <;> omega, by omega, by omega⟩
theorem Gd.top (h : Gd n x M A B LL) : M.top = max (Sf.top A) (Sf.top B) := by unfold Wm.top; rw [h.a.top, h.b.top]
theorem Gd.first_le (h : Gd n x M A B LL) (k : Nat) : (M.half k).S.first ≤ M.top ∧ (M.half k).top ≤ M.top := by
  obtain ⟨h1, _⟩ := h.hf k
  have h2 := h1.s.r.fine
  have h3 := h2.f
  have h4 := h2.last
  rw [← h1.top] at h4
  have h5 : (M.half k).top ≤ M.top := by unfold Wm.top Wm.half; split <;> omega
  exact ⟨by omega, h5⟩
/-- What the code does, and what the document does. -/
def codePut (M : Wm) (x : Dr) (l : List Rk.Sec) (k many p : Nat) : Wm × Dr × Int :=
  if 9223372036854775807 ≤ M.top then (M, x, 6) else wrHalf M x k many p (Tal.row (bas l))
def docPut (A B : List Rk.Sec) (b : Bool) (p : Nat) (l : List Rk.Sec) : List Rk.Sec × List Rk.Sec × Int :=
  if 9223372036854775807 ≤ max (Sf.top A) (Sf.top B) then (A, B, 6) else
  (if b then A else (rputM (pick b A B) p (max (Sf.top A) (Sf.top B) + 1) (Tal.row (bas l))).1, if b then (rputM (pick b A B) p (max (Sf.top A) (Sf.top B) + 1) (Tal.row (bas l))).1 else B, (rputM (pick b A B) p (max (Sf.top A) (Sf.top B) + 1) (Tal.row (bas l))).2)
/-- What is done to a half: the log turns to it. -/
structure Put (n : Nat) (x : Dr) (M : Wm) (A B : List Rk.Sec) (LL : List (List Rk.Sec)) (C : Wm × Dr × Int) (Q : List Rk.Sec × List Rk.Sec × Int) (LL' : List (List Rk.Sec)) : Prop where
  z : C.2.2 = Q.2.2
  zz : Q.2.2 = 0 ∨ Q.2.2 = 6
  g : Gd n C.2.1 C.1 Q.1 Q.2.1 (if Q.2.2 = 0 then LL' else LL)
  p : C.2.1.P = [] ∨ C.2.1 = x
theorem sync_of {x : Dr} (h : x.F = none) : x.sync = (⟨x.V, [], none⟩, 0) := by
  unfold Dr.sync
  rw [h]
  rfl
theorem Ps.snoc {T : List Rk.Sec} {LL : List (List Rk.Sec)} {t : Rk.Sec} {l : List Rk.Sec} (h : Ps T LL) (ht : parse t = some l) : Ps (T ++ [t]) (LL ++ [l]) := by
  have hl := h.len
  refine ⟨by simp [hl], fun i h1 h2 => ?_⟩
  by_cases hi : i < T.length
  · rw [List.getElem_append_left hi, List.getElem_append_left (by omega)]
    exact h.eq i (by omega) hi
  · have : i = T.length := by simp at h2; omega
    subst this
    rw [List.getElem_append_right (by omega), List.getElem_append_right (by omega)]
    simp [hl, ht]
theorem Ps.nil : Ps [] [] := ⟨rfl, fun i h => (by simp at h)⟩
/-- What a write leaves of the row that it was made to. -/
theorem wrote (h : Gd n x M A B LL) {l : List Rk.Sec} (hl : Small l) (k p : Nat) (hT : M.top < 9223372036854775807) (hp : p = (M.half k).S.e ∨ p = 0) :
    (putM (M.half k) x p (M.top + 1) (Tal.row (bas l)) = (M.half k, x, 6) ∧ rputM (if k = 0 then A else B) p (M.top + 1) (Tal.row (bas l)) = (if k = 0 then A else B, 6) ∧ (M.half k).n < p + Sf.many (Tal.row (bas l)).length) ∨
    ∃ R' x' N, putM (M.half k) x p (M.top + 1) (Tal.row (bas l)) = (R', x', 0) ∧ rputM (if k = 0 then A else B) p (M.top + 1) (Tal.row (bas l)) = (N, 0) ∧ Rk.Told x' R' N ∧ R'.down = false ∧ x'.F = none ∧ R'.f = (M.half k).f ∧ R'.n = n / 2 ∧ x'.D.length = n ∧ x'.Ok ∧ (∀ j, j < (M.half k).f ∨ (M.half k).f + n / 2 ≤ j → x'.V[j]? = x.V[j]?) ∧ x'.P.length ≤ x.P.length + n ∧
      R'.S = (if p = 0 then Ld.zero else (M.half k).S).took (M.top + 1) (Tal.row (bas l)) (Sf.many (Tal.row (bas l)).length) ∧ R'.top = M.top + 1 := by
  obtain ⟨h1, h2, h3, h4⟩ := h.hf k
  have hrow := hl.row
  have hfit := h.fit k
  have htp := (h.first_le k).2
  have hm := putM_told h1 h.ok (by have := hfit.f; exact this) h4 h.F hp (show M.top + 1 < 18446744073709551616 by omega) (show (Tal.row (bas l)).length ≤ 98304 by omega)
  have hQ : (if k = 0 then A else B).length = n / 2 := by split; exact h.la; exact h.lb
  by_cases hfull : (M.half k).n < p + Sf.many (Tal.row (bas l)).length
  · left
    have e1 := putM_full h4 (show (M.half k).top < M.top + 1 by omega) (show (Tal.row (bas l)).length ≤ 98304 by omega) (x := x) hfull
    refine ⟨e1, ?_, hfull⟩
    unfold rputM
    rw [← h1.top, if_neg (by omega), if_neg (by omega), if_pos (by rw [hQ, ← h3]; exact hfull)]
  · right
    have e1 := putM_ok h4 (show (M.half k).top < M.top + 1 by omega) (show (Tal.row (bas l)).length ≤ 98304 by omega) (by omega) h.F (p := p)
    have e2 : (rputM (if k = 0 then A else B) p (M.top + 1) (Tal.row (bas l))).2 = 0 := by rw [← hm.z, e1]
    refine ⟨_, _, (rputM (if k = 0 then A else B) p (M.top + 1) (Tal.row (bas l))).1, e1, by rw [← e2], ?_⟩
    have h5 := hm.told
    have h6 := hm.down
    have h7 := hm.F
    have h8 := hm.ff
    have h9 := hm.nn
    have h10 := hm.D
    have h11 := hm.ok
    have h12 := hm.out
    have h13 := hm.P
    rw [e1] at h5 h6 h7 h8 h9 h10 h11 h12 h13
    exact ⟨h5, h6, h7, h8, h9.trans h3, by rw [h10]; exact h.D, h11, by rw [h3] at h12; exact h12, by rw [h3] at h13; have : (drv x ((M.half k).f + p) (Sf.sheaf (M.top + 1) (Tal.row (bas l)))).P.length ≤ x.P.length + n / 2 := h13; omega, rfl, rfl⟩
theorem Gd.put (h : Gd n x M A B LL) {l : List Rk.Sec} (hl : Small l) (k many p : Nat) (hk : k ≤ 1) (LL' : List (List Rk.Sec))
    (hc : (p = 0 ∧ many = 1 ∧ LL' = [l]) ∨ (k = M.now ∧ M.age ≠ 0 ∧ p = (M.half k).S.e ∧ many = M.many + 1 ∧ LL' = LL ++ [l])) :
    Put n x M A B LL (codePut M x l k many p) (docPut A B (decide (k = 1)) p l) LL' := by
  unfold codePut docPut
  rw [← h.top]
  by_cases hT : 9223372036854775807 ≤ M.top
  · rw [if_pos hT, if_pos hT]
    exact ⟨rfl, .inr rfl, h, .inr rfl⟩
  rw [if_neg hT, if_neg hT]
  have hpk : pick (decide (k = 1)) A B = if k = 0 then A else B := by
    rcases (show k = 0 ∨ k = 1 by omega) with rfl | rfl <;> rfl
  rw [hpk]
  have hp : p = (M.half k).S.e ∨ p = 0 := by rcases hc with ⟨h1, _⟩ | ⟨_, _, h1, _⟩; exact .inr h1; exact .inl h1
  rcases wrote h hl k p (by omega) hp with ⟨e1, e2, _⟩ | ⟨R', x', N, e1, e2, g1, g2, g3, g4, g5, g6, g7, g8, g9, g10, _⟩
  · rw [e2]
    unfold wrHalf
    rw [e1]
    have ee : M.put k (M.half k) = M := by unfold Wm.put Wm.half; split <;> rfl
    have e3 : ((M.put k (M.half k)).after k many 6, x, (6 : Int)) = (M, x, 6) := by
      rw [ee]; unfold Wm.after; rw [if_neg (by decide), if_neg (by decide)]
    show Put n x M A B LL (if (6 : Int) = 0 then _ else ((M.put k (M.half k)).after k many 6, x, (6 : Int))) _ LL'
    rw [if_neg (by decide), e3]
    refine ⟨rfl, .inr rfl, ?_, .inr rfl⟩
    rcases (show k = 0 ∨ k = 1 by omega) with rfl | rfl
    · exact h
    · exact h
  · rw [e2]
    unfold wrHalf
    rw [e1]
    show Put n x M A B LL (if (0 : Int) = 0 then ((M.put k R').after k many x'.sync.2, x'.sync.1, x'.sync.2) else _) _ LL'
    rw [if_pos rfl, sync_of g3]
    have hok := g7.sync
    rw [sync_of g3] at hok
    show Put n x M A B LL (((M.put k R').after k many 0, ⟨x'.V, [], none⟩, (0 : Int))) _ LL'
    have e4 : (M.put k R').after k many 0 = ((M.put k R').turn k).noted many := by unfold Wm.after; rw [if_pos rfl]
    rw [e4]
    have hVD : x'.V.length = n := by rw [Dr.vlen, g6]
    have hfirst := h.first_le
    have hfst : R'.S.first = (if p = 0 then M.top + 1 else (M.half k).S.first) := by
      rw [g10]
      by_cases hp0 : p = 0
      · rw [if_pos hp0, if_pos hp0]; rfl
      · rw [if_neg hp0, if_neg hp0]
        have : (M.half k).S.T.length ≠ 0 := fun hz => by
          have := (h.hf k).1.s.r.fine.z hz
          rcases hc with ⟨h1, _⟩ | ⟨_, _, h1, _⟩
          · exact hp0 h1
          · rw [this] at h1; exact hp0 h1
        show (if (M.half k).S.T.length = 0 then _ else _) = _
        rw [if_neg this]
    have hlen : R'.S.T.length = many ∧ Ps R'.S.T LL' := by
      rw [g10]
      have hrp := row_parse hl
      rcases hc with ⟨h1, h2, h3⟩ | ⟨h1, h2, h3, h4, h5⟩
      · rw [if_pos h1, h2, h3]
        exact ⟨rfl, Ps.nil.snoc hrp⟩
      · have hL : M.L = M.half k := by rw [h1]; unfold Wm.L Wm.half; rfl
        have hTn : (M.half k).S.T.length ≠ 0 := fun hz => by
          have e := (h.hf k).1.s.r.fine.z hz
          have := h.age
          rw [hL, e] at this
          exact h2 this
        have hp0 : p ≠ 0 := by
          have := (h.hf k).1.s.r.fine.tl
          omega
        rw [if_neg hp0, h4, h5]
        have hm := h.many
        have hps := h.ps
        rw [hL] at hm hps
        refine ⟨?_, hps.snoc hrp⟩
        show ((M.half k).S.T ++ [_]).length = _
        rw [List.length_append, hm]; rfl
    have hnow : p ≠ 0 → k = M.now := fun hp0 => by
      rcases hc with ⟨h1, _⟩ | ⟨h1, _⟩
      · exact absurd h1 hp0
      · exact h1
    refine ⟨rfl, .inl rfl, ?_, .inl rfl⟩
    show Gd n ⟨x'.V, [], none⟩ (((M.put k R').turn k).noted many) (if decide (k = 1) = true then A else N) (if decide (k = 1) = true then N else B) LL'
    rcases (show k = 0 ∨ k = 1 by omega) with rfl | rfl
    · have hf0 : (M.half 0).f = 0 := h.f0
      have hb : Rk.Told ⟨x'.V, [], none⟩ M.R1 B := ⟨by
        have := h.b.q
        rw [this]
        exact (seg_same fun j h1 h2 => g8 j (by rw [hf0]; have := h.f1; omega)).symm, h.b.s, h.b.top⟩
      refine ⟨hok, rfl, hVD, h.n8, h.n9, Nat.zero_le _, ⟨g1.q, g1.s, g1.top⟩, hb, g4.trans hf0, g5, h.f1, h.n1, g2, h.d1, h.dn, ?_, hlen.1.symm, by show R'.n - R'.S.e = _; rw [g5]; rfl, rfl, hlen.2⟩
      show (0 : Nat) = if R'.S.first < M.R1.S.first then 1 else 0
      rw [hfst]
      have h1 := (hfirst 1).1
      have h1' : M.R1.S.first ≤ M.top := h1
      by_cases hp0 : p = 0
      · rw [if_pos hp0, if_neg (by omega)]
      · rw [if_neg hp0]
        have h2 := hnow hp0
        rw [h.now] at h2
        exact h2
    · have hf1 : (M.half 1).f = n / 2 := h.f1
      have ha : Rk.Told ⟨x'.V, [], none⟩ M.R0 A := ⟨by
        have := h.a.q
        rw [this]
        exact (seg_same fun j h1 h2 => g8 j (by rw [hf1]; have := h.f0; have := h.n0; omega)).symm, h.a.s, h.a.top⟩
      refine ⟨hok, rfl, hVD, h.n8, h.n9, Nat.zero_le _, ha, ⟨g1.q, g1.s, g1.top⟩, h.f0, h.n0, g4.trans hf1, g5, h.d0, g2, h.dn, ?_, hlen.1.symm, by show R'.n - R'.S.e = _; rw [g5]; rfl, rfl, hlen.2⟩
      show (1 : Nat) = if M.R0.S.first < R'.S.first then 1 else 0
      rw [hfst]
      have h1 := (hfirst 0).1
      have h1' : M.R0.S.first ≤ M.top := h1
      by_cases hp0 : p = 0
      · rw [if_pos hp0, if_pos (by omega)]
      · rw [if_neg hp0]
        have h2 := hnow hp0
        rw [h.now] at h2
        exact h2
/-- What is put where it fits. -/
theorem Gd.put0 (h : Gd n x M A B LL) {l : List Rk.Sec} (hl : Small l) (k many p : Nat) (hk : k ≤ 1) (LL' : List (List Rk.Sec))
    (hc : (p = 0 ∧ many = 1 ∧ LL' = [l]) ∨ (k = M.now ∧ M.age ≠ 0 ∧ p = (M.half k).S.e ∧ many = M.many + 1 ∧ LL' = LL ++ [l])) (hT : M.top < 9223372036854775807) (hfit : p + Sf.many (Tal.row (bas l)).length ≤ n / 2) :
    ∃ M' x' A' B', codePut M x l k many p = (M', x', 0) ∧ Gd n x' M' A' B' LL' ∧ M'.L.S = (if p = 0 then Ld.zero else (M.half k).S).took (M.top + 1) (Tal.row (bas l)) (Sf.many (Tal.row (bas l)).length) ∧ M'.now = k ∧ M'.top = M.top + 1 := by
  have hP := h.put hl k many p hk LL' hc
  have hp : p = (M.half k).S.e ∨ p = 0 := by rcases hc with ⟨h1, _⟩ | ⟨_, _, h1, _⟩; exact .inr h1; exact .inl h1
  rcases wrote h hl k p hT hp with ⟨_, _, e3⟩ | ⟨R', x', N, e1, e2, g1, g2, g3, g4, g5, g6, g7, g8, g9, g10, g11⟩
  · have := (h.hf k).2.2.1; omega
  have eC : codePut M x l k many p = (((M.put k R').turn k).noted many, ⟨x'.V, [], none⟩, 0) := by
    unfold codePut
    rw [if_neg (by omega)]
    unfold wrHalf
    rw [e1]
    show (if (0 : Int) = 0 then ((M.put k R').after k many x'.sync.2, x'.sync.1, x'.sync.2) else _) = _
    rw [if_pos rfl, sync_of g3]
    show ((M.put k R').after k many 0, _, _) = _
    unfold Wm.after
    rw [if_pos rfl]
  rw [eC] at hP
  have hz : (docPut A B (decide (k = 1)) p l).2.2 = 0 := hP.z.symm
  have hg := hP.g
  rw [if_pos hz] at hg
  refine ⟨_, _, _, _, eC, hg, ?_, rfl, ?_⟩
  · rw [← g10]
    rcases (show k = 0 ∨ k = 1 by omega) with rfl | rfl <;> rfl
  · have h0 := (h.first_le 0).2
    have h1 := (h.first_le 1).2
    have h0' : M.R0.top ≤ M.top := h0
    have h1' : M.R1.top ≤ M.top := h1
    rcases (show k = 0 ∨ k = 1 by omega) with rfl | rfl
    · show max R'.top M.R1.top = _
      rw [g11]; omega
    · show max M.R0.top R'.top = _
      rw [g11]; omega
end
end Go.Proofs.YtjlncjabiofklaaDoor.Wl
end
