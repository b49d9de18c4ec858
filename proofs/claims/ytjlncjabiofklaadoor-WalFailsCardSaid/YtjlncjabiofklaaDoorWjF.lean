/- Joined: WlGd WlHm. -/
import Derived.Test.YtjlncjabiofklaaDoorWjE
section
namespace Go.Proofs.YtjlncjabiofklaaDoor.Wl
open Go Go.RowKit Dv Rf Shf Rk
open Tal (Strs bas)
theorem gd_open {n : Nat} {x : Dr} {SA SB : Ld} {LL : List (List Rk.Sec)} (hx : x.Ok) (hF : x.F = none) (hD : x.D.length = n) (n8 : 8 ≤ n) (n9 : n ≤ 100) (hP : x.P.length ≤ 1000) (hA : Loaded (seg x.V 0 (n / 2)) SA) (hB : Loaded (seg x.V (n / 2) (n / 2)) SB) (hp : Ps (lgS SA SB).T LL) :
    Gd n x (openW x (n / 2) SA SB) (seg x.V 0 (n / 2)) (seg x.V (n / 2) (n / 2)) LL := by
  have e : (logOf x (n / 2) SA SB (if SA.first < SB.first then 1 else 0)).L.S = lgS SA SB ∧ (logOf x (n / 2) SA SB (if SA.first < SB.first then 1 else 0)).L.n = n / 2 := by
    rw [log_L]; unfold lgS
    split
    · exact ⟨rfl, rfl⟩
    · exact ⟨rfl, rfl⟩
  have e1 : (openW x (n / 2) SA SB).L.S = lgS SA SB := e.1
  refine ⟨hx, hF, hD, n8, n9, hP, ⟨rfl, hA, rfl⟩, ⟨rfl, hB, rfl⟩, rfl, rfl, rfl, rfl, rfl, rfl, rfl, rfl, ?_, ?_, rfl, ?_⟩
  · rw [e1]; rfl
  · rw [e1]
    show (logOf x (n / 2) SA SB (if SA.first < SB.first then 1 else 0)).L.n - (logOf x (n / 2) SA SB (if SA.first < SB.first then 1 else 0)).L.S.e = _
    rw [e.1, e.2]
  · rw [e1]; exact hp
theorem Gd.wf {n : Nat} {x : Dr} {M : Wm} {A B : List Rk.Sec} {LL : List (List Rk.Sec)} (h : Gd n x M A B LL) : Wf x M := by
  have h1 := h.lS
  have h2 := (h.hf 0).1.s.r.fine.tl
  have h3 := (h.hf 0).1.s.r.fine.le
  have h4 := (h.hf 1).1.s.r.fine.tl
  have h5 := (h.hf 1).1.s.r.fine.le
  have h6 := h.la
  have h7 := h.lb
  have hT : M.L.S.T.length ≤ 100 := by
    have hn := h.n9
    have e0 : (M.half 0).S = M.R0.S := rfl
    have e1 : (M.half 1).S = M.R1.S := rfl
    rw [e0] at h2 h3
    rw [e1] at h4 h5
    rw [h1]; unfold lgS
    rw [if_pos rfl] at h3
    rw [if_neg (by decide)] at h5
    split <;> omega
  exact ⟨h.now1, h.fit 0, h.fit 1, by omega, by rw [h.many]; omega⟩
theorem first_ne {L : List Rk.Sec} {s : Ld} (h : Reads L s) : s.T.length ≠ 0 → s.first ≠ 0 := by
  induction h with
  | nil => intro h; exact absurd rfl h
  | more h1 h2 ih =>
    rename_i a b
    obtain ⟨n, t, k, hi, hl, rfl⟩ := step_some h2
    intro _
    show (if a.T.length = 0 then n else a.first) ≠ 0
    split
    · exact hi.n0
    · rename_i hh; exact ih hh
/-- What a commit does to a log that is what its sectors say. -/
theorem commitW_eq {n : Nat} {x : Dr} {M : Wm} {A B : List Rk.Sec} {LL : List (List Rk.Sec)} (h : Gd n x M A B LL) (l : List Rk.Sec) :
    ∃ k many p LL', k ≤ 1 ∧ commitW M x l = codePut M x l k many p ∧ docPut A B (decide (M.R0.S.first < M.R1.S.first)) (lgS M.R0.S M.R1.S).e l = docPut A B (decide (k = 1)) p l ∧
      ((p = 0 ∧ many = 1 ∧ LL' = [l]) ∨ (k = M.now ∧ M.age ≠ 0 ∧ p = (M.half k).S.e ∧ many = M.many + 1 ∧ LL' = LL ++ [l])) := by
  have hn := h.now1
  have hs := h.second
  have hcw : ∀ k many p, codeW M x l k many p = codePut M x l k many p := fun k many p => by unfold codeW; rw [if_neg (by rw [h.dn]; decide)]
  unfold commitW
  simp only [hcw]
  by_cases h0 : M.age = 0
  · rw [if_pos h0]
    refine ⟨0, 1, 0, [l], by omega, rfl, ?_, .inl ⟨rfl, rfl, rfl⟩⟩
    have ha : (lgS M.R0.S M.R1.S).first = 0 := by rw [← h.lS, ← h.age]; exact h0
    have hT0 : (lgS M.R0.S M.R1.S).e = 0 := by
      have hl : Loaded (lgL A B M.R0.S M.R1.S) (lgS M.R0.S M.R1.S) := h.rd.l
      have hf := hl.r.fine
      by_cases hz : (lgS M.R0.S M.R1.S).T.length = 0
      · rw [hf.z hz]; rfl
      · exfalso
        exact first_ne hl.r hz ha
    have hns : ¬ M.R0.S.first < M.R1.S.first := fun hh => by unfold lgS at ha; rw [if_pos hh] at ha; omega
    rw [hT0, decide_eq_false hns]
    rfl
  · rw [if_neg h0]
    refine ⟨M.now, M.many + 1, (M.half M.now).S.e, LL ++ [l], hn, rfl, ?_, .inr ⟨rfl, h0, rfl, rfl, rfl⟩⟩
    rw [hs]
    have : (lgS M.R0.S M.R1.S).e = (M.half M.now).S.e := by rw [← h.lS]; rfl
    rw [this]
theorem saveW_eq {n : Nat} {x : Dr} {M : Wm} {A B : List Rk.Sec} {LL : List (List Rk.Sec)} (h : Gd n x M A B LL) (l : List Rk.Sec) :
    ∃ k, k ≤ 1 ∧ saveW M x l = codePut M x l k 1 0 ∧ (!decide (M.R0.S.first < M.R1.S.first) && decide (0 < (lgS M.R0.S M.R1.S).first)) = decide (k = 1) ∧ k = if M.age = 0 then 0 else 1 - M.now := by
  have hn := h.now1
  have ha : (lgS M.R0.S M.R1.S).first = M.age := by rw [← h.lS, ← h.age]
  unfold saveW codeW
  rw [if_neg (by rw [h.dn]; decide)]
  refine ⟨_, ?_, rfl, ?_, rfl⟩
  · split <;> omega
  · rw [ha, h.second]
    by_cases h0 : M.age = 0
    · rw [if_pos h0, h0]; simp
    · rw [if_neg h0, decide_eq_true (show 0 < M.age by omega)]
      rcases (show M.now = 0 ∨ M.now = 1 by omega) with e | e <;> rw [e] <;> rfl
end Go.Proofs.YtjlncjabiofklaaDoor.Wl
end
section
namespace Go.Proofs.YtjlncjabiofklaaDoor.Wl
open Go Go.RowKit Dv Rf Shf Rk
open Tal (Strs bas)
section
variable {n : Nat} {x : Dr} {M : Wm} {A B : List Rk.Sec} {LL : List (List Rk.Sec)} {U : Nat → Prop} {b r0 r1 g : Nat} {w : World}
theorem Gd.Ln (h : Gd n x M A B LL) : M.L.n = n / 2 := by unfold Wm.L; split; exact h.n0; exact h.n1
theorem Gd.Le (h : Gd n x M A B LL) : M.L.S.T.length ≤ M.L.S.e ∧ M.L.S.e ≤ n / 2 ∧ (∀ t ∈ M.L.S.T, t.length ≤ 98304) := by
  have hl := h.rd.l.r.fine
  rw [h.lS]
  exact ⟨hl.tl, by have := hl.le; rwa [h.rd.ll] at this, hl.t⟩
theorem txns_gd (ht : Trio U w b r0 r1 g x M) (h : Gd n x M A B LL) : Calls Tryd.prog 8 #[.pointer (some ⟨b, 0, none⟩)] w (TsRes LL w) := by
  have h1 := h.Le
  have h2 := h.n8
  have h3 := h.n9
  exact txns_c U b r0 r1 g x M w LL ht h.now1 (by rw [h.Ln]; omega) (by omega) (by rw [h.many]; omega) (by rw [h.ps.len, h.many]) h1.2.2 (fun i hi hi' => h.ps.eq i hi hi')
theorem room_gd (ht : Trio U w b r0 r1 g x M) (h : Gd n x M A B LL) : Calls Tryd.prog 15 #[.pointer (some ⟨b, 0, none⟩)] w fun e w' => e = .returned (.int .i64 (M.room : Int)) ∧ ∃ n, w' = w.drewN n := by
  obtain ⟨_, _, hv⟩ := ht
  exact wroom_c b r0 r1 M w hv.blk h.now1
theorem age_gd (ht : Trio U w b r0 r1 g x M) (h : Gd n x M A B LL) : Calls Tryd.prog 24 #[.pointer (some ⟨b, 0, none⟩)] w fun e w' => e = .returned (.int .u64 (M.age : Int)) ∧ ∃ n, w' = w.drewN n := by
  obtain ⟨_, _, hv⟩ := ht
  exact age_c b r0 r1 M w hv.blk h.now1
end
def l1 : List Rk.Sec := [[97], [98]]
def l3 : List Rk.Sec := [[99]]
theorem small1 : Small l1 := ⟨by decide, by decide⟩
theorem small2 : Small [] := ⟨by decide, by decide⟩
theorem small3 : Small l3 := ⟨by decide, by decide⟩
theorem cost1 : Sf.many (Tal.row (bas l1)).length = 1 := by decide +kernel
theorem cost2 : Sf.many (Tal.row (bas [])).length = 1 := by decide +kernel
theorem cost3 : Sf.many (Tal.row (bas l3)).length = 1 := by decide +kernel
section
variable {x : Dr} {M : Wm} {A B : List Rk.Sec}
theorem hm1 (h : Gd 16 x M A B []) (ha : M.age = 0) (ht : M.top = 0) : ∃ M' x' A' B', commitW M x l1 = (M', x', 0) ∧ Gd 16 x' M' A' B' [l1] ∧ M'.age = 1 ∧ M'.room = 7 ∧ M'.top = 1 ∧ M'.L.S.e = 1 ∧ M'.many = 1 := by
  have hcw : ∀ k many p, codeW M x l1 k many p = codePut M x l1 k many p := fun k many p => by unfold codeW; rw [if_neg (by rw [h.dn]; decide)]
  obtain ⟨M', x', A', B', e1, g1, e2, _, e4⟩ := h.put0 small1 0 1 0 (by omega) [l1] (.inl ⟨rfl, rfl, rfl⟩) (by omega) (by rw [cost1]; decide)
  rw [if_pos rfl, ht, cost1] at e2
  refine ⟨M', x', A', B', by unfold commitW; rw [if_pos ha, hcw]; exact e1, g1, ?_, ?_, by rw [e4, ht], by rw [e2]; rfl, ?_⟩
  · rw [g1.age, e2]; rfl
  · rw [g1.room, e2]; rfl
  · rw [g1.many, e2]; rfl
theorem hm2 (h : Gd 16 x M A B [l1]) (ha : M.age = 1) (ht : M.top = 1) (he : M.L.S.e = 1) (hm : M.many = 1) : ∃ M' x' A' B', commitW M x [] = (M', x', 0) ∧ Gd 16 x' M' A' B' [l1, []] ∧ M'.age = 1 ∧ M'.room = 6 ∧ M'.top = 2 ∧ M'.L.S.first = 1 ∧ M'.L.S.e = 2 := by
  have hcw : ∀ k many p, codeW M x [] k many p = codePut M x [] k many p := fun k many p => by unfold codeW; rw [if_neg (by rw [h.dn]; decide)]
  have hL : (M.half M.now).S = M.L.S := rfl
  obtain ⟨M', x', A', B', e1, g1, e2, e3, e4⟩ := h.put0 small2 M.now (M.many + 1) (M.half M.now).S.e h.now1 [l1, []] (.inr ⟨rfl, by omega, rfl, rfl, rfl⟩) (by omega) (by rw [cost2, hL, he]; decide)
  have hf : M.L.S.first = 1 := by rw [← h.age]; exact ha
  have hT : M.L.S.T.length = 1 := by rw [← h.many]; exact hm
  rw [hL, he, if_neg (by decide), cost2] at e2
  have e5 : M'.L.S.first = 1 := by rw [e2]; show (if M.L.S.T.length = 0 then _ else M.L.S.first) = 1; rw [hT, if_neg (by decide), hf]
  have e6 : M'.L.S.e = 2 := by rw [e2]; show M.L.S.e + 1 = 2; rw [he]
  refine ⟨M', x', A', B', by unfold commitW; rw [if_neg (by omega), hcw]; exact e1, g1, ?_, ?_, by rw [e4, ht], e5, e6⟩
  · rw [g1.age, e5]
  · rw [g1.room, e6]
theorem hm3 (h : Gd 16 x M A B [l1, []]) (ht : M.top = 2) : ∃ M' x' A' B', saveW M x l3 = (M', x', 0) ∧ Gd 16 x' M' A' B' [l3] ∧ M'.age = 3 ∧ M'.room = 7 := by
  obtain ⟨k, hk, e0, _, _⟩ := saveW_eq h l3
  obtain ⟨M', x', A', B', e1, g1, e2, _, _⟩ := h.put0 small3 k 1 0 hk [l3] (.inl ⟨rfl, rfl, rfl⟩) (by omega) (by rw [cost3]; decide)
  rw [if_pos rfl, ht, cost3] at e2
  refine ⟨M', x', A', B', by rw [e0]; exact e1, g1, ?_, ?_⟩
  · rw [g1.age, e2]; rfl
  · rw [g1.room, e2]; rfl
end
/-- A list of lists that was written out. -/
theorem own_rw {w : World} {g base : Nat} {t : TypeId} {L : List Value} (h : Rw w g t L) (hb : base ≤ g) (hl : L.length ≤ 1000) : w.ownsRow base t 1 (.slice (some ⟨g, 0, none⟩) L.length L.length) L.length L :=
  ⟨by simp, .inr ⟨g, L.length, L.toArray, rfl, hb, h, Nat.le_refl _, by unfold maxLen; omega, by simp, by simp⟩⟩
theorem ls_lit {w : World} {g : Nat} {l : List Rk.Sec} (h : Strs w (some ⟨g, 0, none⟩) (bas l)) : Ls w (.slice (some ⟨g, 0, none⟩) l.length l.length) l := ⟨_, _, rfl, Nat.le_refl _, h, fun e => by cases e⟩
theorem ls_nil (w : World) : Ls w (.slice none 0 0) [] := ⟨none, 0, rfl, Nat.le_refl _, fun j h => absurd h (by simp [bas]), fun _ => rfl⟩
theorem lss_lit {w : World} {g base : Nat} {vs : List Value} {LL : List (List Rk.Sec)} (h : Rw w g TLs vs) (hb : base ≤ g) (hl : vs.length ≤ 1000) (hlen : vs.length = LL.length) (hs : ∀ (i : Nat) (u : Value) (l : List Rk.Sec), vs[i]? = some u → LL[i]? = some l → Ls w u l) (hbk : ∀ u ∈ vs, ∀ j, u.ownBlock = some j → base ≤ j ∧ j < w.heap.size ∧ j ≠ g) : Lss base w (.slice (some ⟨g, 0, none⟩) LL.length LL.length) LL := by
  refine ⟨vs, hlen, ?_, hs, fun u hu j hj => ?_⟩
  · have := own_rw h hb hl
    rwa [hlen] at this
  · obtain ⟨h1, h2, h3⟩ := hbk u hu j hj
    exact ⟨h1, h2, fun e => h3 (Option.some.inj e).symm⟩
end Go.Proofs.YtjlncjabiofklaaDoor.Wl
end
