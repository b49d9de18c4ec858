/- RowFails: what a failure may leave; the mathematics. -/
import Derived.Test.YtnfjgmdpokpbbaaDoorRkHead
namespace Go.Proofs.YtnfjgmdpokpbbaaDoor.Rk
open Go Go.RowKit Dv
/-- Whatever a failure keeps: the sure texts, and the first ones of those since. -/
def Safe (x : Dr) (n M E : Nat) (T0 S : List Sec) : Prop := ∀ c : Cr, Tbs (seg (crashTo c x.P 0 x.D) 0 n) M ∧
  ∃ (z : Ld) (j : Nat), Loaded (seg (crashTo c x.P 0 x.D) 0 n) z ∧ j ≤ S.length ∧ z.T = T0 ++ S.take j ∧ z.e ≤ E ∧ (z.e = E → j = S.length)
theorem Safe.fuse {x : Dr} {n M E : Nat} {T0 S : List Sec} (h : Safe x n M E T0 S) (k : Int) : Safe (x.fuse k) n M E T0 S := h
theorem fs_placed {L : List Sec} {p n : Nat} {t : List UInt8} (h : Fs L) (hn : n < 18446744073709551616) : Fs (placed L p (Sf.sheaf n t)) := fun x hx => by
  unfold placed at hx
  rcases List.mem_append.1 hx with hx | hx
  · exact h x (List.mem_of_mem_take hx)
  · rcases List.mem_append.1 hx with hx | hx
    · obtain ⟨h1, h2, h3⟩ := Sf.sheaf_leaf hn hx
      exact ⟨h1, by omega⟩
    · exact h x (List.mem_of_mem_drop hx)
theorem torn_of {x : Dr} {n E s m : Nat} {t : List UInt8} (hn : n ≤ x.D.length) (hE : E + Sf.many t.length ≤ n) (c : Cr) :
    TornBy (seg (crashTo c x.P 0 x.D) 0 n) E (Sf.sheaf s t) (seg (crashTo c (drv x (0 + E) ((Sf.sheaf s t).take m)).P 0 x.D) 0 n) := by
  refine TornBy.more (m := m) ?_
  show TornBy _ _ _ (seg (crashTo c (x.P ++ ws (0 + E) ((Sf.sheaf s t).take m)) 0 x.D) 0 n)
  rw [crash_app]
  exact crash_in c _ 0 n E _ _ (by rw [crashTo_len]; omega) (by have := Sf.sheaf_len s t; simp; omega)
theorem Safe.add {x : Dr} {n M E s m : Nat} {T0 S : List Sec} {t : List UInt8} (h : Safe x n M E T0 S) (hn : n ≤ x.D.length) (hM : M < s) (hs : s < 18446744073709551616) (ht : t.length ≤ 98304) (hE : E + Sf.many t.length ≤ n) :
    Safe (drv x (0 + E) ((Sf.sheaf s t).take m)) n s (E + Sf.many t.length) T0 (S ++ [t]) := fun c => by
  obtain ⟨h1, z, j, h2, h3, h4, h5, h6⟩ := h c
  have hT := torn_of (m := m) (s := s) hn hE c
  have hp := Sf.many_pos t.length
  refine ⟨hT.tbs h1 hs hM, ?_⟩
  rcases torn_add hT h1 hs hM ht h2 h5 with h7 | ⟨h7, h8⟩
  · refine ⟨z, j, h7, by simp; omega, ?_, by omega, fun e => by omega⟩
    rw [List.take_append_of_le_length h3]
    exact h4
  · have hj := h6 h7
    subst hj
    refine ⟨_, S.length + 1, h8, by simp, ?_, by show z.e + _ ≤ _; omega, fun _ => by simp⟩
    show z.T ++ [t] = _
    rw [h4, List.take_length, List.take_of_length_le (by simp), List.append_assoc]
theorem begin_crash {x : Dr} {n M E s m : Nat} {T0 S : List Sec} {t : List UInt8} (h : Safe x n M E T0 S) (hn : n ≤ x.D.length) (hM : M < s) (hs : s < 18446744073709551616) (ht : t.length ≤ 98304) (hE : Sf.many t.length ≤ n) (c : Cr) :
    Tbs (seg (crashTo c (drv x (0 + 0) ((Sf.sheaf s t).take m)).P 0 x.D) 0 n) s ∧ ∀ z, Loaded (seg (crashTo c (drv x (0 + 0) ((Sf.sheaf s t).take m)).P 0 x.D) 0 n) z → z.first ≤ s ∧ (z.first = s → z.T = [t]) := by
  obtain ⟨h1, _⟩ := h c
  have hT := torn_of (m := m) (s := s) (t := t) (E := 0) hn (by omega) c
  exact ⟨hT.tbs h1 hs hM, fun z hz => torn_begin hT h1 (by omega) hs hM ht hz⟩
/-- Nothing is open. -/
theorem safe_sure {D : List Sec} {F : Option Nat} {n M : Nat} {z : Ld} (hF : Fs (seg D 0 n)) (hz : Loaded (seg D 0 n) z) (ht : Sf.top (seg D 0 n) ≤ M) : Safe ⟨D, [], F⟩ n M z.e z.T [] := fun c =>
  ⟨hF.tbs ht, z, 0, hz, Nat.le_refl _, by simp, Nat.le_refl _, fun _ => rfl⟩
theorem fs_zero (n : Nat) : Fs (List.replicate n (List.replicate 64 0)) := fun x hx => by
  rw [List.eq_of_mem_replicate hx]
  decide +kernel
/-- A row, its drive, the texts that are sure and those since. -/
structure Fl0 (n : Nat) (x : Dr) (R : Rm) (T0 S : List Sec) : Prop where
  hx : x.Ok
  D : x.D.length = 16
  F : x.F = none
  ff : R.f = 0
  nn : R.n = n
  down : R.down = false
  fs : Fs (seg x.V 0 n)
  ld : Loaded (seg x.V 0 n) R.S
  top : R.top = Sf.top (seg x.V 0 n)
  tx : R.S.T = T0 ++ S
  safe : Safe x n R.top R.S.e T0 S
theorem Fl0.fit {n : Nat} {x : Dr} {R : Rm} {T0 S : List Sec} (h : Fl0 n x R T0 S) (hn : 1 ≤ n) (hn9 : n ≤ 16) (hP : x.P.length ≤ 2000) (k : Int) (hk : k ≤ 9223372036854775807) : Fit (x.fuse k) R := by
  have hV : x.V.length = x.D.length := Dr.vlen x
  have h1 := h.ld.r.fine
  have hl : (seg x.V 0 n).length = n := seg_len (by have := h.D; omega)
  have h2 := h1.le
  have h3 := h1.tl
  have := h.D; have := h.ff; have := h.nn
  exact ⟨h.hx.fuse k hk, by show x.P.length ≤ _; omega, by omega, by omega, by show R.f + R.n ≤ x.D.length; omega, by omega, by omega⟩
theorem drv_V (x : Dr) (q : Nat) (B : List Sec) : (drv x q B).V = puts (ws q B) x.V := by unfold drv Dr.V; rw [puts_app]
/-- An Add that came through. -/
theorem Fl0.add {n s : Nat} {x : Dr} {R : Rm} {T0 S : List Sec} {t : List UInt8} {F : Option Nat} (h : Fl0 n x R T0 S) (hn9 : n ≤ 16) (hs : s < 18446744073709551616) (ht2 : R.top < s) (hl : t.length ≤ 98304) (hE : R.S.e + Sf.many t.length ≤ n) :
    Fl0 n ⟨(drv ⟨x.D, x.P, F⟩ (0 + R.S.e) (Sf.sheaf s t)).D, (drv ⟨x.D, x.P, F⟩ (0 + R.S.e) (Sf.sheaf s t)).P, none⟩ ⟨R.f, R.n, R.S.took s t (Sf.many t.length), s, false⟩ T0 (S ++ [t]) := by
  have hD := h.D
  have hV : x.V.length = x.D.length := Dr.vlen x
  have hsl := Sf.sheaf_len s t
  have hok : (drv ⟨x.D, x.P, none⟩ (0 + R.S.e) (Sf.sheaf s t)).Ok := drv_ok (x := ⟨x.D, x.P, none⟩) ⟨h.hx.n1, h.hx.n2, h.hx.d, h.hx.p, fun k hk => (by cases hk)⟩ (sheaf_64 hs) (by show 0 + R.S.e + (Sf.sheaf s t).length ≤ x.D.length; omega)
  have hseg : seg (puts (ws (0 + R.S.e) (Sf.sheaf s t)) x.V) 0 n = placed (seg x.V 0 n) R.S.e (Sf.sheaf s t) := puts_in _ _ _ _ _ (by omega) (by omega)
  have hVe : (⟨(drv ⟨x.D, x.P, F⟩ (0 + R.S.e) (Sf.sheaf s t)).D, (drv ⟨x.D, x.P, F⟩ (0 + R.S.e) (Sf.sheaf s t)).P, none⟩ : Dr).V = puts (ws (0 + R.S.e) (Sf.sheaf s t)) x.V := drv_V ⟨x.D, x.P, F⟩ _ _
  have hlen : (seg x.V 0 n).length = n := seg_len (by omega)
  have htop : Sf.top (seg x.V 0 n) < s := by rw [← h.top]; exact ht2
  refine ⟨hok, hD, rfl, h.ff, h.nn, rfl, ?_, ?_, ?_, ?_, ?_⟩
  · rw [hVe, hseg]; exact fs_placed h.fs hs
  · rw [hVe, hseg]; exact loaded_add h.ld hs hl htop (by omega)
  · rw [hVe, hseg]; exact (top_placed hs htop).symm
  · show R.S.T ++ [t] = _
    rw [h.tx, List.append_assoc]
  · have := h.safe.add (s := s) (m := (Sf.sheaf s t).length) (t := t) (by omega) ht2 hs hl hE
    rw [List.take_length] at this
    exact this
/-- A beginning that came through, and was synced. -/
theorem Fl0.begun {n s : Nat} {x : Dr} {R : Rm} {T0 S : List Sec} {t : List UInt8} {F : Option Nat} (h : Fl0 n x R T0 S) (hn9 : n ≤ 16) (hs : s < 18446744073709551616) (ht2 : R.top < s) (hl : t.length ≤ 98304) (hE : Sf.many t.length ≤ n) :
    Fl0 n ⟨(drv ⟨x.D, x.P, F⟩ (0 + 0) (Sf.sheaf s t)).V, [], none⟩ ⟨R.f, R.n, Ld.zero.took s t (Sf.many t.length), s, false⟩ [t] [] := by
  have hD := h.D
  have hV : x.V.length = x.D.length := Dr.vlen x
  have hsl := Sf.sheaf_len s t
  have hok : (drv ⟨x.D, x.P, none⟩ (0 + 0) (Sf.sheaf s t)).Ok := drv_ok (x := ⟨x.D, x.P, none⟩) ⟨h.hx.n1, h.hx.n2, h.hx.d, h.hx.p, fun k hk => (by cases hk)⟩ (sheaf_64 hs) (by show 0 + 0 + (Sf.sheaf s t).length ≤ x.D.length; omega)
  have hseg : seg (puts (ws (0 + 0) (Sf.sheaf s t)) x.V) 0 n = placed (seg x.V 0 n) 0 (Sf.sheaf s t) := puts_in _ _ _ _ _ (by omega) (by omega)
  have hVe : (⟨(drv ⟨x.D, x.P, F⟩ (0 + 0) (Sf.sheaf s t)).V, [], none⟩ : Dr).V = puts (ws (0 + 0) (Sf.sheaf s t)) x.V := drv_V ⟨x.D, x.P, F⟩ _ _
  have hlen : (seg x.V 0 n).length = n := seg_len (by omega)
  have htop : Sf.top (seg x.V 0 n) < s := by rw [← h.top]; exact ht2
  have hfs : Fs (placed (seg x.V 0 n) 0 (Sf.sheaf s t)) := fs_placed h.fs hs
  have hld : Loaded (placed (seg x.V 0 n) 0 (Sf.sheaf s t)) (Ld.zero.took s t (Sf.many t.length)) := loaded_begin hs hl htop (by omega)
  have htp := top_placed (p := 0) (t := t) hs htop
  have hDl : (drv ⟨x.D, x.P, F⟩ (0 + 0) (Sf.sheaf s t)).V.length = x.D.length := Dr.vlen _
  have hseg2 : seg (drv ⟨x.D, x.P, F⟩ (0 + 0) (Sf.sheaf s t)).V 0 n = placed (seg x.V 0 n) 0 (Sf.sheaf s t) := by rw [drv_V]; exact hseg
  refine ⟨⟨by show 1 ≤ List.length _; rw [hDl]; exact h.hx.n1, by show List.length _ ≤ _; rw [hDl]; exact h.hx.n2, ?_, fun q hq => (by cases hq), fun k hk => (by cases hk)⟩, by show List.length _ = _; rw [hDl]; exact hD, rfl, h.ff, h.nn, rfl, ?_, ?_, ?_, rfl, ?_⟩
  · exact hok.v
  · rw [hVe, hseg]; exact hfs
  · rw [hVe, hseg]; exact hld
  · rw [hVe, hseg]; exact htp.symm
  · exact safe_sure (z := Ld.zero.took s t (Sf.many t.length)) (by rw [hseg2]; exact hfs) (by rw [hseg2]; exact hld) (by rw [hseg2, htp]; exact Nat.le_refl _)
/-- Synced. -/
theorem Fl0.synced {n : Nat} {x : Dr} {R : Rm} {T0 S : List Sec} (h : Fl0 n x R T0 S) : Fl0 n ⟨x.V, [], none⟩ R R.S.T [] := by
  have hV : x.V.length = x.D.length := Dr.vlen x
  exact ⟨⟨by show 1 ≤ x.V.length; rw [hV]; exact h.hx.n1, by show x.V.length ≤ _; rw [hV]; exact h.hx.n2, h.hx.v, fun q hq => (by cases hq), fun k hk => (by cases hk)⟩, by show x.V.length = _; rw [hV]; exact h.D, rfl, h.ff, h.nn, h.down, h.fs, h.ld, h.top, by simp, safe_sure h.fs h.ld (Nat.le_of_eq h.top.symm)⟩
/-- Opened behind a failure. -/
theorem fl0_open {n M : Nat} {x : Dr} {c : Cr} {z : Ld} (hx : x.Ok) (hD : x.D.length = 16) (hT : Tbs (seg (crashTo c x.P 0 x.D) 0 n) M) (hz : Loaded (seg (x.crash c).V 0 n) z) :
    Fl0 n (x.crash c) ⟨0, n, z, Sf.top (seg (x.crash c).V 0 n), false⟩ z.T [] :=
  ⟨hx.crash c, by show (crashTo c x.P 0 x.D).length = _; rw [crashTo_len]; exact hD, rfl, rfl, rfl, rfl, hT.fs, hz, rfl, by simp, safe_sure hT.fs hz (Nat.le_refl _)⟩
end Go.Proofs.YtnfjgmdpokpbbaaDoor.Rk
