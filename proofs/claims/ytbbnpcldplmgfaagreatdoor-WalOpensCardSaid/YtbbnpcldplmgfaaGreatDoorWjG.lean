/- Joined: WlTells0 WlDoc WlChk. -/
import Derived.Test.YtbbnpcldplmgfaaGreatDoorWlHead
section
namespace Go.Proofs.YtbbnpcldplmgfaaGreatDoor.Wl
open Go Go.RowKit Dv Rf Shf Rk
open Tal (Strs bas)
/-- A log, its drive, and the document's log in a box. -/
structure Wq (w : World) (g qb : Nat) (wr : World) (b r0 r1 : Nat) (vA vB : Value) (x : Dr) (M : Wm) (A B : List Rk.Sec) : Prop where
  tr : ∃ U, Trio U wr b r0 r1 g x M ∧ (∀ j, U j → w.heap.size ≤ j) ∧ (∀ j, vA.ownBlock = some j ∨ vB.ownBlock = some j → ¬ U j) ∧ ¬ U qb
  lg : Lg w.heap.size wr vA vB A B
  q : Rw wr qb TLg [vA, vB]
  qw : w.heap.size ≤ qb
  b : Below w.heap.size w wr
section
variable {w wr w1 w2 w3 w4 : World} {g qb b r0 r1 : Nat} {vA vB vA' vB' : Value} {x x' : Dr} {M M' : Wm} {A B A' B' : List Rk.Sec} {n : Nat} {LL : List (List Rk.Sec)}
theorem Wq.later (h : Wq w g qb wr b r0 r1 vA vB x M A B) (k : Below wr.heap.size wr w2) : Wq w g qb w2 b r0 r1 vA vB x M A B := by
  obtain ⟨U, h1, h2, h3, h4⟩ := h.tr
  exact ⟨⟨U, h1.later k, h2, h3, h4⟩, h.lg.later k, h.q.later k, h.qw, h.b.trans (k.mono h.b.size)⟩
/-- The document's log is put in the box. -/
theorem Wq.doc (h : Wq w g qb w1 b r0 r1 vA vB x M A B) (k : Below w1.heap.size w1 w2) (hl : Lg w.heap.size w2 vA' vB' A' B') (hp : ∀ j, vA'.ownBlock = some j ∨ vB'.ownBlock = some j → (vA.ownBlock = some j ∨ vB.ownBlock = some j) ∨ w1.heap.size ≤ j) :
    Wq w g qb ((w2.setCell ⟨qb, 0, none⟩ vA').setCell ⟨qb, 1, none⟩ vB') b r0 r1 vA' vB' x M A' B' := by
  obtain ⟨U, h1, h2, h3, h4⟩ := h.tr
  have hk : Keeps (fun j => j = qb) w2 ((w2.setCell ⟨qb, 0, none⟩ vA').setCell ⟨qb, 1, none⟩ vB') := ((Keeps.refl (fun j => j = qb) w2).setCell _ 0 _ (.inl rfl)).setCell _ 1 _ (.inl rfl)
  have hq2 := h.q.later k
  have own : ∀ {v : Value} {N : List Rk.Sec}, Ow w.heap.size w2 v N → Ow w.heap.size ((w2.setCell ⟨qb, 0, none⟩ vA').setCell ⟨qb, 1, none⟩ vB') v N := fun ho =>
    ho.keeps hk fun j hj e => own_type ho hq2 (by decide) (e ▸ hj)
  refine ⟨⟨fun j => U j ∧ j < w1.heap.size, ((h1.lt.later k).keep hk fun j hj e => h4 (e ▸ hj.1)), fun j hj => h2 j hj.1, fun j hj hu => ?_, fun hu => h4 hu.1⟩, ⟨own hl.a, own hl.b⟩, (hq2.setCell 0 vA').setCell 1 vB', h.qw, ?_⟩
  · rcases hp j hj with hj | hj
    · exact h3 j hj hu.1
    · exact Nat.lt_irrefl _ (Nat.lt_of_lt_of_le hu.2 hj)
  · have hb2 := h.b.trans (k.mono h.b.size)
    exact (hb2.setCell h.qw _).setCell h.qw _
/-- What is done to the log. -/
theorem Wq.code {f : FuncId} {s : Value} (h : Wq w g qb w1 b r0 r1 vA vB x M A B) {C : Wm × Dr × Int} (hc : ∀ U, Trio U w1 b r0 r1 g x M → Calls Tryz.prog f #[.pointer (some ⟨b, 0, none⟩), s] w1 (WrRes U b r0 r1 g C w1)) : Calls Tryz.prog f #[.pointer (some ⟨b, 0, none⟩), s] w1 fun e w' => e = .returned (.int .i64 C.2.2) ∧ Wq w g qb w' b r0 r1 vA vB C.2.1 C.1 A B := by
  obtain ⟨U, h1, h2, h3, h4⟩ := h.tr
  refine (hc _ h1.lt).mono fun e w' hr => ⟨hr.1, ?_⟩
  obtain ⟨k1, k2⟩ := hr.2
  have hlA := h.lg.a.lt
  have hlB := h.lg.b.lt
  refine ⟨⟨_, k1, fun j hj => hj.elim (fun h => h2 j h.1) fun hj => Nat.le_trans h.b.size hj, fun j hj hu => ?_, fun hu => ?_⟩, ⟨h.lg.a.keeps k2 fun j hj hu => h3 j (.inl hj) hu.1, h.lg.b.keeps k2 fun j hj hu => h3 j (.inr hj) hu.1⟩, h.q.keeps k2 fun hu => h4 hu.1, h.qw, h.b.trans (k2.below (fun j hj => h2 j hj.1) h.b.size)⟩
  · rcases hu with hu | hu
    · exact h3 j hj hu.1
    · have : j < w1.heap.size := by
        rcases hj with hj | hj
        · exact (h.lg.a.lt j hj).2
        · exact (h.lg.b.lt j hj).2
      omega
  · rcases hu with hu | hu
    · exact h4 hu.1
    · have := h.q.lt; omega
/-- Opened again. -/
theorem Wq.open (h : Wq w g qb w1 b r0 r1 vA vB x M A B) (hg : Gd n x M A B LL) : Calls Tryz.prog 6 #[.pointer (some ⟨g, 0, none⟩)] w1 fun e w' => ∃ b' r0' r1', e = .returned (.tuple #[.pointer (some ⟨b', 0, none⟩), .int .i64 0]) ∧ Wq w g qb w' b' r0' r1' vA vB x (openW x (n / 2) M.R0.S M.R1.S) A B := by
  obtain ⟨U, h1, h2, h3, h4⟩ := h.tr
  have hos : Dv.Os (fun j => U j ∧ j < w1.heap.size) w1 g x := by obtain ⟨_, _, hv⟩ := h1.lt; exact hv.os
  have hA : Loaded (seg x.V 0 (n / 2)) M.R0.S := by have := hg.a.q; rw [hg.f0, hg.n0] at this; rw [← this]; exact hg.a.s
  have hB : Loaded (seg x.V (n / 2) (n / 2)) M.R1.S := by have := hg.b.q; rw [hg.f1, hg.n1] at this; rw [← this]; exact hg.b.s
  refine (open_w hos hg.ok (n / 2) M.R0.S M.R1.S (by rw [hg.D]) (by rw [hg.D]; exact hg.n8) (by rw [hg.D]; have := hg.n9; omega) hA hB).mono fun e w' hr => ?_
  obtain ⟨k2, hr⟩ := hr
  rcases hr with ⟨_, b', r0', r1', _, rfl, k1⟩ | ⟨hno, _⟩
  · refine ⟨b', r0', r1', rfl, ⟨_, k1, fun j hj => hj.elim (fun h => h2 j h.1) fun hj => Nat.le_trans h.b.size hj, fun j hj hu => ?_, fun hu => ?_⟩, ⟨h.lg.a.keeps k2 fun j hj hu => h3 j (.inl hj) hu.1, h.lg.b.keeps k2 fun j hj hu => h3 j (.inr hj) hu.1⟩, h.q.keeps k2 fun hu => h4 hu.1, h.qw, h.b.trans (k2.below (fun j hj => h2 j hj.1) h.b.size)⟩
    · rcases hu with hu | hu
      · exact h3 j hj hu.1
      · have : j < w1.heap.size := by
          rcases hj with hj | hj
          · exact (h.lg.a.lt j hj).2
          · exact (h.lg.b.lt j hj).2
        omega
    · rcases hu with hu | hu
      · exact h4 hu.1
      · have := h.q.lt; omega
  · exact absurd (hg.lS ▸ hg.ps) (hno LL)
/-- What was opened is what there was. -/
theorem Gd.again (h : Gd n x M A B LL) : Gd n x (openW x (n / 2) M.R0.S M.R1.S) A B LL := by
  have hA : A = seg x.V 0 (n / 2) := by have := h.a.q; rwa [h.f0, h.n0] at this
  have hB : B = seg x.V (n / 2) (n / 2) := by have := h.b.q; rwa [h.f1, h.n1] at this
  have := gd_open h.ok h.F h.D h.n8 h.n9 h.P (SA := M.R0.S) (SB := M.R1.S) (LL := LL) (by rw [← hA]; exact h.a.s) (by rw [← hB]; exact h.b.s) (by rw [← h.lS]; exact h.ps)
  rwa [← hA, ← hB] at this
theorem rcommit_d {base : Nat} {P : Nat → Prop} {SA SB : Ld} (h : Lg base wr vA vB A B) (hr : Rd n A B SA SB) (hbase : base ≤ wr.heap.size) (hP : ∀ j, vA.ownBlock = some j ∨ vB.ownBlock = some j → P j) {l : List Rk.Sec} (hl : Small l) {a : Option Addr} (c : Nat) (hs : Strs wr a (bas l)) :
    Calls Tryz.prog 10 #[.agg #[vA, vB], .slice a l.length c] wr (RlRes base P (docPut A B (decide (SA.first < SB.first)) (lgS SA SB).e l).1 (docPut A B (decide (SA.first < SB.first)) (lgS SA SB).e l).2.1 (docPut A B (decide (SA.first < SB.first)) (lgS SA SB).e l).2.2 wr) := by
  by_cases hT : 9223372036854775807 ≤ max (Sf.top A) (Sf.top B)
  · have e : docPut A B (decide (SA.first < SB.first)) (lgS SA SB).e l = (A, B, 6) := by unfold docPut; rw [if_pos hT]
    rw [e]
    exact rcommit_no h hr hP hl c hs hT
  · unfold docPut
    rw [if_neg hT]
    exact rcommit_go h hr hbase hP hl c hs _ rfl _ rfl (by omega) _ _ rfl
theorem rsave_d {base : Nat} {P : Nat → Prop} {SA SB : Ld} (h : Lg base wr vA vB A B) (hr : Rd n A B SA SB) (hbase : base ≤ wr.heap.size) (hP : ∀ j, vA.ownBlock = some j ∨ vB.ownBlock = some j → P j) {l : List Rk.Sec} (hl : Small l) {a : Option Addr} (c : Nat) (hs : Strs wr a (bas l)) :
    Calls Tryz.prog 12 #[.agg #[vA, vB], .slice a l.length c] wr (RlRes base P (docPut A B (!decide (SA.first < SB.first) && decide (0 < (lgS SA SB).first)) 0 l).1 (docPut A B (!decide (SA.first < SB.first) && decide (0 < (lgS SA SB).first)) 0 l).2.1 (docPut A B (!decide (SA.first < SB.first) && decide (0 < (lgS SA SB).first)) 0 l).2.2 wr) := by
  by_cases hT : 9223372036854775807 ≤ max (Sf.top A) (Sf.top B)
  · have e : docPut A B (!decide (SA.first < SB.first) && decide (0 < (lgS SA SB).first)) 0 l = (A, B, 6) := by unfold docPut; rw [if_pos hT]
    rw [e]
    exact rsave_no h hr hP hl c hs hT
  · unfold docPut
    rw [if_neg hT]
    exact rsave_go h hr hbase hP hl c hs _ rfl _ rfl (by omega) _ _ rfl
/-- A commit, a save, of both sides. -/
structure Both2 (n : Nat) (x : Dr) (LL : List (List Rk.Sec)) (C : Wm × Dr × Int) (A' B' : List Rk.Sec) (z : Int) : Prop where
  z : C.2.2 = z
  g : ∃ LL', Gd n C.2.1 C.1 A' B' LL'
  p : C.2.1.P = [] ∨ C.2.1 = x
theorem both_commit (h : Gd n x M A B LL) {l : List Rk.Sec} (hl : Small l) : Both2 n x LL (commitW M x l) (docPut A B (decide (M.R0.S.first < M.R1.S.first)) (lgS M.R0.S M.R1.S).e l).1 (docPut A B (decide (M.R0.S.first < M.R1.S.first)) (lgS M.R0.S M.R1.S).e l).2.1 (docPut A B (decide (M.R0.S.first < M.R1.S.first)) (lgS M.R0.S M.R1.S).e l).2.2 := by
  obtain ⟨k, many, p, LL', hk, e1, e2, hc⟩ := commitW_eq h l
  have hP := h.put hl k many p hk LL' hc
  rw [e1, e2]
  exact ⟨hP.z, ⟨_, hP.g⟩, hP.p⟩
theorem both_save (h : Gd n x M A B LL) {l : List Rk.Sec} (hl : Small l) : Both2 n x LL (saveW M x l) (docPut A B (!decide (M.R0.S.first < M.R1.S.first) && decide (0 < (lgS M.R0.S M.R1.S).first)) 0 l).1 (docPut A B (!decide (M.R0.S.first < M.R1.S.first) && decide (0 < (lgS M.R0.S M.R1.S).first)) 0 l).2.1 (docPut A B (!decide (M.R0.S.first < M.R1.S.first) && decide (0 < (lgS M.R0.S M.R1.S).first)) 0 l).2.2 := by
  obtain ⟨k, hk, e1, e2, _⟩ := saveW_eq h l
  have hP := h.put hl k 1 0 hk [l] (.inl ⟨rfl, rfl, rfl⟩)
  rw [e1, e2]
  exact ⟨hP.z, ⟨_, hP.g⟩, hP.p⟩
end
/-- The acts of the statements. -/
structure Ac where
  what : Int
  l : List Rk.Sec
  fuse : Int
  c : Dv.Cr
structure Ac.Fits (x : Ac) : Prop where
  what : 0 ≤ x.what ∧ x.what ≤ 255
  l : x.l.length ≤ 9223372036854775807 ∧ ∀ p ∈ x.l, p.length ≤ 9223372036854775807
  fuse : 0 ≤ x.fuse ∧ x.fuse ≤ 255
  c : x.c.Fits
/-- An act in memory. -/
def AcAt (w : World) (b o : Nat) (x : Ac) : Prop := b < w.heap.size ∧ ∃ s cap, w.cell? ⟨b, o, none⟩ = some (.int .u8 x.what) ∧ w.cell? ⟨b, o + 1, none⟩ = some (.slice s x.l.length cap) ∧ Strs w s (bas x.l) ∧ w.cell? ⟨b, o + 2, none⟩ = some (.int .u8 x.fuse) ∧ w.cell? ⟨b, o + 3, none⟩ = some (.int .u64 (x.c.keep : Int)) ∧ w.cell? ⟨b, o + 4, none⟩ = some (.int .i64 x.c.torn) ∧ w.cell? ⟨b, o + 5, none⟩ = some (.int .i64 x.c.at')
def Acs (w : World) (a : Option Addr) (A : List Ac) : Prop := ∀ j (h : j < A.length), ∃ b off, a = some ⟨b, off, none⟩ ∧ AcAt w b (off + j * 6) A[j]
theorem AcAt.later {w w' : World} {b o : Nat} {x : Ac} (h : AcAt w b o x) (k : Below w.heap.size w w') : AcAt w' b o x := by
  obtain ⟨h0, s, cap, h1, h2, h3, h4, h5, h6, h7⟩ := h
  have kc : ∀ q, w'.cell? ⟨b, q, none⟩ = w.cell? ⟨b, q, none⟩ := fun q => k.cell (p := ⟨b, q, none⟩) h0
  exact ⟨Nat.lt_of_lt_of_le h0 k.size, s, cap, (kc _).trans h1, (kc _).trans h2, h3.later k, (kc _).trans h4, (kc _).trans h5, (kc _).trans h6, (kc _).trans h7⟩
theorem Acs.later {w w' : World} {a : Option Addr} {A : List Ac} (h : Acs w a A) (k : Below w.heap.size w w') : Acs w' a A := fun j hj => by
  obtain ⟨b, off, h1, h2⟩ := h j hj
  exact ⟨b, off, h1, h2.later k⟩
theorem Acs.ls {w : World} {a : Option Addr} {A : List Ac} (h : Acs w a A) : Ls6 w a (A.map Ac.l) := fun j hj => by
  obtain ⟨b, off, h1, h0, s, cap, _, h2, h3, _⟩ := h j (by simpa using hj)
  exact ⟨b, off, s, cap, h1, h0, by simpa using h2, by simpa using h3⟩
end Go.Proofs.YtbbnpcldplmgfaaGreatDoor.Wl
end
section
namespace Go.Proofs.YtbbnpcldplmgfaaGreatDoor.Wl
open Go Go.RowKit Dv Rf Shf Rk
open Tal (Strs bas)
/-- Where a call of the document stands whose answer goes into a box. -/
structure Dq (W : World) (base qb : Nat) (oA oB : Value) (A B : List Rk.Sec) (l0 l5 l6 l7 l8 l10 : Bool) (vA vB : Value) (u : World) : Prop where
  c0 : l6 = false → u = W
  c1 : l6 = true → ∃ w2, Below W.heap.size W w2 ∧ Lg base w2 vA vB A B ∧ (∀ j, vA.ownBlock = some j ∨ vB.ownBlock = some j → (oA.ownBlock = some j ∨ oB.ownBlock = some j) ∨ W.heap.size ≤ j) ∧ u = cond l10 ((w2.setCell ⟨qb, 0, none⟩ vA).setCell ⟨qb, 1, none⟩ vB) w2
  m0 : l6 = true → l0 = true
  m5 : l6 = true → l5 = true
  m7 : l7 = true → l6 = true
  m8 : l8 = true → l6 = true
  m10 : l10 = true → l8 = true
section
variable {W u u' : World} {base qb : Nat} {oA oB vA vB : Value} {A B : List Rk.Sec} {l0 l5 l6 l7 l8 l10 : Bool}
theorem Dq.start : Dq W base qb oA oB A B false false false false false false vA vB W := ⟨fun _ => rfl, fun h => (by cases h), fun h => (by cases h), fun h => (by cases h), fun h => (by cases h), fun h => (by cases h), fun h => (by cases h)⟩
theorem Dq.s0 (h : Dq W base qb oA oB A B l0 l5 l6 l7 l8 l10 vA vB u) : Dq W base qb oA oB A B true l5 l6 l7 l8 l10 vA vB u := ⟨h.c0, h.c1, fun _ => rfl, h.m5, h.m7, h.m8, h.m10⟩
theorem Dq.s5 (h : Dq W base qb oA oB A B l0 l5 l6 l7 l8 l10 vA vB u) : Dq W base qb oA oB A B l0 true l6 l7 l8 l10 vA vB u := ⟨h.c0, h.c1, h.m0, fun _ => rfl, h.m7, h.m8, h.m10⟩
theorem Dq.s7 (h : Dq W base qb oA oB A B l0 l5 l6 l7 l8 l10 vA vB u) (e : l6 = true) : Dq W base qb oA oB A B l0 l5 l6 true l8 l10 vA vB u := ⟨h.c0, h.c1, h.m0, h.m5, fun _ => e, h.m8, h.m10⟩
theorem Dq.s8 (h : Dq W base qb oA oB A B l0 l5 l6 l7 l8 l10 vA vB u) (e : l7 = true) : Dq W base qb oA oB A B l0 l5 l6 l7 true l10 vA vB u := ⟨h.c0, h.c1, h.m0, h.m5, h.m7, fun _ => h.m7 e, fun _ => rfl⟩
theorem Dq.at0 (h : Dq W base qb oA oB A B l0 l5 l6 l7 l8 l10 vA vB u) (e : l0 = false) : u = W := h.c0 (by cases hl : l6; rfl; have := h.m0 hl; rw [e] at this; cases this)
theorem Dq.at5 (h : Dq W base qb oA oB A B l0 l5 l6 l7 l8 l10 vA vB u) (e : l5 = false) : u = W := h.c0 (by cases hl : l6; rfl; have := h.m5 hl; rw [e] at this; cases this)
theorem Dq.did {x y : Value} (h : Dq W base qb oA oB A B l0 l5 l6 l7 l8 l10 vA vB W) (hi : l6 = false) (e0 : l0 = true) (e5 : l5 = true) (hl : Lg base u' x y A B) (hp : ∀ j, x.ownBlock = some j ∨ y.ownBlock = some j → (oA.ownBlock = some j ∨ oB.ownBlock = some j) ∨ W.heap.size ≤ j) (k : Below W.heap.size W u') : Dq W base qb oA oB A B l0 l5 true l7 l8 l10 x y u' := by
  have e10 : l10 = false := by cases hl : l10; rfl; have := h.m8 (h.m10 hl); rw [hi] at this; cases this
  subst e10
  exact ⟨fun h => (by cases h), fun _ => ⟨u', k, hl, hp, rfl⟩, fun _ => e0, fun _ => e5, fun _ => rfl, fun _ => rfl, fun h => (by cases h)⟩
theorem Dq.bel (h : Dq W base qb oA oB A B l0 l5 l6 l7 l8 l10 vA vB u) (e8 : l8 = true) (e10 : l10 = false) : Below W.heap.size W u := by
  obtain ⟨w2, k, _, _, e⟩ := h.c1 (h.m8 e8)
  rw [e10] at e
  rw [e]; exact k
theorem Dq.store (h : Dq W base qb oA oB A B l0 l5 l6 l7 l8 l10 vA vB u) (e8 : l8 = true) (e10 : l10 = false) : Dq W base qb oA oB A B l0 l5 l6 l7 l8 true vA vB ((u.setCell ⟨qb, 0, none⟩ vA).setCell ⟨qb, 1, none⟩ vB) := by
  refine ⟨fun h6 => ?_, fun h6 => ?_, h.m0, h.m5, h.m7, h.m8, fun _ => e8⟩
  · have := h.m8 e8; rw [h6] at this; cases this
  · obtain ⟨w2, k1, k2, k3, e⟩ := h.c1 h6
    rw [e10] at e
    exact ⟨w2, k1, k2, k3, by rw [e]; rfl⟩
theorem Dq.end' (h : Dq W base qb oA oB A B l0 l5 l6 l7 l8 l10 vA vB u) (e : l10 = true) : ∃ w2, Below W.heap.size W w2 ∧ Lg base w2 vA vB A B ∧ (∀ j, vA.ownBlock = some j ∨ vB.ownBlock = some j → (oA.ownBlock = some j ∨ oB.ownBlock = some j) ∨ W.heap.size ≤ j) ∧ u = (w2.setCell ⟨qb, 0, none⟩ vA).setCell ⟨qb, 1, none⟩ vB := by
  obtain ⟨w2, k1, k2, k3, e2⟩ := h.c1 (h.m8 (h.m10 e))
  subst e
  exact ⟨w2, k1, k2, k3, e2⟩
end
end Go.Proofs.YtbbnpcldplmgfaaGreatDoor.Wl
end
section
namespace Go.Proofs.YtbbnpcldplmgfaaGreatDoor.Wl
open Go Go.RowKit Dv Rf Shf Rk
open Tal (Strs bas)
/-- Where the statement stands. -/
structure Wt (w : World) (n g qb : Nat) (wr : World) (b r0 r1 : Nat) (vA vB : Value) (x : Dr) (M : Wm) (A B : List Rk.Sec) (LL : List (List Rk.Sec)) : Prop where
  q : Wq w g qb wr b r0 r1 vA vB x M A B
  gd : Gd n x M A B LL
  p : x.P = []
theorem Wt.later {w wr w2 : World} {n g qb b r0 r1 : Nat} {vA vB : Value} {x : Dr} {M : Wm} {A B : List Rk.Sec} {LL : List (List Rk.Sec)} (h : Wt w n g qb wr b r0 r1 vA vB x M A B LL) (k : Below wr.heap.size wr w2) : Wt w n g qb w2 b r0 r1 vA vB x M A B LL := ⟨h.q.later k, h.gd, h.p⟩
theorem Gd.mem {n : Nat} {x : Dr} {M : Wm} {A B : List Rk.Sec} {LL : List (List Rk.Sec)} (h : Gd n x M A B LL) : LL.length ≤ 100 ∧ ∀ l ∈ LL, l.length ≤ 98304 := by
  have h1 := h.Le
  have h2 := h.n9
  have h3 := h.ps.len
  refine ⟨by omega, fun l hl => ?_⟩
  obtain ⟨i, hi, rfl⟩ := List.getElem_of_mem hl
  have e := h.ps.eq i hi (by omega)
  have ht := h1.2.2 _ (List.getElem_mem (show i < M.L.S.T.length by omega))
  unfold parse at e
  split at e
  · rename_i l' ho
    cases e
    have := (Tal.takeRow_once _ _ _ ho).2
    omega
  · cases e
theorem rtxns_gd {base : Nat} {w : World} {n : Nat} {vA vB : Value} {x : Dr} {M : Wm} {A B : List Rk.Sec} {LL : List (List Rk.Sec)} (hl : Lg base w vA vB A B) (h : Gd n x M A B LL) :
    Calls Tryz.prog 14 #[.agg #[vA, vB]] w fun e w' => ∃ v, e = .returned (.tuple #[v, .bool true]) ∧ Lss w.heap.size w' v LL ∧ Below w.heap.size w w' := by
  refine (rtxns_c hl h.rd (by rw [← h.lS]; exact h.Le.2.2)).mono fun e w' hr => ?_
  obtain ⟨hb, hr⟩ := hr
  have hps := h.ps
  rw [h.lS] at hps
  rcases hr with ⟨L2, v, hp, rfl, hv⟩ | ⟨hno, _⟩
  · obtain rfl := hp.one hps
    exact ⟨v, rfl, hv, hb⟩
  · exact absurd hps (hno LL)
theorem lss_slice {base : Nat} {w : World} {v : Value} {LL : List (List Rk.Sec)} (h : Lss base w v LL) : ∃ a c, v = .slice a LL.length c := by
  obtain ⟨vs, h⟩ := h
  exact own_slice h.own
/-- The calls behind an act. -/
structure Cks (b g : Nat) (vA vB : Value) (sl : Option Addr) (cl : Nat) (l : List Rk.Sec) (LL : List (List Rk.Sec)) (ag rm : Nat) (u : World) : Prop where
  txns : Calls Tryz.prog 16 #[.pointer (some ⟨b, 0, none⟩)] u fun e w' => ∃ v, e = .returned v ∧ Lss u.heap.size w' v LL ∧ Below u.heap.size u w'
  age : Calls Tryz.prog 17 #[.pointer (some ⟨b, 0, none⟩)] u fun e w' => e = .returned (.int .u64 (ag : Int)) ∧ Below u.heap.size u w'
  rage : Calls Tryz.prog 18 #[.agg #[vA, vB]] u fun e w' => e = .returned (.int .u64 (ag : Int)) ∧ Below u.heap.size u w'
  room : Calls Tryz.prog 19 #[.pointer (some ⟨b, 0, none⟩)] u fun e w' => e = .returned (.int .i64 (rm : Int)) ∧ Below u.heap.size u w'
  rroom : Calls Tryz.prog 20 #[.agg #[vA, vB]] u fun e w' => e = .returned (.int .i64 (rm : Int)) ∧ Below u.heap.size u w'
  cst : Calls Tryz.prog 21 #[.slice sl l.length cl] u fun e w' => e = .returned (.int .i64 (Wl.cost l : Int)) ∧ Below u.heap.size u w'
  rcst : Calls Tryz.prog 22 #[.slice sl l.length cl] u fun e w' => e = .returned (.int .i64 (Wl.cost l : Int)) ∧ Below u.heap.size u w'
  pend : Calls Tryz.prog 23 #[.pointer (some ⟨g, 0, none⟩)] u fun e w' => e = .returned (.int .i64 0) ∧ Below u.heap.size u w'
  same : Calls Tryz.prog 24 #[.pointer (some ⟨g, 0, none⟩), .agg #[vA, vB]] u fun e w' => e = .returned (.bool true) ∧ Below u.heap.size u w'
theorem gd_V {n : Nat} {x : Dr} {M : Wm} {A B : List Rk.Sec} {LL : List (List Rk.Sec)} (h : Gd n x M A B LL) : ∀ j, j < n / 2 + n / 2 → x.V[j]? = (A ++ B)[j]? := fun j hj => by
  have ha := h.a.q
  have hb := h.b.q
  rw [h.f0, h.n0] at ha
  rw [h.f1, h.n1] at hb
  have hla := h.la
  by_cases hlt : j < n / 2
  · rw [List.getElem?_append_left (by omega), ha, seg_get hlt, Nat.zero_add]
  · rw [List.getElem?_append_right (by omega), hb, hla, seg_get (by omega)]
    congr 1
    omega
theorem cks {w u : World} {n g qb b r0 r1 : Nat} {vA vB : Value} {x : Dr} {M : Wm} {A B : List Rk.Sec} {LL : List (List Rk.Sec)} {l : List Rk.Sec} {sl : Option Addr} (cl : Nat) (h : Wt w n g qb u b r0 r1 vA vB x M A B LL) (hl : Small l) (hs : Strs u sl (bas l)) : Cks b g vA vB sl cl l LL M.age M.room u := by
  obtain ⟨U, h1, _, _, _⟩ := h.q.tr
  have hg := h.gd
  have hn := hg.n8
  have hn9 := hg.n9
  have dr : ∀ w', (∃ n, w' = u.drewN n) → Below u.heap.size u w' := fun w' ⟨n, e⟩ => by rw [e]; exact drewN_below (Below.refl _ _) n
  have hos : Dv.Os U u g x := by obtain ⟨_, _, hv⟩ := h1; exact hv.os
  refine ⟨txns_gd h1 hg, (age_gd h1 hg).mono fun e w' hr => ⟨hr.1, dr w' hr.2⟩, ?_, (room_gd h1 hg).mono fun e w' hr => ⟨hr.1, dr w' hr.2⟩, ?_, cost_c hl cl hs, rcost_c hl cl hs, ?_, ?_⟩
  · have := rage_c h.q.lg hg.rd
    rwa [← hg.lS, ← hg.age] at this
  · have := rroom_c h.q.lg hg.rd
    rwa [← hg.lS, ← hg.room] at this
  · obtain ⟨bv, bd, pv, fv, ha, _⟩ := hos
    have := pending_c g bv bd pv fv x u ha hg.ok
    rw [h.p] at this
    exact this.mono fun e w' hr => ⟨hr.1, by rw [← hr.2]; exact Below.refl _ _⟩
  · exact same_l h.q.lg hg.la hg.lb (by omega) (by omega) hos hg.ok (by rw [hg.D]; omega) (gd_V hg)
end Go.Proofs.YtbbnpcldplmgfaaGreatDoor.Wl
end
