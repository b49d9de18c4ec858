/- RowFails: a row, its drive and the lists of texts in memory. -/
import Derived.Test.YtnfjgmdpokpbbaaDoorRkFails0
namespace Go.Proofs.YtnfjgmdpokpbbaaDoor.Rk
open Go Go.RowKit Dv Rf Shf
open Tal (Strs bas)
abbrev TC : TypeId := 37
def crCells (c : Cr) : List Value := [.int .u64 (c.keep : Int), .int .i64 c.torn, .int .i64 c.at']
structure Flm (w : World) (bc : Nat) (pb : Nat → Prop) (pw : World) (wr : World) (r g : Nat) (x : Dr) (R : Rm) (vs vn : Value) (T0 S : List Sec) : Prop where
  both : ∃ U : Nat → Prop, Both U wr r g x R ∧ (∀ j, U j → w.heap.size ≤ j) ∧ ∀ j, vs.ownBlock = some j ∨ vn.ownBlock = some j ∨ j = bc ∨ pb j → ¬ U j
  s : Ow w.heap.size wr vs T0
  n : Ow w.heap.size wr vn S
  sep : ∀ j, vs.ownBlock = some j → vn.ownBlock ≠ some j
  c : ∃ c : Cr, c.Fits ∧ Rw wr bc TC (crCells c)
  p : ∀ j, pb j → j < wr.heap.size ∧ wr.heap[j]? = pw.heap[j]? ∧ vn.ownBlock ≠ some j ∧ j ≠ bc
  bw : w.heap.size ≤ bc
  b : Below w.heap.size w wr
section
variable {w wr w2 w3 : World} {bc r g : Nat} {pb : Nat → Prop} {pw : World} {x x' : Dr} {R R' : Rm} {vs vn : Value} {T0 S : List Sec}
theorem Flm.later (h : Flm w bc pb pw wr r g x R vs vn T0 S) (k : Below wr.heap.size wr w2) : Flm w bc pb pw w2 r g x R vs vn T0 S := by
  obtain ⟨U, h1, h2, h3⟩ := h.both
  obtain ⟨c, h4, h5⟩ := h.c
  exact ⟨⟨U, h1.later k, h2, h3⟩, h.s.later k, h.n.later k, h.sep, ⟨c, h4, h5.later k⟩, fun j hj => ⟨Nat.lt_of_lt_of_le (h.p j hj).1 k.size, (k.block j (h.p j hj).1).trans (h.p j hj).2.1, (h.p j hj).2.2⟩, h.bw, h.b.trans (k.mono h.b.size)⟩
/-- Its blocks, and what an operation on them leaves. -/
theorem Flm.pick (h : Flm w bc pb pw wr r g x R vs vn T0 S) : ∃ U : Nat → Prop, Both U wr r g x R ∧ ∀ (w3 : World) (x' : Dr) (R' : Rm), Past U r g x' R' wr w3 → Flm w bc pb pw w3 r g x' R' vs vn T0 S := by
  obtain ⟨U, h1, h2, h3⟩ := h.both
  obtain ⟨c, h4, h5⟩ := h.c
  have hs : ∀ j, vs.ownBlock = some j ∨ vn.ownBlock = some j ∨ j = bc ∨ pb j → j < wr.heap.size := by
    rintro j (hj | hj | rfl | hj)
    · exact (h.s.lt j hj).2
    · exact (h.n.lt j hj).2
    · exact h5.lt
    · exact (h.p j hj).1
  refine ⟨_, h1.lt, fun w3 x' R' k => ?_⟩
  have hn : ∀ j, vs.ownBlock = some j ∨ vn.ownBlock = some j ∨ j = bc ∨ pb j → ¬ (U j ∧ j < wr.heap.size) := fun j hj hu => h3 j hj hu.1
  refine ⟨⟨_, k.1, ?_, ?_⟩, h.s.keeps k.2 fun j hj => hn j (.inl hj), h.n.keeps k.2 fun j hj => hn j (.inr (.inl hj)), h.sep, ⟨c, h4, h5.keeps k.2 (hn bc (.inr (.inr (.inl rfl))))⟩, fun j hj => ⟨Nat.lt_of_lt_of_le (h.p j hj).1 k.2.size, (k.2.block j (h.p j hj).1 (hn j (.inr (.inr (.inr hj))))).trans (h.p j hj).2.1, (h.p j hj).2.2⟩, h.bw, h.b.trans (k.2.below (fun j hj => h2 j hj.1) h.b.size)⟩
  · rintro j (hj | hj)
    · exact h2 j hj.1
    · exact Nat.le_trans h.b.size hj
  · rintro j hj (hu | hu)
    · exact h3 j hj hu.1
    · have := hs j hj; omega
/-- What a failure keeps, set anew. -/
theorem Flm.setC (h : Flm w bc pb pw wr r g x R vs vn T0 S) (c : Cr) (hc : c.Fits) : Flm w bc pb pw (((wr.setCell ⟨bc, 0, none⟩ (.int .u64 (c.keep : Int))).setCell ⟨bc, 1, none⟩ (.int .i64 c.torn)).setCell ⟨bc, 2, none⟩ (.int .i64 c.at')) r g x R vs vn T0 S := by
  obtain ⟨U, h1, h2, h3⟩ := h.both
  obtain ⟨c0, h4, h5⟩ := h.c
  have k : Keeps (fun j => j = bc) wr (((wr.setCell ⟨bc, 0, none⟩ (.int .u64 (c.keep : Int))).setCell ⟨bc, 1, none⟩ (.int .i64 c.torn)).setCell ⟨bc, 2, none⟩ (.int .i64 c.at')) := (((Keeps.refl (fun j => j = bc) wr).setCell bc 0 _ (.inl rfl)).setCell bc 1 _ (.inl rfl)).setCell bc 2 _ (.inl rfl)
  refine ⟨⟨U, h1.keep k fun j hj e => h3 j (.inr (.inr (.inl e))) hj, h2, h3⟩, h.s.keeps k fun j hj e => ?_, h.n.keeps k fun j hj e => ?_, h.sep, ⟨c, hc, ((h5.setCell 0 _).setCell 1 _).setCell 2 _⟩, fun j hj => ⟨Nat.lt_of_lt_of_le (h.p j hj).1 k.size, (k.block j (h.p j hj).1 (h.p j hj).2.2.2).trans (h.p j hj).2.1, (h.p j hj).2.2⟩, h.bw, h.b.trans (k.below (fun j hj => by rw [hj]; exact h.bw) h.b.size)⟩
  · exact own_type h.s h5 (by decide) (by rw [hj, e])
  · exact own_type h.n h5 (by decide) (by rw [hj, e])
/-- One more text since. -/
theorem Flm.push (h : Flm w bc pb pw wr r g x R vs vn T0 S) {o : Obj} {v' : Value} {t : List UInt8} {w1 : World} (hown : w1.ownsRow w.heap.size TStr 1 v' (S.length + 1) (S.map sv ++ [sv t])) (hgrow : (wr.alloc o).grownBy w1 vn.ownBlock) (hat : v'.ownBlock = vn.ownBlock ∨ v'.ownBlock = some (wr.alloc o).heap.size) :
    Flm w bc pb pw w1 r g x R vs v' T0 (S ++ [t]) := by
  obtain ⟨U, h1, h2, h3⟩ := h.both
  obtain ⟨c, h4, h5⟩ := h.c
  have k : Keeps (fun j => vn.ownBlock = some j) wr w1 := ((Keeps.refl _ wr).alloc o).grown hgrow fun j hj => .inl hj
  have hz : (wr.alloc o).heap.size = wr.heap.size + 1 := by simp
  rw [hz] at hat
  have e1 : (S ++ [t]).length = S.length + 1 := by simp
  have e2 : (S ++ [t]).map sv = S.map sv ++ [sv t] := by simp
  refine ⟨⟨_, h1.lt.keep k fun j hj e => h3 j (.inr (.inl e)) hj.1, fun j hj => h2 j hj.1, ?_⟩, h.s.keeps k fun j hj e => h.sep j hj e, by unfold Ow; rw [e1, e2]; exact hown, fun j hj e => ?_, ⟨c, h4, h5.keeps k fun e => own_type h.n h5 (by decide) e⟩, fun j hj => ?_, h.bw, h.b.trans (k.below (fun j hj => (h.n.lt j hj).1) h.b.size)⟩
  · rintro j (hj | hj | rfl | hj) hu
    · exact h3 j (.inl hj) hu.1
    · rcases hat with ha | ha
      · exact h3 j (.inr (.inl (ha ▸ hj))) hu.1
      · rw [ha] at hj; cases hj; omega
    · exact h3 j (.inr (.inr (.inl rfl))) hu.1
    · exact h3 j (.inr (.inr (.inr hj))) hu.1
  · rcases hat with ha | ha
    · exact h.sep j hj (ha ▸ e)
    · rw [ha] at e; cases e; have := (h.s.lt _ hj).2; omega
  · obtain ⟨p1, p2, p3, p4⟩ := h.p j hj
    refine ⟨Nat.lt_of_lt_of_le p1 k.size, (k.block j p1 p3).trans p2, fun e => ?_, p4⟩
    rcases hat with ha | ha
    · exact p3 (ha ▸ e)
    · rw [ha] at e; cases e; omega
/-- Other texts are sure now; none since. -/
theorem Flm.fresh (h : Flm w bc pb pw wr r g x R vs vn T0 S) {v : Value} {T : List Sec} (hb : Below wr.heap.size wr w2) (hv : Ow wr.heap.size w2 v T) : Flm w bc pb pw w2 r g x R v (.slice none 0 0) T [] := by
  obtain ⟨U, h1, h2, h3⟩ := h.both
  obtain ⟨c, h4, h5⟩ := h.c
  refine ⟨⟨_, h1.lt.later hb, fun j hj => h2 j hj.1, ?_⟩, hv.lower h.b.size, World.ownsRow_nil _ _ _ _, fun j _ e => by simp [Value.ownBlock] at e, ⟨c, h4, h5.later hb⟩, fun j hj => ⟨Nat.lt_of_lt_of_le (h.p j hj).1 hb.size, (hb.block j (h.p j hj).1).trans (h.p j hj).2.1, by simp [Value.ownBlock], (h.p j hj).2.2.2⟩, h.bw, h.b.trans (hb.mono h.b.size)⟩
  rintro j (hj | hj | rfl | hj) hu
  · have := (hv.lt j hj).1; have := hu.2; omega
  · simp [Value.ownBlock] at hj
  · exact h3 j (.inr (.inr (.inl rfl))) hu.1
  · exact h3 j (.inr (.inr (.inr hj))) hu.1
/-- A new block that is to stay. -/
theorem Flm.box (h : Flm w bc (fun _ => False) pw wr r g x R vs vn T0 S) (o : Obj) : Flm w bc (fun j => j = wr.heap.size) (wr.alloc o) (wr.alloc o) r g x R vs vn T0 S := by
  have hb : Below wr.heap.size wr (wr.alloc o) := (Below.refl _ wr).alloc (Nat.le_refl _) o
  obtain ⟨U, h1, h2, h3⟩ := h.both
  obtain ⟨c, h4, h5⟩ := h.c
  refine ⟨⟨_, h1.lt.later hb, fun j hj => h2 j hj.1, ?_⟩, h.s.later hb, h.n.later hb, h.sep, ⟨c, h4, h5.later hb⟩, fun j hj => ⟨by simp; omega, rfl, fun e => by have := (h.n.lt j e).2; omega, fun e => by have := h5.lt; omega⟩, h.bw, h.b.trans (hb.mono h.b.size)⟩
  rintro j (hj | hj | rfl | hj) hu
  · exact h3 j (.inl hj) hu.1
  · exact h3 j (.inr (.inl hj)) hu.1
  · exact h3 j (.inr (.inr (.inl rfl))) hu.1
  · have := hu.2; omega
theorem Flm.forget (h : Flm w bc pb pw wr r g x R vs vn T0 S) : Flm w bc (fun _ => False) w wr r g x R vs vn T0 S := by
  obtain ⟨U, h1, h2, h3⟩ := h.both
  exact ⟨⟨U, h1, h2, fun j hj => h3 j (hj.imp id (Or.imp id (Or.imp id False.elim)))⟩, h.s, h.n, h.sep, h.c, fun _ hj => hj.elim, h.bw, h.b⟩
theorem Both.crash {U : Nat → Prop} (h : Both U wr r g x R) (hx : x.Ok) (hP : x.P.length ≤ 100000) (c : Cr) (hc : c.Fits) : Calls Tryd.prog 25 #[.pointer (some ⟨g, 0, Option.none⟩), c.val] wr fun e w' => e = .returned (.tuple #[]) ∧ Past U r g (x.crash c) R wr w' := by
  obtain ⟨tv, h1, h2, h3⟩ := h
  refine (os_crash (os_row h1 h2) hx hP c hc).mono fun e w' hr => ⟨hr.1, ?_⟩
  obtain ⟨k1, k2⟩ := hr.2
  exact ⟨⟨tv, k1.mono fun j hj => hj.imp (fun h => h.1) id, h2.keeps k2 fun j hj hn => hn.2 hj, fun j hj => .inl (h3 j hj)⟩, k2.mono fun j hj => .inl hj.1⟩
end
section
variable {w wr : World} {bc r g : Nat} {pb : Nat → Prop} {pw : World} {x x' : Dr} {R R' : Rm} {vs vn : Value} {T0 S : List Sec} (h : Flm w bc pb pw wr r g x R vs vn T0 S)
include h
theorem flm_top (hn : 0 < R.n) : Calls Tryd.prog 23 #[.pointer (some ⟨r, 0, none⟩)] wr fun e w' => e = .returned (.int .u64 (R.top : Int)) ∧ wr = w' := by
  obtain ⟨U, ⟨tv, _, h2, _⟩, _⟩ := h.both
  exact top_c r g tv R wr h2 hn
theorem flm_first (hn : 0 < R.n) : Calls Tryd.prog 27 #[.pointer (some ⟨r, 0, none⟩)] wr fun e w' => e = .returned (.int .u64 (R.S.first : Int)) ∧ wr = w' := by
  obtain ⟨U, ⟨tv, _, h2, _⟩, _⟩ := h.both
  exact first_c r g tv R wr h2 hn
theorem flm_texts (hn : 0 < R.n) (hT : R.S.T.length ≤ 100000) : Calls Tryd.prog 22 #[.pointer (some ⟨r, 0, none⟩)] wr (TxRes R.S.T wr) := by
  obtain ⟨U, ⟨tv, _, h2, _⟩, _⟩ := h.both
  exact texts_c r g tv R wr h2 hn hT
theorem flm_fuse (hx : x.Ok) (k : Int) : Calls Tryd.prog 24 #[.pointer (some ⟨g, 0, Option.none⟩), .int .i64 k] wr fun e w' => e = .returned (.tuple #[]) ∧ Flm w bc pb pw w' r g (x.fuse k) R vs vn T0 S := by
  obtain ⟨U, h1, h2⟩ := h.pick
  exact (h1.fuse hx k).mono fun e w' hr => ⟨hr.1, h2 _ _ _ hr.2⟩
theorem flm_sync (hx : x.Ok) (hP : x.P.length ≤ 100000) (z : Int) (hz : x.sync = (x', z)) : Calls Tryd.prog 17 #[.pointer (some ⟨g, 0, Option.none⟩)] wr fun e w' => e = .returned (.int .i64 z) ∧ Flm w bc pb pw w' r g x' R vs vn T0 S := by
  obtain ⟨U, h1, h2⟩ := h.pick
  exact (h1.sync hx hP z hz).mono fun e w' hr => ⟨hr.1, h2 _ _ _ hr.2⟩
theorem flm_crash (hx : x.Ok) (hP : x.P.length ≤ 100000) (c : Cr) (hc : c.Fits) : Calls Tryd.prog 25 #[.pointer (some ⟨g, 0, Option.none⟩), c.val] wr fun e w' => e = .returned (.tuple #[]) ∧ Flm w bc pb pw w' r g (x.crash c) R vs vn T0 S := by
  obtain ⟨U, h1, h2⟩ := h.pick
  exact (h1.crash hx hP c hc).mono fun e w' hr => ⟨hr.1, h2 _ _ _ hr.2⟩
theorem flm_add (hf : Fit x R) (p n : Nat) (t : ByteArray) (hp : R.S.e = p) (hn9 : n < 18446744073709551616) (ht9 : t.size ≤ 9223372036854775807) (M : Rm × Dr × Int) (hM : putM R x p n t.data.toList = M) : Calls Tryd.prog 15 #[.pointer (some ⟨r, 0, none⟩), .int .u64 (n : Int), .string t] wr fun e w' => e = .returned (.int .i64 M.2.2) ∧ Flm w bc pb pw w' r g M.2.1 M.1 vs vn T0 S := by
  obtain ⟨U, h1, h2⟩ := h.pick
  subst hp hM
  exact (add_c U r g x R wr h1 hf n t hn9 ht9).mono fun e w' hr => ⟨hr.1, h2 _ _ _ hr.2⟩
theorem flm_begin (hf : Fit x R) (n : Nat) (t : ByteArray) (hn9 : n < 18446744073709551616) (ht9 : t.size ≤ 9223372036854775807) (M : Rm × Dr × Int) (hM : putM R x 0 n t.data.toList = M) : Calls Tryd.prog 16 #[.pointer (some ⟨r, 0, none⟩), .int .u64 (n : Int), .string t] wr fun e w' => e = .returned (.int .i64 M.2.2) ∧ Flm w bc pb pw w' r g M.2.1 M.1 vs vn T0 S := by
  obtain ⟨U, h1, h2⟩ := h.pick
  subst hM
  exact (begin_c U r g x R wr h1 hf n t hn9 ht9).mono fun e w' hr => ⟨hr.1, h2 _ _ _ hr.2⟩
/-- Opened again. -/
theorem flm_open (hx : x.Ok) (n : Nat) (hn : 1 ≤ n) (hn9 : n ≤ 16) (hD : x.D.length = 16) : Calls Tryd.prog 7 #[.pointer (some ⟨g, 0, none⟩), .int .i64 0, .int .i64 (n : Int)] wr fun e w' =>
    ∃ r' z, e = .returned (.tuple #[.pointer (some ⟨r', 0, none⟩), .int .i64 0]) ∧ Loaded (seg x.V 0 n) z ∧ Flm w bc pb pw w' r' g x ⟨0, n, z, Sf.top (seg x.V 0 n), false⟩ vs vn T0 S := by
  obtain ⟨U, ⟨tv, h1, h1b, h1c⟩, h2, h3⟩ := h.both
  obtain ⟨c, h4, h5⟩ := h.c
  refine (open_c h1.lt hx 0 n hn (by omega) (by omega)).mono fun e w' hr => ?_
  obtain ⟨r', s, rfl, hs, hB, hb⟩ := op_both h1.lt hr
  refine ⟨r', s, rfl, hs, ⟨_, hB, ?_, ?_⟩, h.s.later hb, h.n.later hb, h.sep, ⟨c, h4, h5.later hb⟩, fun j hj => ⟨Nat.lt_of_lt_of_le (h.p j hj).1 hb.size, (hb.block j (h.p j hj).1).trans (h.p j hj).2.1, (h.p j hj).2.2⟩, h.bw, h.b.trans (hb.mono h.b.size)⟩
  · rintro j (hj | hj)
    · exact h2 j hj.1
    · exact Nat.le_trans h.b.size hj
  · intro j hj hu
    have hlt : j < wr.heap.size := by
      rcases hj with hj | hj | rfl | hj
      · exact (h.s.lt j hj).2
      · exact (h.n.lt j hj).2
      · exact h5.lt
      · exact (h.p j hj).1
    rcases hu with hu | hu
    · exact h3 j hj hu.1
    · omega
end
end Go.Proofs.YtnfjgmdpokpbbaaDoor.Rk
