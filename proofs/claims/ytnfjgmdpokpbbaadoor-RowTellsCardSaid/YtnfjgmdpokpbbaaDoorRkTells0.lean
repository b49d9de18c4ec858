/- The statements of row: a row and the document's sectors, side by side. -/
import Derived.Test.YtnfjgmdpokpbbaaDoorRkHead
namespace Go.Proofs.YtnfjgmdpokpbbaaDoor.Rk
open Go Go.RowKit Dv Rf Shf
open Tal (Strs bas)
/-- What a put does to a row that is what its sectors say. -/
structure Moved (x : Dr) (R : Rm) (n : Nat) (M : Rm × Dr × Int) (N : List Sec × Int) : Prop where
  z : M.2.2 = N.2
  told : Told M.2.1 M.1 N.1
  down : M.1.down = false
  F : M.2.1.F = none
  ff : M.1.f = R.f
  nn : M.1.n = R.n
  top : M.1.top ≤ max R.top n
  D : M.2.1.D = x.D
  P : M.2.1.P.length ≤ x.P.length + R.n
  ok : M.2.1.Ok
  out : ∀ j, j < R.f ∨ R.f + R.n ≤ j → M.2.1.V[j]? = x.V[j]?
theorem putM_told {x : Dr} {R : Rm} {Q : List Sec} {p n : Nat} {t : List UInt8} (hT : Told x R Q) (hx : x.Ok) (hf : R.f + R.n ≤ x.D.length) (hd : R.down = false) (hF : x.F = none) (hp : p = R.S.e ∨ p = 0) (hn : n < 18446744073709551616) (hl : t.length ≤ 98304) :
    Moved x R n (putM R x p n t) (rputM Q p n t) := by
  have hV : x.V.length = x.D.length := Dr.vlen x
  have hQl : Q.length = R.n := by rw [hT.q, seg_len (by omega)]
  have same : ∀ z, Moved x R n (R, x, z) (Q, z) := fun z => ⟨rfl, hT, hd, hF, rfl, rfl, by show R.top ≤ _; omega, rfl, by show x.P.length ≤ _; omega, hx, fun _ _ => rfl⟩
  unfold putM rputM
  rw [if_neg (by simp [hd]), ← hT.top]
  by_cases h1 : n ≤ R.top
  · rw [if_pos h1, if_pos h1]; exact same 2
  rw [if_neg h1, if_neg h1, if_neg (show ¬ 98304 < t.length by omega), if_neg (show ¬ 98304 < t.length by omega), hQl]
  by_cases h2 : R.n < p + Sf.many t.length
  · rw [if_pos h2, if_pos h2]; exact same 6
  rw [if_neg h2, if_neg h2, if_pos (by unfold through; rw [hF])]
  have hsl := Sf.sheaf_len n t
  have hfq : R.f + p + (Sf.sheaf n t).length ≤ x.D.length := by omega
  have hVV : (drv x (R.f + p) (Sf.sheaf n t)).V = puts (ws (R.f + p) (Sf.sheaf n t)) x.V := by unfold drv Dr.V; rw [puts_app]
  have hseg : seg (drv x (R.f + p) (Sf.sheaf n t)).V R.f R.n = placed Q p (Sf.sheaf n t) := by rw [hVV, puts_in _ _ _ _ _ (by omega) (by omega), ← hT.q]
  have htop : Sf.top Q < n := by rw [← hT.top]; omega
  refine ⟨rfl, ⟨hseg.symm, ?_, (top_placed hn htop).symm⟩, rfl, ?_, rfl, rfl, by show n ≤ _; omega, rfl, ?_, drv_ok hx (sheaf_64 hn) hfq, fun j hj => ?_⟩
  · show Loaded (placed Q p (Sf.sheaf n t)) ((if p = 0 then Ld.zero else R.S).took n t (Sf.many t.length))
    by_cases hp0 : p = 0
    · subst hp0
      rw [if_pos rfl]
      exact loaded_begin hn hl htop (by omega)
    · rw [if_neg hp0]
      obtain rfl : p = R.S.e := hp.resolve_right hp0
      exact loaded_add hT.s hn hl htop (by omega)
  · unfold drv rest; rw [hF]
  · unfold drv; simp only [List.length_append, ws_len]; omega
  · show (drv x (R.f + p) (Sf.sheaf n t)).V[j]? = _
    rw [hVV]
    exact puts_out _ _ _ _ (by omega)
/-- Where the statement stands. -/
structure Tl (w : World) (f n i g : Nat) (wr : World) (vq : Value) (r : Nat) (x : Dr) (R : Rm) (Q : List Sec) : Prop where
  both : ∃ U : Nat → Prop, Both U wr r g x R ∧ (∀ j, U j → w.heap.size ≤ j) ∧ ∀ j, vq.ownBlock = some j → ¬ U j
  q : Ow w.heap.size wr vq Q
  told : Told x R Q
  hx : x.Ok
  F : x.F = none
  P : x.P.length ≤ 20 * i
  D : x.D.length = 24
  down : R.down = false
  ff : R.f = f
  nn : R.n = n
  top : R.top ≤ 40000 * i
  rest : ∀ j, j < 24 → j < f ∨ f + n ≤ j → x.V[j]? = some zs
  b : Below w.heap.size w wr
section
variable {w wr w2 w3 : World} {f n i g r : Nat} {vq : Value} {x x' : Dr} {R R' : Rm} {Q Q' : List Sec}
theorem Tl.later (h : Tl w f n i g wr vq r x R Q) (k : Below wr.heap.size wr w2) : Tl w f n i g w2 vq r x R Q := by
  obtain ⟨U, h1, h2, h3⟩ := h.both
  exact ⟨⟨U, h1.later k, h2, h3⟩, h.q.later k, h.told, h.hx, h.F, h.P, h.D, h.down, h.ff, h.nn, h.top, h.rest, h.b.trans (k.mono h.b.size)⟩
theorem Tl.fit (h : Tl w f n i g wr vq r x R Q) (hi : i ≤ 40) (hn : 1 ≤ n) (hn9 : n ≤ 16) (hf : f + n ≤ 24) : Fit x R := by
  have hV : x.V.length = x.D.length := Dr.vlen x
  have hQl : Q.length = R.n := by rw [h.told.q, seg_len (by have := h.D; have := h.ff; have := h.nn; omega)]
  have h1 := h.told.s.r.fine
  have h2 := h1.le
  have h3 := h1.tl
  have := h.P; have := h.D; have := h.ff; have := h.nn
  exact ⟨h.hx, by omega, by omega, by omega, by omega, by omega, by omega⟩
/-- The document's put is done; the row's is to come. -/
structure Mid (w : World) (f n i g : Nat) (wr : World) (vq : Value) (r : Nat) (x : Dr) (R : Rm) (Q Q' : List Sec) (U : Nat → Prop) : Prop where
  both : Both U wr r g x R
  u : ∀ j, U j → w.heap.size ≤ j
  v : ∀ j, vq.ownBlock = some j → ¬ U j ∧ j < wr.heap.size
  q : Ow w.heap.size wr vq Q'
  b : Below w.heap.size w wr
theorem Tl.mid (h : Tl w f n i g wr vq r x R Q) {N : List Sec × Int} {e : Ending} (hr : RpRes vq Q N wr e w2) : ∃ vq' U, e = .returned (.tuple #[vq', .int .i64 N.2]) ∧ Mid w f n i g w2 vq' r x R Q N.1 U := by
  obtain ⟨U, h1, h2, h3⟩ := h.both
  obtain ⟨hb, hr⟩ := hr
  have hs := hb.size
  have hbw := h.b.trans (hb.mono h.b.size)
  rcases hr with ⟨h4, h5, rfl⟩ | ⟨h4, v', rfl, h5⟩
  · refine ⟨vq, _, rfl, ⟨h1.later hb, h2, fun j hj => ⟨h3 j hj, ?_⟩, ?_, hbw⟩⟩
    · have := (h.q.lt j hj).2
      omega
    · rw [h5]; exact h.q.later hb
  · refine ⟨v', _, by rw [h4], ⟨h1.lt.later hb, fun j hj => h2 j hj.1, fun j hj => ?_, h5.lower h.b.size, hbw⟩⟩
    have := h5.lt j hj
    exact ⟨fun hu => by have := hu.2; omega, this.2⟩
theorem Mid.later {U : Nat → Prop} (h : Mid w f n i g wr vq r x R Q Q' U) (k : Below wr.heap.size wr w2) : Mid w f n i g w2 vq r x R Q Q' U :=
  ⟨h.both.later k, h.u, fun j hj => ⟨(h.v j hj).1, Nat.lt_of_lt_of_le (h.v j hj).2 k.size⟩, h.q.later k, h.b.trans (k.mono h.b.size)⟩
theorem Mid.next {U : Nat → Prop} (h : Mid w f n i g w2 vq r x R Q Q' U) (k : Past U r g x' R' w2 w3) : (∃ U : Nat → Prop, Both U w3 r g x' R' ∧ (∀ j, U j → w.heap.size ≤ j) ∧ ∀ j, vq.ownBlock = some j → ¬ U j) ∧ Ow w.heap.size w3 vq Q' ∧ Below w.heap.size w w3 := by
  refine ⟨⟨_, k.1, fun j hj => hj.elim (h.u j) fun hj => Nat.le_trans h.b.size hj, fun j hj hu => ?_⟩, h.q.keeps k.2 fun j hj => (h.v j hj).1, h.b.trans (k.2.below h.u h.b.size)⟩
  obtain ⟨h1, h2⟩ := h.v j hj
  exact hu.elim h1 fun hu => by omega
theorem Tl.put (h : Tl w f n i g wr vq r x R Q) {U : Nat → Prop} {vq' : Value} {M : Rm × Dr × Int} {N : List Sec × Int} {s : Nat} (hm : Mid w f n i g w2 vq' r x R Q N.1 U) (hM : Moved x R s M N) (k : Past U r g M.2.1 M.1 w2 w3) (hs : s ≤ 40000 * (i + 1)) (hn : n ≤ 20) : Tl w f n (i + 1) g w3 vq' r M.2.1 M.1 N.1 := by
  obtain ⟨h1, h2, h3⟩ := hm.next k
  have := h.P; have := h.nn; have := hM.P; have := hM.top; have := h.top; have := h.ff
  exact ⟨h1, h2, hM.told, hM.ok, hM.F, by omega, by rw [hM.D]; exact h.D, hM.down, by rw [hM.ff]; exact h.ff, by rw [hM.nn]; exact h.nn, by omega, fun j hj hjo => by rw [hM.out j (by omega)]; exact h.rest j hj hjo, h3⟩
theorem Tl.same (h : Tl w f n i g wr vq r x R Q) : Tl w f n (i + 1) g wr vq r x R Q := ⟨h.both, h.q, h.told, h.hx, h.F, by have := h.P; omega, h.D, h.down, h.ff, h.nn, by have := h.top; omega, h.rest, h.b⟩
/-- Behind a sync. -/
theorem Tl.sync (h : Tl w f n i g wr vq r x R Q) : ∃ x', x.sync = (x', 0) ∧ ∃ U, Both U wr r g x R ∧ ∀ w3, Past U r g x' R wr w3 → Tl w f n (i + 1) g w3 vq r x' R Q := by
  obtain ⟨U, h1, h2, h3⟩ := h.both
  have hb : burn x.F = some none := by rw [h.F]; rfl
  have hok := h.hx.sync
  have e : x.sync = (⟨x.V, [], none⟩, 0) := by unfold Dr.sync; rw [hb]
  rw [e] at hok
  have hVe : (⟨x.V, [], none⟩ : Dr).V = x.V := rfl
  have hVl : x.V.length = x.D.length := Dr.vlen x
  refine ⟨_, e, _, h1.lt, fun w3 k => ?_⟩
  have hq : ∀ j, vq.ownBlock = some j → ¬ (U j ∧ j < wr.heap.size) ∧ j < wr.heap.size := fun j hj => ⟨fun hu => h3 j hj hu.1, (h.q.lt j hj).2⟩
  have hm : Mid w f n i g wr vq r x R Q Q (fun j => U j ∧ j < wr.heap.size) := ⟨h1.lt, fun j hj => h2 j hj.1, hq, h.q, h.b⟩
  obtain ⟨k1, k2, k3⟩ := hm.next k
  exact ⟨k1, k2, ⟨h.told.q, h.told.s, h.told.top⟩, hok, rfl, Nat.zero_le _, by show x.V.length = 24; rw [hVl]; exact h.D, h.down, h.ff, h.nn, by have := h.top; omega, fun j hj hjo => h.rest j hj hjo, k3⟩
/-- Opened again. -/
theorem Tl.open (h : Tl w f n i g wr vq r x R Q) {e : Ending} (hr : ∀ S : Nat → Prop, Dv.Os S wr g x → OpRes x f n g wr e w2) : ∃ r', e = .returned (.tuple #[.pointer (some ⟨r', 0, none⟩), .int .i64 0]) ∧ Tl w f n (i + 1) g w2 vq r' x ⟨f, n, R.S, R.top, false⟩ Q := by
  obtain ⟨U, ⟨tv, h1, h1b, h1c⟩, h2, h3⟩ := h.both
  obtain ⟨r', s, rfl, hs, hB, hb⟩ := op_both h1.lt (hr _ h1.lt)
  have hq := h.told.q
  rw [h.ff, h.nn] at hq
  rw [← hq] at hs hB
  obtain rfl := hs.one h.told.s
  rw [← h.told.top] at hB
  refine ⟨r', rfl, ⟨_, hB, fun j hj => ?_, fun j hj hu => ?_⟩, h.q.later hb, ⟨hq, h.told.s, h.told.top⟩, h.hx, h.F, by have := h.P; omega, h.D, rfl, rfl, rfl, by have := h.top; show R.top ≤ _; omega, h.rest, h.b.trans (hb.mono h.b.size)⟩
  · rcases hj with hj | hj
    · exact h2 j hj.1
    · exact Nat.le_trans h.b.size hj
  · rcases hu with hu | hu
    · exact h3 j hj hu.1
    · have := (h.q.lt j hj).2; omega
end
end Go.Proofs.YtnfjgmdpokpbbaaDoor.Rk
