/- Joined: RfLaw RfColl RfInw. -/
import Derived.RangeFuncNested
import Derived.RangeFuncBound
import Derived.RangeFuncCalls
import Derived.RangeFuncLeaves
import Derived.RangeFuncBox
import Derived.Maps.AppendAt
import Derived.Deep.RegionHeld3
section
namespace Go.Proofs.YtjlncjabiofklaaDoor.Rf
open Go Go.RowKit

/-- What stands whatever an iterator does: calls, new blocks, and stores into blocks of T. -/
structure Stands {β : Type} (T : Nat → Prop) (J : β → World → Prop) : Prop where
  below : ∀ s W W', J s W → Below W.heap.size W W' → J s W'
  put : ∀ s W b v, T b → J s W → J s (W.setCell ⟨b, 0, none⟩ v)
/-- What stands whatever becomes of the records that a loop lays from B on. -/
def Bears {β : Type} (B : Nat) (J : β → World → Prop) : Prop :=
  ∀ s W l o o', B ≤ l → W.heap[l]? = some o → o.isCells = false → J s W → J s (W.putObj l o')
/-- What an iterator promises: one yield for each element, as Ok lets it come. -/
def Yields {α : Type} (P : Program) (g : Nat) (lb : Array Value) (encs : α → Array Value) (T : Nat → Prop) (Kp : World → World → Prop) (S Sp : List α → Prop) (Ok : List α → α → Prop) (W0 : World) : Prop :=
  ∀ (l : Nat) (J Jx : List α → World → Prop) (W : World), Below W0.heap.size W0 W → Stands T J → Stands T Jx →
    (∀ pre x W1, J pre W1 → Ok pre x → YieldAt Fence.wide 2 P l (encs x) W1 fun e W' =>
      (e = .returned (.bool true) ∧ J (pre ++ [x]) W' ∧ Kp W1 W') ∨ (e = .returned (.bool false) ∧ Jx (pre ++ [x]) W')) →
    J [] W →
    CallsIn Fence.wide 3 P g (#[.func (.yield l) #[] #[]] ++ lb) W fun e W' => (∃ v, e = .returned v) ∧ ((∃ xs, S xs ∧ J xs W') ∨ (∃ pre, Sp pre ∧ Jx pre W'))

theorem not_cells_put {W : World} {k b : Nat} {o : Obj} (v : Value) (h : W.heap[k]? = some o) (ho : o.isCells = false) : (W.setCell ⟨b, 0, none⟩ v).heap[k]? = some o :=
  (KeepsOthers.setCell W ⟨b, 0, none⟩ v).same k o h ho
theorem lies_below {W W' : World} {k : Nat} {o : Obj} (h : W.heap[k]? = some o) (hb : Below W.heap.size W W') : W'.heap[k]? = some o :=
  (hb.block k (Array.getElem?_eq_some_iff.1 h).1).trans h

/-- Both records lie, in a state. -/
def Recs (d : Nat) (r : Loop) (W : World) : Prop := W.heap[d + 1]? = some (.loop r) ∧ W.heap[d]? = some (.deferred (some []))
theorem Recs.stands {β : Type} (T : Nat → Prop) (d : Nat) (r : Loop) : Stands (β := β) T (fun _ W => Recs d r W) :=
  ⟨fun _ _ _ h hb => ⟨lies_below h.1 hb, lies_below h.2 hb⟩, fun _ _ _ v _ h => ⟨not_cells_put v h.1 rfl, not_cells_put v h.2 rfl⟩⟩
theorem Recs.put {d : Nat} {r : Loop} {W : World} (h : Recs d r W) (r' : Loop) : Recs d r' (W.putObj (d + 1) (.loop r')) :=
  ⟨World.putObj_heap_same (Array.getElem?_eq_some_iff.1 h.1).1, (World.putObj_heap_other (by omega)).trans h.2⟩
theorem Recs.kept {d B : Nat} {r : Loop} {W W' : World} (h : Recs d r W) (hB : B ≤ d) (hk : KeepsFrom B W W') : Recs d r W' :=
  ⟨hk.same _ _ (by omega) h.1 rfl, hk.same _ _ hB h.2 rfl⟩
theorem Stands.and {β : Type} {T : Nat → Prop} {J K : β → World → Prop} (h : Stands T J) (k : Stands T K) : Stands T (fun s W => J s W ∧ K s W) :=
  ⟨fun s W W' hs hb => ⟨h.below s W W' hs.1 hb, k.below s W W' hs.2 hb⟩, fun s W b v hT hs => ⟨h.put s W b v hT hs.1, k.put s W b v hT hs.2⟩⟩
theorem Stands.ex {β γ : Type} {T : Nat → Prop} {J : γ → β → World → Prop} (h : ∀ c, Stands T (J c)) : Stands T (fun s W => ∃ c, J c s W) :=
  ⟨fun s W W' ⟨c, hs⟩ hb => ⟨c, (h c).below s W W' hs hb⟩, fun s W b v hT ⟨c, hs⟩ => ⟨c, (h c).put s W b v hT hs⟩⟩

/-- The statement, over an iterator that keeps its promise. -/
theorem law {α : Type} {P : Program} {g : Operand} {ps : Array Tmp} {assign body : Code} {Q : Exit → Act → World → Prop} {a : Act} {w : World} {gf : Nat} {lb : Array Value}
    (hg : a.eval g = .func (.func gf) #[] lb) (eg : ∀ args w, (callFunc gf args).run P w = .ok (.enter gf args) w)
    {encs : α → Array Value} {T : Nat → Prop} {Kp : World → World → Prop} {S Sp : List α → Prop} {Ok : List α → α → Prop} {W0 : World} (hseq : Yields P gf lb encs T Kp S Sp Ok W0) (hb0 : Below W0.heap.size W0 w)
    (hKt : ∀ A B C : World, Kp A B → Kp B C → Kp A C) (hKb : ∀ (W : World) (l : Nat) (o o' : Obj), w.heap.size ≤ l → W.heap[l]? = some o → o.isCells = false → Kp W (W.putObj l o'))
    (hps : ∀ x, (encs x).size = ps.size)
    (I : List α → World → Prop) (Ix : Code → List α → World → Prop) (hI : Bears w.heap.size I) (hIx : ∀ c, Bears w.heap.size (Ix c)) (sI : Stands T I) (sIx : ∀ c, Stands T (Ix c)) (h0 : I [] w) (a₁ : α → Act)
    (hassign : ∀ (l : Nat) (x : α) (W : World) (K : Act → World → Prop), K (a₁ x) W →
      assign.wpIn (Fence.wide.inRound l) 2 P (Exit.then K (fun _ _ _ => False)) { tmps := (ps.zip (encs x)).foldl (fun t (p, v) => t.setIfInBounds p v) a.tmps, defers := [] } W)
    (hbody : ∀ (l : Nat) (pre : List α) (x : α) (W : World), I pre W → Ok pre x → w.heap.size + 1 < W.heap.size → body.wpIn (Fence.wide.inRound l) 2 P (ownPostG w.heap.size Kp I Ix (pre ++ [x]) W) (a₁ x) W)
    (hdone : ∀ (xs : List α) (W : World), S xs → I xs W → W.heap[w.heap.size]? = some (.deferred (some [])) → Q .normal { a with defers := { target := .collected w.heap.size, args := #[] } :: a.defers } W)
    (hstop : ∀ (c : Code) (pre : List α) (W : World), Sp pre → Ix c pre W → W.heap[w.heap.size]? = some (.deferred (some [])) → c.wpIn Fence.wide 4 P Q { a with defers := { target := .collected w.heap.size, args := #[] } :: a.defers } W) :
    (Code.rangeFunc g ps assign body).wpIn Fence.wide 4 P Q a w := by
  refine wpIn_rangeFunc fun fn hfn => ?_
  obtain ⟨d, hd⟩ : ∃ d, w.heap.size = d := ⟨_, rfl⟩
  obtain ⟨R, hR⟩ : ∃ R : LoopState → Option Code → Loop, R = fun st pe => { state := st, pending := pe, fn, tmps := a.tmps, params := ps, assign, body, defers := d } := ⟨_, rfl⟩
  obtain ⟨W1, hW1⟩ : ∃ W1, (w.alloc (.deferred (some []))).alloc (.loop (R .ready none)) = W1 := ⟨_, rfl⟩
  have hbW : Below w.heap.size w W1 := by rw [← hW1]; exact ((Below.refl _ w).alloc (Nat.le_refl _) _).alloc (by simp) _
  have hrec : Recs d (R .ready none) W1 := by
    rw [← hW1, ← hd]
    refine ⟨?_, (Below.heap_alloc _ _ _ (by simp)).trans (World.alloc_heap_new w _)⟩
    have := World.alloc_heap_new (w.alloc (.deferred (some []))) (.loop (R .ready none)); rwa [World.size_alloc] at this
  have hent : (Instr.enterLoop fn a.tmps ps assign body none).run P w = .ok (d + 1, [{ target := .collected d, args := #[] }]) W1 := by
    have h := run_enterLoop_outer (P := P) (w := w) fn a.tmps ps assign body
    rw [hd] at h
    rw [h, ← hW1, hR]
  rw [hd] at hI hIx hKb hbody hdone hstop
  refine ⟨d + 1, [{ target := .collected d, args := #[] }], W1, { target := .fn (.func gf) lb, args := #[.func (.yield (d + 1)) #[] #[]] }, W1, gf, #[.func (.yield (d + 1)) #[] #[]] ++ lb, W1,
    hent, ?_, ?_, ?_, fun _ => by omega, ?_⟩
  · simp only [resolve, hg]
    simp [go_sem]
  · intro f' hf'; trivial
  · simp [invoke, go_sem, eg]
  refine (hseq (d + 1) (fun pre W => I pre W ∧ Recs d (R .ready none) W) (fun pre W => ∃ c, Ix c pre W ∧ Recs d (R .done (some c)) W) W1 (hb0.trans (hbW.mono hb0.size))
    (sI.and (Recs.stands T d _)) (Stands.ex fun c => (sIx c).and (Recs.stands T d _)) ?_ ⟨sI.below _ _ _ h0 hbW, hrec⟩).mono ?_
  · rintro pre x W ⟨hi, hr⟩ hok
    have hy := run_yield (P := P) (args := encs x) hr.1 (by rw [hR]; exact hps x)
    rw [hR] at hy
    have hrb : Recs d (R .busy none) (W.putObj (d + 1) (.loop (R .busy none))) := hr.put _
    have hbr : (Instr.beginRound (d + 1)).run P W = .ok () (W.putObj (d + 1) (.loop (R .busy none))) := by
      have := run_beginRound (P := P) hr.1 (by rw [hR]); rw [hR] at this ⊢; exact this
    refine ⟨fn, _, assign, body, hy, roundIn_of_wpIn hfn (hassign _ x W _ ⟨_, hbr, ?_⟩)⟩
    have hK1 : Kp W (W.putObj (d + 1) (.loop (R .busy none))) := hKb _ _ _ _ (by omega) hr.1 rfl
    have hi1 : I pre (W.putObj (d + 1) (.loop (R .busy none))) := hI _ _ _ _ _ (by omega) hr.1 rfl hi
    refine wpIn_mono (hbody _ pre x _ hi1 hok (by simp; exact (Array.getElem?_eq_some_iff.1 hr.1).1)) ?_
    have fin : ∀ (jump : Option Code) (W3 : World), KeepsFrom d (W.putObj (d + 1) (.loop (R .busy none))) W3 →
        (Instr.endRound (d + 1) jump).run P W3 = .ok (.bool jump.isNone) (W3.putObj (d + 1) (.loop (R (if jump.isNone then .ready else .done) jump))) ∧ Recs d (R .busy none) W3 := fun jump W3 hk => by
      have h3 := hrb.kept (Nat.le_refl _) hk
      have := run_endRound (P := P) jump h3.1
      rw [hR] at this ⊢
      exact ⟨this, by rw [hR] at h3; exact h3⟩
    have out : ∀ (c : Code) (W3 : World), KeepsFrom d (W.putObj (d + 1) (.loop (R .busy none))) W3 → Ix c (pre ++ [x]) W3 → ∃ v w', (Instr.endRound (d + 1) (some c)).run P W3 = .ok v w' ∧
        ((Ending.returned v = .returned (.bool true) ∧ (I (pre ++ [x]) w' ∧ Recs d (R .ready none) w') ∧ Kp W w') ∨ (Ending.returned v = .returned (.bool false) ∧ ∃ c, Ix c (pre ++ [x]) w' ∧ Recs d (R .done (some c)) w')) := fun c W3 hk hix => by
      obtain ⟨h1, h3⟩ := fin (some c) W3 hk
      exact ⟨_, _, h1, .inr ⟨rfl, c, hIx c _ _ _ _ _ (by omega) h3.1 rfl hix, h3.put _⟩⟩
    rintro e a3 W3 hp
    cases e with
    | normal =>
      obtain ⟨hk, hkp, hi3⟩ := hp
      obtain ⟨h1, h3⟩ := fin none W3 hk
      exact ⟨_, _, h1, .inl ⟨rfl, ⟨hI _ _ _ _ _ (by omega) h3.1 rfl hi3, h3.put _⟩, hKt _ _ _ (hKt _ _ _ hK1 hkp) (hKb _ _ _ _ (by omega) h3.1 rfl)⟩⟩
    | ret => exact out _ W3 hp.1 hp.2
    | exit id => exact out _ W3 hp.1 hp.2
    | goto t => exact out _ W3 hp.1 hp.2
    | panic ch => exact hp.elim
    | outgrown => exact hp.elim
  · rintro e W2 ⟨⟨v, rfl⟩, (⟨xs, hS, hi, hr⟩ | ⟨pre, hSp, c, hi, hr⟩)⟩
    · have := run_endLoop (P := P) hr.1 (by rw [hR]; simp)
      rw [hR] at this
      exact ⟨none, _, this, hdone xs _ hS (hI _ _ _ _ _ (by omega) hr.1 rfl hi) ((World.putObj_heap_other (by omega)).trans hr.2)⟩
    · have := run_endLoop (P := P) hr.1 (by rw [hR]; simp)
      rw [hR] at this
      exact ⟨some c, _, this, hstop c pre _ hSp (hIx c _ _ _ _ _ (by omega) hr.1 rfl hi) ((World.putObj_heap_other (by omega)).trans hr.2)⟩
end Go.Proofs.YtjlncjabiofklaaDoor.Rf
end
section
namespace Go.Proofs.YtjlncjabiofklaaDoor.Rf
open Go Go.RowKit
theorem own_lower {w : World} {base base' e size n : Nat} {v : Value} {xs : List Value} (h : w.ownsRow base e size v n xs) (hb : base' ≤ base) : w.ownsRow base' e size v n xs := by
  refine ⟨h.1, ?_⟩
  rcases h.2 with h | ⟨g, cap, cur, h1, h2, h3⟩
  · exact .inl h
  · exact .inr ⟨g, cap, cur, h1, Nat.le_trans hb h2, h3⟩
theorem own_later {w w' : World} {base e size n : Nat} {v : Value} {xs : List Value} (h : w.ownsRow base e size v n xs) (hb : Below w.heap.size w w') : w'.ownsRow base e size v n xs := by
  refine h.kept (row := none) ⟨hb.os, hb.tape, hb.output, hb.size, fun k hk _ => hb.block k hk⟩ ?_
  cases hv : v.ownBlock with
  | none => exact .inl rfl
  | some k => exact .inr (by simp)
theorem own_ne {w : World} {base e size n b : Nat} {v : Value} {xs : List Value} (h : w.ownsRow base e size v n xs) (hb : b < base) : some b ≠ v.ownBlock := by
  rcases h.2 with ⟨rfl, _⟩ | ⟨g, cap, cur, rfl, hg, _⟩
  · simp [Value.ownBlock]
  · simp [Value.ownBlock]; omega
theorem own_set {w : World} {base e size n b : Nat} {v : Value} {xs : List Value} (h : w.ownsRow base e size v n xs) (hb : b < base) (u : Value) : (w.setCell ⟨b, 0, none⟩ u).ownsRow base e size v n xs :=
  h.kept (grownBy_setCell' w b u) (.inr (own_ne h hb).symm)
theorem boxed_later {W W' : World} {B : Nat} {t : TypeId} {v : Value} (h : Boxed W B t v) (hb : Below W.heap.size W W') : Boxed W' B t v := (hb.block B h.lt).trans h
theorem boxed_other {W : World} {B b : Nat} {t : TypeId} {v : Value} (h : Boxed W B t v) (u : Value) (hne : B ≠ b) : Boxed (W.setCell ⟨b, 0, none⟩ u) B t v := (Below.heap_setCell W ⟨b, 0, none⟩ u B hne).trans h
/-- A slice in a box, and its rows. -/
structure Coll (w0 : World) (Bl base : Nat) (t e size : Nat) (n : Nat) (xs : List Value) (W : World) : Prop where
  ex : ∃ v, Boxed W Bl t v ∧ W.ownsRow base e size v n xs
  b : Below w0.heap.size w0 W
theorem Coll.start {w0 W : World} {Bl base t e size : Nat} (h : Boxed W Bl t (.slice none 0 0)) (hb : Below w0.heap.size w0 W) : Coll w0 Bl base t e size 0 [] W := ⟨⟨_, h, World.ownsRow_nil _ _ _ _⟩, hb⟩
theorem Coll.stands {β : Type} {w0 : World} {Bl base t e size : Nat} {T : Nat → Prop} (k : β → Nat) (f : β → List Value) (hT : ∀ b, T b → b ≠ Bl ∧ b < base ∧ w0.heap.size ≤ b) : Stands T (fun s W => Coll w0 Bl base t e size (k s) (f s) W) where
  below := fun _ _ _ ⟨⟨v, hv, hr⟩, hb⟩ h => ⟨⟨v, boxed_later hv h, own_later hr h⟩, hb.trans (h.mono hb.size)⟩
  put := fun _ _ b v hb ⟨⟨u, hv, hr⟩, hB⟩ => ⟨⟨u, boxed_other hv v (hT b hb).1.symm, own_set hr (hT b hb).2.1 v⟩, hB.setCell (hT b hb).2.2 _⟩
theorem Coll.bears {β : Type} {w0 : World} {Bl base t e size B : Nat} (k : β → Nat) (f : β → List Value) (hB : w0.heap.size ≤ B) : Bears B (fun s W => Coll w0 Bl base t e size (k s) (f s) W) :=
  fun _ W l o o' hl ho hc ⟨⟨v, hv, hr⟩, hb⟩ => ⟨⟨v, hv.kept (grownBy_putObj' W l o') (by intro e; cases e; rw [show W.heap[Bl]? = _ from hv] at ho; cases ho; cases hc), ownsRow_putObj hr o' ho hc⟩, hb.grown (grownBy_putObj' W l o') hb.size (fun j e => by cases e; omega)⟩
/-- What some boxes hold. -/
structure Bxs (w0 : World) (l : List (Nat × TypeId × Value)) (W : World) : Prop where
  all : ∀ x ∈ l, Boxed W x.1 x.2.1 x.2.2
  b : Below w0.heap.size w0 W
theorem Bxs.stands {β : Type} {w0 : World} {T : Nat → Prop} (f : β → List (Nat × TypeId × Value)) (hT : ∀ b s, T b → (∀ x ∈ f s, x.1 ≠ b) ∧ w0.heap.size ≤ b) : Stands T (fun s W => Bxs w0 (f s) W) where
  below := fun _ _ _ ⟨h, hb⟩ k => ⟨fun x hx => boxed_later (h x hx) k, hb.trans (k.mono hb.size)⟩
  put := fun s _ b v hb ⟨h, hB⟩ => ⟨fun x hx => boxed_other (h x hx) v ((hT b s hb).1 x hx), hB.setCell (hT b s hb).2 _⟩
theorem Bxs.bears {β : Type} {w0 : World} {B : Nat} (f : β → List (Nat × TypeId × Value)) (hB : w0.heap.size ≤ B) : Bears B (fun s W => Bxs w0 (f s) W) :=
  fun _ W l o o' hl ho hc ⟨h, hb⟩ => ⟨fun x hx => (h x hx).kept (grownBy_putObj' W l o') (by intro e; cases e; rw [show W.heap[x.1]? = _ from h x hx] at ho; cases ho; cases hc), hb.grown (grownBy_putObj' W l o') hb.size (fun j e => by cases e; omega)⟩
theorem Bxs.later {w0 W W' : World} {l : List (Nat × TypeId × Value)} (h : Bxs w0 l W) (k : Below W.heap.size W W') : Bxs w0 l W' := ⟨fun x hx => boxed_later (h.all x hx) k, h.b.trans (k.mono h.b.size)⟩
theorem Stands.pure {β : Type} {T : Nat → Prop} {J : β → World → Prop} (p : β → Prop) (h : Stands T J) : Stands T (fun s W => p s ∧ J s W) :=
  ⟨fun s W W' hs hb => ⟨hs.1, h.below s W W' hs.2 hb⟩, fun s W b v hT hs => ⟨hs.1, h.put s W b v hT hs.2⟩⟩
theorem Bears.pure {β : Type} {B : Nat} {J : β → World → Prop} (p : β → Prop) (h : Bears B J) : Bears B (fun s W => p s ∧ J s W) :=
  fun s W l o o' h1 h2 h3 hs => ⟨hs.1, h s W l o o' h1 h2 h3 hs.2⟩
/-- What stands behind 'l = append(l, ..)'. -/
theorem push {W w1 : World} {base Bl t e size k m : Nat} {v v' : Value} {xs ys : List Value} {tmp : Obj} (hv : Boxed W Bl t v) (hBl : Bl < base) (hb : base ≤ W.heap.size) (hrow : W.ownsRow base e size v k xs)
    (hown' : w1.ownsRow base e size v' m ys) (hgrow : (W.alloc tmp).grownBy w1 v.ownBlock) :
    Boxed w1 Bl t v ∧ Boxed (w1.setCell ⟨Bl, 0, none⟩ v') Bl t v' ∧ (w1.setCell ⟨Bl, 0, none⟩ v').ownsRow base e size v' m ys ∧ KeepsOthers W (w1.setCell ⟨Bl, 0, none⟩ v') ∧
      (∀ j, j < base → j ≠ Bl → (w1.setCell ⟨Bl, 0, none⟩ v').heap[j]? = W.heap[j]?) ∧ Below Bl W (w1.setCell ⟨Bl, 0, none⟩ v') := by
  have hj : ∀ j, j < base → w1.heap[j]? = W.heap[j]? := fun j h => (hgrow.block j (by simp; omega) (own_ne hrow h)).trans (Below.heap_alloc _ _ _ (by omega))
  have hv1 : Boxed w1 Bl t v := (hj Bl hBl).trans hv
  refine ⟨hv1, hv1.set v', own_set hown' hBl v', ?_, fun j h1 h2 => (Below.heap_setCell _ _ _ _ h2).trans (hj j h1), ?_⟩
  · refine ((KeepsOthers.alloc W tmp).trans (KeepsOthers.of_grownBy hgrow fun j o ej hj' => ?_)).trans (KeepsOthers.setCell _ _ _)
    rcases (hrow.alloc tmp).2 with ⟨rfl, _⟩ | ⟨g, cap, cur, rfl, _, hgb, _⟩
    · simp [Value.ownBlock] at ej
    · obtain rfl : g = j := by simpa [Value.ownBlock] using ej
      rw [hgb] at hj'; cases hj'; rfl
  · refine (((Below.refl Bl W).alloc (by omega) tmp).grown hgrow (by simp; omega) fun j ej => ?_).setCell (p := ⟨Bl, 0, none⟩) (Nat.le_refl _) v'
    rcases hrow.2 with ⟨rfl, _⟩ | ⟨g, cap, cur, rfl, hg, _, _⟩
    · simp [Value.ownBlock] at ej
    · obtain rfl : g = j := by simpa [Value.ownBlock] using ej
      omega
theorem own_form {w : World} {base e size n : Nat} {v : Value} {xs : List Value} (h : w.ownsRow base e size v n xs) (hn : 1 ≤ n) : ∃ g cap, v = .slice (some ⟨g, 0, none⟩) n cap := by
  rcases h.2 with ⟨_, h0⟩ | ⟨g, cap, cur, rfl, _⟩
  · omega
  · exact ⟨g, cap, rfl⟩
/-- A cell of a row that is owned. -/
theorem own_cell {w : World} {base e size n g cap : Nat} {xs : List Value} (h : w.ownsRow base e size (.slice (some ⟨g, 0, none⟩) n cap) n xs) : g < w.heap.size ∧ ∀ i v, xs[i]? = some v → w.cell? ⟨g, i, none⟩ = some v := by
  rcases h.2 with ⟨h0, _⟩ | ⟨g', cap', cur, hv, _, hh, _, _, hs, ht⟩
  · cases h0
  · obtain ⟨rfl, rfl⟩ : g = g' ∧ cap = cap' := by simpa using hv
    refine ⟨(Array.getElem?_eq_some_iff.1 hh).1, fun i v hi => ?_⟩
    rw [← ht, List.getElem?_take] at hi
    split at hi
    · simp only [World.cell?, hh]
      simpa using hi
    · cases hi
/-- A row of one cell just laid. -/
theorem own_one (W : World) (x : Value) (t base : Nat) (hb : base ≤ W.heap.size) : (W.alloc (.cells #[x] t)).ownsRow base t 1 (.slice (some ⟨W.heap.size, 0, none⟩) 1 1) 1 [x] :=
  ⟨rfl, .inr ⟨W.heap.size, 1, #[x], rfl, hb, World.alloc_heap_new W _, Nat.le_refl _, by unfold maxLen; omega, rfl, rfl⟩⟩
theorem one_new (W : World) (a : Value) (t : TypeId) : ∀ (j : Nat) (u : Value), [a][j]? = some u → (W.alloc (.cells #[a] t)).cell? (Addr.add ⟨W.heap.size, 0, none⟩ j) = some u := by
  intro j u h
  have e : Addr.add ⟨W.heap.size, 0, none⟩ j = ⟨W.heap.size, j, none⟩ := by unfold Addr.add; simp; exact fun h => h.symm
  rw [e]
  rcases j with _|j
  · simp at h; subst h; simp [go_sem]
  · simp at h
/-- Two cells just laid. -/
theorem two_new (W : World) (a b : Value) (t : TypeId) : ∀ (j : Nat) (u : Value), [a, b][j]? = some u → (W.alloc (.cells #[a, b] t)).cell? (Addr.add ⟨W.heap.size, 0, none⟩ j) = some u := by
  intro j u h
  have e : Addr.add ⟨W.heap.size, 0, none⟩ j = ⟨W.heap.size, j, none⟩ := by unfold Addr.add; simp; exact fun h => h.symm
  rw [e]
  rcases j with _|_|j
  · simp at h; subst h; simp [go_sem]
  · simp at h; subst h; simp [go_sem]
  · simp at h
end Go.Proofs.YtjlncjabiofklaaDoor.Rf
end
section
namespace Go.Proofs.YtjlncjabiofklaaDoor.Rf
open Go Go.RowKit
section
variable {P : Program} {Q : Exit → Act → World → Prop} {ops : Array Oper}
/-- Its place in one order that may be. -/
def rank (ops : Array Oper) (i : Nat) : Nat := (Region.linearise .any ops 0).idxOf i
def lowB (ops : Array Oper) : Bool := (List.range ops.size).all fun i => match ops[i]? with
  | some o => o.after.toList.all fun e => !(Region.binds .any e) || (decide (e.on < ops.size) && decide (rank ops e.on < rank ops i))
  | none => true
theorem low_of (h : lowB ops = true) {i : Nat} {o : Oper} (ho : ops[i]? = some o) {e : Edge} (he : e ∈ o.after) (hb : Region.binds .any e = true) : e.on < ops.size ∧ rank ops e.on < rank ops i := by
  have h1 := List.all_eq_true.1 h i (List.mem_range.2 (Array.getElem?_eq_some_iff.1 ho).1)
  simp only [ho] at h1
  have h2 := List.all_eq_true.1 h1 e (by simpa using he)
  simpa [hb] using h2
/-- How many have not come up. -/
def unl (n : Nat) (l : Array Bool) : Nat := (List.range n).countP fun i => !(l.getD i true)
theorem countP_lt {p q : Nat → Bool} : ∀ (l : List Nat) (i : Nat), i ∈ l → (∀ x, q x = true → p x = true) → p i = true → q i = false → l.countP q < l.countP p
  | x :: l, i, hi, hqp, hp, hq => by
    have hle : l.countP q ≤ l.countP p := List.countP_mono_left fun x _ h => hqp x h
    rw [List.countP_cons, List.countP_cons]
    rcases List.mem_cons.1 hi with rfl | hi
    · rw [if_pos hp, if_neg (by simp [hq])]; omega
    · have := countP_lt l i hi hqp hp hq
      by_cases h1 : q x = true
      · rw [if_pos h1, if_pos (hqp x h1)]; omega
      · rw [if_neg h1]; split <;> omega
theorem getD_set_self {l : Array Bool} {i : Nat} : (l.setIfInBounds i true).getD i true = true := by
  rcases Nat.lt_or_ge i l.size with h | h
  · simp [h]
  · simp [Nat.not_lt.2 h]
theorem getD_set_upd (l : Array Bool) (i : Nat) : (fun k => (l.setIfInBounds i true).getD k true) = fun k => k == i || l.getD k true := by
  funext k
  by_cases h : k = i
  · subst h; rw [getD_set_self]; simp
  · rw [getD_set_ne true (Ne.symm h)]; simp [h]
theorem getD_true {l : Array Bool} {k : Nat} (h : l.getD k false = true) : l.getD k true = true := by
  rcases Nat.lt_or_ge k l.size with h' | h'
  · simpa [h'] using h
  · simp [Array.getElem?_eq_none h']
theorem unl_set {n i : Nat} {l : Array Bool} (hi : i < n) (h : l.getD i true = false) : unl n (l.setIfInBounds i true) < unl n l := by
  refine countP_lt _ i (List.mem_range.2 hi) (fun x hx => ?_) (by rw [h]; rfl) (by rw [getD_set_self]; rfl)
  by_cases hxi : x = i
  · subst hxi; rw [getD_set_self] at hx; cases hx
  · rwa [getD_set_ne true (Ne.symm hxi)] at hx
theorem all_of_ready (hl : lowB ops = true) {l : Array Bool} (hs : l.size = ops.size) (h : Region.ready .any ops l = []) : ∀ k, k < ops.size → l.getD k true = true := by
  have main : ∀ n k, rank ops k = n → k < ops.size → l.getD k true = true := by
    intro n
    induction n using Nat.strongRecOn with
    | ind n ih =>
      intro k hn hk
      cases hb : l.getD k true with
      | true => rfl
      | false =>
        have hin : k ∈ Region.ready .any ops l := mem_ready.2 ⟨hb, ops[k], by simp [hk], fun e he hbi => by
          obtain ⟨hlt, hr⟩ := low_of hl (o := ops[k]) (i := k) (by simp [hk]) he hbi
          have h1 := ih (rank ops e.on) (by omega) e.on rfl hlt
          have h2 : e.on < l.size := by omega
          simpa [h2] using h1⟩
        rw [h] at hin
        cases hin
  exact fun k hk => main _ k rfl hk
/-- What one operation owes. -/
def Step (P : Program) (ops : Array Oper) (Q : Exit → Act → World → Prop) (I : (Nat → Bool) → Act → World → Prop) (i : Nat) (o : Oper) : Prop :=
  ∀ (L : Nat → Bool) (a : Act) (w : World), I L a w → L i = false → (∀ e ∈ o.after, Region.binds .any e = true → L e.on = true) → ∀ K' : Act → World → Prop, Shut (∀ a' w', I (fun k => k == i || L k) a' w' → K' a' w') →
    if Region.wanted o (yielded ops a.tmps) = true then Oper.wp P o a w K' Q else K' (a.put o.dst undef) w
theorem any_inv {I : (Nat → Bool) → Act → World → Prop} (hl : lowB ops = true) (step : ∀ i o, ops[i]? = some o → Step P ops Q I i o)
    (fin : ∀ (L : Nat → Bool) (a : Act) (w : World), I L a w → (∀ k, k < ops.size → L k = true) → Q .normal a w) :
    ∀ (fuel : Nat) (l : Array Bool) (a : Act) (w : World), l.size = ops.size → unl ops.size l ≤ fuel → I (fun k => l.getD k true) a w → wpAny P .any ops Q fuel l a w
  | 0, l, a, w, hs, hu, hI => by
    have hall : ∀ k, k < ops.size → l.getD k true = true := fun k hk => by
      cases hb : l.getD k true with
      | true => rfl
      | false => have := unl_set (n := ops.size) hk hb; omega
    refine ⟨?_, fin _ a w hI hall⟩
    refine List.eq_nil_iff_forall_not_mem.2 fun k hk => ?_
    obtain ⟨h0, o, ho, _⟩ := mem_ready.1 hk
    rw [hall k (Array.getElem?_eq_some_iff.1 ho).1] at h0
    cases h0
  | fuel + 1, l, a, w, hs, hu, hI => by
    refine ⟨fun h => fin _ a w hI (all_of_ready hl hs h), fun i hi => ?_⟩
    obtain ⟨h0, o, ho, hall⟩ := mem_ready.1 hi
    have hlt := (Array.getElem?_eq_some_iff.1 ho).1
    have h2 := unl_set (n := ops.size) hlt h0
    exact wpOp_step ho fun K' hK => step i o ho _ a w hI h0 (fun e he hb => getD_true (hall e he hb)) K' fun a' w' h' => hK a' w' (any_inv hl step fin fuel _ a' w' (by simpa using hs) (by omega) (by rw [getD_set_upd]; exact h'))
/-- The operations from number k on. -/
def Steps (P : Program) (ops : Array Oper) (Q : Exit → Act → World → Prop) (I : (Nat → Bool) → Act → World → Prop) (k : Nat) (l : List Oper) : Prop := ∀ j o, l[j]? = some o → Step P ops Q I (k + j) o
theorem Steps.nil {I : (Nat → Bool) → Act → World → Prop} {k : Nat} : Steps P ops Q I k [] := fun _ _ h => by simp at h
theorem Steps.cons {I : (Nat → Bool) → Act → World → Prop} {k i : Nat} {l : List Oper} {o : Oper} (hk : k = i) (h : Step P ops Q I i o) (hs : Steps P ops Q I (i + 1) l) : Steps P ops Q I k (o :: l) := fun j o' hj => by
  subst hk
  cases j with
  | zero => simp at hj; subst hj; exact h
  | succ j =>
    have := hs j o' (by simpa using hj)
    rwa [show k + 1 + j = k + (j + 1) by omega] at this
/-- THE LAW: an invariant of what has come up, the frame, the world. -/
theorem wp_region_inv {I : Act → (Nat → Bool) → Act → World → Prop} {id : Nat} {a : Act} {w : World} (hm : P.follows .mixedOrders = true) (hl : lowB ops = true)
    (h0 : ∀ L : Nat → Bool, (∀ k, k < ops.size → L k = false) → I a L a w.drew) (steps : Steps P ops Q (I a) 0 ops.toList)
    (fin : ∀ (L : Nat → Bool) (a' : Act) (w : World), I a L a' w → (∀ k, k < ops.size → L k = true) → Q .normal a' w) : (Code.region id ops true).wp P Q a w :=
  wp_region_any hm (any_inv hl (fun i o ho => by have := steps i o (by simpa using ho); rwa [Nat.zero_add] at this) fin ops.size (Array.replicate ops.size false) a w.drew (by simp)
    (by unfold unl; exact Nat.le_trans List.countP_le_length (by simp)) (h0 _ fun k hk => by simp [hk]))
/-- A frame with some slots as told. -/
def putAll (a : Act) : List (Tmp × Value) → Act
  | [] => a
  | p :: l => putAll (a.put (some p.1) p.2) l
end
end Go.Proofs.YtjlncjabiofklaaDoor.Rf
end
