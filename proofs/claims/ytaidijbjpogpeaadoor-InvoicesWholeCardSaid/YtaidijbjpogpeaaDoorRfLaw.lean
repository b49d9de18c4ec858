/- A range over a function whose iterator keeps what it has come to in cells of its own: the statement's law. -/
import Derived.RangeFuncNested
import Derived.RangeFuncBound
import Derived.RangeFuncCalls
import Derived.RangeFuncLeaves
namespace Go.Proofs.YtaidijbjpogpeaaDoor.Rf
open Go Go.RowKit

/-- What stands whatever an iterator does: calls, new blocks, and stores into blocks of T. -/
structure Stands {β : Type} (T : Nat → Prop) (J : β → World → Prop) : Prop where
  below : ∀ s W W', J s W → Below W.heap.size W W' → J s W'
  put : ∀ s W b v, T b → J s W → J s (W.setCell ⟨b, 0, none⟩ v)
/-- What stands whatever becomes of the records that a loop lays from B on. -/
def Bears {β : Type} (B : Nat) (J : β → World → Prop) : Prop :=
  ∀ s W l o o', B ≤ l → W.heap[l]? = some o → o.isCells = false → J s W → J s (W.putObj l o')
/-- What an iterator promises: one yield for each element, as Ok lets it come. -/
def Yields {α : Type} (P : Program) (g : Nat) (lb : Array Value) (encs : α → Array Value) (T : Nat → Prop) (Kp : World → World → Prop) (S Sp : List α → Prop) (Ok : List α → α → Prop) (W0 : World) : Prop :=
  ∀ (l : Nat) (J Jx : List α → World → Prop) (W : World), Below W0.heap.size W0 W → Stands T J → Stands T Jx →
    (∀ pre x W1, J pre W1 → Ok pre x → YieldAt Fence.wide 2 P l (encs x) W1 fun e W' =>
      (e = .returned (.bool true) ∧ J (pre ++ [x]) W' ∧ Kp W1 W') ∨ (e = .returned (.bool false) ∧ Jx (pre ++ [x]) W')) →
    J [] W →
    CallsIn Fence.wide 3 P g (#[.func (.yield l) #[] #[]] ++ lb) W fun e W' => (∃ v, e = .returned v) ∧ ((∃ xs, S xs ∧ J xs W') ∨ (∃ pre, Sp pre ∧ Jx pre W'))

theorem not_cells_put {W : World} {k b : Nat} {o : Obj} (v : Value) (h : W.heap[k]? = some o) (ho : o.isCells = false) : (W.setCell ⟨b, 0, none⟩ v).heap[k]? = some o :=
  (KeepsOthers.setCell W ⟨b, 0, none⟩ v).same k o h ho
theorem lies_below {W W' : World} {k : Nat} {o : Obj} (h : W.heap[k]? = some o) (hb : Below W.heap.size W W') : W'.heap[k]? = some o :=
  (hb.block k (Array.getElem?_eq_some_iff.1 h).1).trans h

/-- Both records lie, in a state. -/
def Recs (d : Nat) (r : Loop) (W : World) : Prop := W.heap[d + 1]? = some (.loop r) ∧ W.heap[d]? = some (.deferred (some []))
theorem Recs.stands {β : Type} (T : Nat → Prop) (d : Nat) (r : Loop) : Stands (β := β) T (fun _ W => Recs d r W) :=
  ⟨fun _ _ _ h hb => ⟨lies_below h.1 hb, lies_below h.2 hb⟩, fun _ _ _ v _ h => ⟨not_cells_put v h.1 rfl, not_cells_put v h.2 rfl⟩⟩
theorem Recs.put {d : Nat} {r : Loop} {W : World} (h : Recs d r W) (r' : Loop) : Recs d r' (W.putObj (d + 1) (.loop r')) :=
  ⟨World.putObj_heap_same (Array.getElem?_eq_some_iff.1 h.1).1, (World.putObj_heap_other (by omega)).trans h.2⟩
theorem Recs.kept {d B : Nat} {r : Loop} {W W' : World} (h : Recs d r W) (hB : B ≤ d) (hk : KeepsFrom B W W') : Recs d r W' :=
  ⟨hk.same _ _ (by omega) h.1 rfl, hk.same _ _ hB h.2 rfl⟩
theorem Stands.and {β : Type} {T : Nat → Prop} {J K : β → World → Prop} (h : Stands T J) (k : Stands T K) : Stands T (fun s W => J s W ∧ K s W) :=
  ⟨fun s W W' hs hb => ⟨h.below s W W' hs.1 hb, k.below s W W' hs.2 hb⟩, fun s W b v hT hs => ⟨h.put s W b v hT hs.1, k.put s W b v hT hs.2⟩⟩
theorem Stands.ex {β γ : Type} {T : Nat → Prop} {J : γ → β → World → Prop} (h : ∀ c, Stands T (J c)) : Stands T (fun s W => ∃ c, J c s W) :=
  ⟨fun s W W' ⟨c, hs⟩ hb => ⟨c, (h c).below s W W' hs hb⟩, fun s W b v hT ⟨c, hs⟩ => ⟨c, (h c).put s W b v hT hs⟩⟩

/-- The statement, over an iterator that keeps its promise. -/
theorem law {α : Type} {P : Program} {g : Operand} {ps : Array Tmp} {assign body : Code} {Q : Exit → Act → World → Prop} {a : Act} {w : World} {gf : Nat} {lb : Array Value}
    (hg : a.eval g = .func (.func gf) #[] lb) (eg : ∀ args w, (callFunc gf args).run P w = .ok (.enter gf args) w)
    {encs : α → Array Value} {T : Nat → Prop} {Kp : World → World → Prop} {S Sp : List α → Prop} {Ok : List α → α → Prop} {W0 : World} (hseq : Yields P gf lb encs T Kp S Sp Ok W0) (hb0 : Below W0.heap.size W0 w)
    (hKt : ∀ A B C : World, Kp A B → Kp B C → Kp A C) (hKb : ∀ (W : World) (l : Nat) (o o' : Obj), w.heap.size ≤ l → W.heap[l]? = some o → o.isCells = false → Kp W (W.putObj l o'))
    (hps : ∀ x, (encs x).size = ps.size)
    (I : List α → World → Prop) (Ix : Code → List α → World → Prop) (hI : Bears w.heap.size I) (hIx : ∀ c, Bears w.heap.size (Ix c)) (sI : Stands T I) (sIx : ∀ c, Stands T (Ix c)) (h0 : I [] w) (a₁ : α → Act)
    (hassign : ∀ (l : Nat) (x : α) (W : World) (K : Act → World → Prop), K (a₁ x) W →
      assign.wpIn (Fence.wide.inRound l) 2 P (Exit.then K (fun _ _ _ => False)) { tmps := (ps.zip (encs x)).foldl (fun t (p, v) => t.setIfInBounds p v) a.tmps, defers := [] } W)
    (hbody : ∀ (l : Nat) (pre : List α) (x : α) (W : World), I pre W → Ok pre x → w.heap.size + 1 < W.heap.size → body.wpIn (Fence.wide.inRound l) 2 P (ownPostG w.heap.size Kp I Ix (pre ++ [x]) W) (a₁ x) W)
    (hdone : ∀ (xs : List α) (W : World), S xs → I xs W → W.heap[w.heap.size]? = some (.deferred (some [])) → Q .normal { a with defers := { target := .collected w.heap.size, args := #[] } :: a.defers } W)
    (hstop : ∀ (c : Code) (pre : List α) (W : World), Sp pre → Ix c pre W → W.heap[w.heap.size]? = some (.deferred (some [])) → c.wpIn Fence.wide 4 P Q { a with defers := { target := .collected w.heap.size, args := #[] } :: a.defers } W) :
    (Code.rangeFunc g ps assign body).wpIn Fence.wide 4 P Q a w := by
  refine wpIn_rangeFunc fun fn hfn => ?_
  obtain ⟨d, hd⟩ : ∃ d, w.heap.size = d := ⟨_, rfl⟩
  obtain ⟨R, hR⟩ : ∃ R : LoopState → Option Code → Loop, R = fun st pe => { state := st, pending := pe, fn, tmps := a.tmps, params := ps, assign, body, defers := d } := ⟨_, rfl⟩
  obtain ⟨W1, hW1⟩ : ∃ W1, (w.alloc (.deferred (some []))).alloc (.loop (R .ready none)) = W1 := ⟨_, rfl⟩
  have hbW : Below w.heap.size w W1 := by rw [← hW1]; exact ((Below.refl _ w).alloc (Nat.le_refl _) _).alloc (by simp) _
  have hrec : Recs d (R .ready none) W1 := by
    rw [← hW1, ← hd]
    refine ⟨?_, (Below.heap_alloc _ _ _ (by simp)).trans (World.alloc_heap_new w _)⟩
    have := World.alloc_heap_new (w.alloc (.deferred (some []))) (.loop (R .ready none)); rwa [World.size_alloc] at this
  have hent : (Instr.enterLoop fn a.tmps ps assign body none).run P w = .ok (d + 1, [{ target := .collected d, args := #[] }]) W1 := by
    have h := run_enterLoop_outer (P := P) (w := w) fn a.tmps ps assign body
    rw [hd] at h
    rw [h, ← hW1, hR]
  rw [hd] at hI hIx hKb hbody hdone hstop
  refine ⟨d + 1, [{ target := .collected d, args := #[] }], W1, { target := .fn (.func gf) lb, args := #[.func (.yield (d + 1)) #[] #[]] }, W1, gf, #[.func (.yield (d + 1)) #[] #[]] ++ lb, W1,
    hent, ?_, ?_, ?_, fun _ => by omega, ?_⟩
  · simp only [resolve, hg]
    simp [go_sem]
  · intro f' hf'; trivial
  · simp [invoke, go_sem, eg]
  refine (hseq (d + 1) (fun pre W => I pre W ∧ Recs d (R .ready none) W) (fun pre W => ∃ c, Ix c pre W ∧ Recs d (R .done (some c)) W) W1 (hb0.trans (hbW.mono hb0.size))
    (sI.and (Recs.stands T d _)) (Stands.ex fun c => (sIx c).and (Recs.stands T d _)) ?_ ⟨sI.below _ _ _ h0 hbW, hrec⟩).mono ?_
  · rintro pre x W ⟨hi, hr⟩ hok
    have hy := run_yield (P := P) (args := encs x) hr.1 (by rw [hR]; exact hps x)
    rw [hR] at hy
    have hrb : Recs d (R .busy none) (W.putObj (d + 1) (.loop (R .busy none))) := hr.put _
    have hbr : (Instr.beginRound (d + 1)).run P W = .ok () (W.putObj (d + 1) (.loop (R .busy none))) := by
      have := run_beginRound (P := P) hr.1 (by rw [hR]); rw [hR] at this ⊢; exact this
    refine ⟨fn, _, assign, body, hy, roundIn_of_wpIn hfn (hassign _ x W _ ⟨_, hbr, ?_⟩)⟩
    have hK1 : Kp W (W.putObj (d + 1) (.loop (R .busy none))) := hKb _ _ _ _ (by omega) hr.1 rfl
    have hi1 : I pre (W.putObj (d + 1) (.loop (R .busy none))) := hI _ _ _ _ _ (by omega) hr.1 rfl hi
    refine wpIn_mono (hbody _ pre x _ hi1 hok (by simp; exact (Array.getElem?_eq_some_iff.1 hr.1).1)) ?_
    have fin : ∀ (jump : Option Code) (W3 : World), KeepsFrom d (W.putObj (d + 1) (.loop (R .busy none))) W3 →
        (Instr.endRound (d + 1) jump).run P W3 = .ok (.bool jump.isNone) (W3.putObj (d + 1) (.loop (R (if jump.isNone then .ready else .done) jump))) ∧ Recs d (R .busy none) W3 := fun jump W3 hk => by
      have h3 := hrb.kept (Nat.le_refl _) hk
      have := run_endRound (P := P) jump h3.1
      rw [hR] at this ⊢
      exact ⟨this, by rw [hR] at h3; exact h3⟩
    have out : ∀ (c : Code) (W3 : World), KeepsFrom d (W.putObj (d + 1) (.loop (R .busy none))) W3 → Ix c (pre ++ [x]) W3 → ∃ v w', (Instr.endRound (d + 1) (some c)).run P W3 = .ok v w' ∧
        ((Ending.returned v = .returned (.bool true) ∧ (I (pre ++ [x]) w' ∧ Recs d (R .ready none) w') ∧ Kp W w') ∨ (Ending.returned v = .returned (.bool false) ∧ ∃ c, Ix c (pre ++ [x]) w' ∧ Recs d (R .done (some c)) w')) := fun c W3 hk hix => by
      obtain ⟨h1, h3⟩ := fin (some c) W3 hk
      exact ⟨_, _, h1, .inr ⟨rfl, c, hIx c _ _ _ _ _ (by omega) h3.1 rfl hix, h3.put _⟩⟩
    rintro e a3 W3 hp
    cases e with
    | normal =>
      obtain ⟨hk, hkp, hi3⟩ := hp
      obtain ⟨h1, h3⟩ := fin none W3 hk
      exact ⟨_, _, h1, .inl ⟨rfl, ⟨hI _ _ _ _ _ (by omega) h3.1 rfl hi3, h3.put _⟩, hKt _ _ _ (hKt _ _ _ hK1 hkp) (hKb _ _ _ _ (by omega) h3.1 rfl)⟩⟩
    | ret => exact out _ W3 hp.1 hp.2
    | exit id => exact out _ W3 hp.1 hp.2
    | goto t => exact out _ W3 hp.1 hp.2
    | panic ch => exact hp.elim
    | outgrown => exact hp.elim
  · rintro e W2 ⟨⟨v, rfl⟩, (⟨xs, hS, hi, hr⟩ | ⟨pre, hSp, c, hi, hr⟩)⟩
    · have := run_endLoop (P := P) hr.1 (by rw [hR]; simp)
      rw [hR] at this
      exact ⟨none, _, this, hdone xs _ hS (hI _ _ _ _ _ (by omega) hr.1 rfl hi) ((World.putObj_heap_other (by omega)).trans hr.2)⟩
    · have := run_endLoop (P := P) hr.1 (by rw [hR]; simp)
      rw [hR] at this
      exact ⟨some c, _, this, hstop c pre _ hSp (hIx c _ _ _ _ _ (by omega) hr.1 rfl hi) ((World.putObj_heap_other (by omega)).trans hr.2)⟩
end Go.Proofs.YtaidijbjpogpeaaDoor.Rf
