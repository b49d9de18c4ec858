/- Package drive: a drive in memory; what stays of the world. -/
import Derived.Test.YtnfjgmdpokpbbaaDoorDvMem
import Derived.Deep.Draws
namespace Go.Proofs.YtnfjgmdpokpbbaaDoor.Dv
open Go Go.RowKit
abbrev TD : TypeId := 67
abbrev TS : TypeId := 78
abbrev TW : TypeId := 80
/-- Where a pointer points to. -/
def ptrB : Value → Option Nat
  | .pointer (some a) => some a.block
  | _ => none
/-- The fuse in memory. -/
def Fu (w : World) (fv : Value) (F : Option Nat) : Prop :=
  (F = none ∧ fv = .pointer none) ∨ ∃ b k, F = some k ∧ fv = .pointer (some ⟨b, 0, none⟩) ∧ Rw w b 3 [.int .i64 (k : Int)]
/-- The blocks of a drive. -/
def Bs (g bv bd : Nat) (pv fv : Value) (k : Nat) : Prop := k = g ∨ k = bv ∨ k = bd ∨ pv.ownBlock = some k ∨ ptrB fv = some k
/-- A drive in memory. -/
structure AtV (w : World) (g bv bd : Nat) (pv fv : Value) (V : List Sec) (x : Dr) : Prop where
  blk : Rw w g TD [.slice (some ⟨bv, 0, none⟩) x.n x.n, .slice (some ⟨bd, 0, none⟩) x.n x.n, pv, fv]
  v : Rw w bv TS (flat V)
  d : Rw w bd TS (flat x.D)
  p : w.ownsRow 0 TW 65 pv x.P.length (flatP x.P)
  f : Fu w fv x.F
  ne : bv ≠ bd
abbrev At (w : World) (g bv bd : Nat) (pv fv : Value) (x : Dr) : Prop := AtV w g bv bd pv fv x.V x
/-- What is kept but for some blocks. -/
structure Keeps (T : Nat → Prop) (w w' : World) : Prop where
  os : w'.os = w.os
  tape : w'.tape = w.tape
  output : w'.output = w.output
  size : w.heap.size ≤ w'.heap.size
  block : ∀ k, k < w.heap.size → ¬ T k → w'.heap[k]? = w.heap[k]?
section
variable {T S : Nat → Prop} {w w' w'' : World} {b o : Nat} {t : TypeId} {L : List Value}
theorem Keeps.refl (T : Nat → Prop) (w : World) : Keeps T w w := ⟨rfl, rfl, rfl, Nat.le_refl _, fun _ _ _ => rfl⟩
theorem Keeps.of (T : Nat → Prop) (h : Below w.heap.size w w') : Keeps T w w' := ⟨h.os, h.tape, h.output, h.size, fun k hk _ => h.block k hk⟩
theorem Keeps.trans (h : Keeps T w w') (k : Keeps T w' w'') : Keeps T w w'' :=
  ⟨k.os.trans h.os, k.tape.trans h.tape, k.output.trans h.output, Nat.le_trans h.size k.size, fun j hj hT => (k.block j (Nat.lt_of_lt_of_le hj h.size) hT).trans (h.block j hj hT)⟩
/-- Blocks that are new may be written. -/
theorem Keeps.then (h : Keeps T w w') (k : Keeps S w' w'') (hS : ∀ j, S j → T j ∨ w.heap.size ≤ j) : Keeps T w w'' :=
  ⟨k.os.trans h.os, k.tape.trans h.tape, k.output.trans h.output, Nat.le_trans h.size k.size, fun j hj hT => (k.block j (Nat.lt_of_lt_of_le hj h.size) (fun hs => (hS j hs).elim hT (fun hl => by omega))).trans (h.block j hj hT)⟩
theorem Keeps.mono (h : Keeps T w w') (hS : ∀ j, T j → S j ∨ w.heap.size ≤ j) : Keeps S w w' := (Keeps.refl S w).then h hS
theorem Keeps.below {lo : Nat} (h : Keeps T w w') (hT : ∀ j, T j → lo ≤ j) (hl : lo ≤ w.heap.size) : Below lo w w' := ⟨h.os, h.tape, h.output, h.size, fun k hk => h.block k (by omega) fun ht => by have := hT k ht; omega⟩
theorem Keeps.belowT {lo : Nat} {a : World} (h : Below lo a w) (k : Keeps T w w') (hT : ∀ j, T j → lo ≤ j) (hl : lo ≤ w.heap.size) : Below lo a w' := h.trans (k.below hT hl)
theorem Keeps.drew (h : Keeps T w w') : Keeps T w w'.drew := ⟨h.os, h.tape, h.output, h.size, h.block⟩
theorem Keeps.drewN (h : Keeps T w w') (n : Nat) : Keeps T w (w'.drewN n) := ⟨h.os, h.tape, h.output, h.size, h.block⟩
theorem Keeps.alloc (h : Keeps T w w') (o : Obj) : Keeps T w (w'.alloc o) := h.trans (Keeps.of T ((Below.refl _ w').alloc (Nat.le_refl _) o))
theorem Keeps.setCells (h : Keeps T w w') (g o : Nat) (cs : List Value) (hg : T g ∨ w.heap.size ≤ g) : Keeps T w (w'.setCells g o cs) :=
  h.then (S := fun k => k = g) ⟨World.os_setCells .., (setCells_keeps g cs o w').1, World.output_setCells .., by rw [(setCells_keeps g cs o w').2]; exact Nat.le_refl _, fun k hk hne => World.heap_setCells_other w' g o cs hk hne⟩ fun j hj => by subst hj; exact hg
theorem Keeps.setCell (h : Keeps T w w') (g o : Nat) (v : Value) (hg : T g ∨ w.heap.size ≤ g) : Keeps T w (w'.setCell ⟨g, o, none⟩ v) :=
  h.then (S := fun k => k = g) ⟨rfl, rfl, rfl, by simp [World.setCell], fun k hk hne => Below.heap_setCell w' ⟨g, o, none⟩ v k hne⟩ fun j hj => by subst hj; exact hg
theorem Keeps.grown {row : Option Nat} (h : Keeps T w w') (hg : w'.grownBy w'' row) (hr : ∀ k, row = some k → T k ∨ w.heap.size ≤ k) : Keeps T w w'' :=
  h.then (S := fun k => row = some k) ⟨hg.os, hg.tape, hg.output, hg.size, fun k hk hne => hg.block k hk fun e => hne e.symm⟩ hr
theorem Rw.keeps (h : Rw w b t L) (k : Keeps T w w') (hb : ¬ T b) : Rw w' b t L := h.of (k.block b h.lt hb)
end
theorem Fu.keeps {T : Nat → Prop} {w w' : World} {fv : Value} {F : Option Nat} (h : Fu w fv F) (k : Keeps T w w') (hT : ∀ j, ptrB fv = some j → ¬ T j) : Fu w' fv F := by
  rcases h with h | ⟨b, n, h1, rfl, h3⟩
  · exact .inl h
  · exact .inr ⟨b, n, h1, rfl, h3.keeps k (hT b rfl)⟩
theorem own_keeps {T : Nat → Prop} {w w' : World} {base e size n : Nat} {v : Value} {xs : List Value} (h : w.ownsRow base e size v n xs) (k : Keeps T w w') (hT : ∀ j, v.ownBlock = some j → ¬ T j) : w'.ownsRow base e size v n xs := by
  rcases id h.2 with ⟨rfl, h0⟩ | ⟨g, cap, cur, rfl, hg, hb, hr⟩
  · exact ⟨h.1, .inl ⟨rfl, h0⟩⟩
  · exact ⟨h.1, .inr ⟨g, cap, cur, rfl, hg, (k.block g (Array.getElem?_eq_some_iff.1 hb).1 (hT g rfl)).trans hb, hr⟩⟩
theorem AtV.keeps {T : Nat → Prop} {w w' : World} {g bv bd : Nat} {pv fv : Value} {V : List Sec} {x : Dr} (h : AtV w g bv bd pv fv V x) (k : Keeps T w w') (hT : ∀ j, Bs g bv bd pv fv j → ¬ T j) : AtV w' g bv bd pv fv V x :=
  ⟨h.blk.keeps k (hT g (.inl rfl)), h.v.keeps k (hT bv (.inr (.inl rfl))), h.d.keeps k (hT bd (.inr (.inr (.inl rfl)))), own_keeps h.p k fun j hj => hT j (.inr (.inr (.inr (.inl hj)))), h.f.keeps k fun j hj => hT j (.inr (.inr (.inr (.inr hj)))), h.ne⟩
theorem AtV.lt {w : World} {g bv bd : Nat} {pv fv : Value} {V : List Sec} {x : Dr} (h : AtV w g bv bd pv fv V x) : ∀ j, Bs g bv bd pv fv j → j < w.heap.size := by
  intro j hj
  rcases hj with rfl | rfl | rfl | hj | hj
  · exact h.blk.lt
  · exact h.v.lt
  · exact h.d.lt
  · exact (h.p.lt j hj).2
  · rcases h.f with ⟨_, rfl⟩ | ⟨b, n, _, rfl, h3⟩
    · cases hj
    · cases hj; exact h3.lt
theorem AtV.later {w w' : World} {g bv bd : Nat} {pv fv : Value} {V : List Sec} {x : Dr} (h : AtV w g bv bd pv fv V x) (k : Below w.heap.size w w') : AtV w' g bv bd pv fv V x := h.keeps (Keeps.of (fun _ => False) k) fun _ _ h => h
end Go.Proofs.YtnfjgmdpokpbbaaDoor.Dv
