/- Package chart: a chart in memory. -/
import Derived.Test.YtialclecoamobaaRows
import Derived.Test.YtialclecoamobaaChMath
import Derived.Test.YtialclecoamobaaCkKit
namespace Go.Proofs.Ytialclecoamobaa.Ch
open Go Go.RowKit Ck Go.Maps
abbrev TCh : TypeId := 52
abbrev TInt : TypeId := 3
abbrev TMap : TypeId := 48
abbrev TAcc : TypeId := 59
theorem law : Keyed Try.prog TInt := int_keyed Try.underlying3
theorem zeroA (w : World) : (zeroValue TAcc).run Try.prog w = .ok Acc.zero.val w := by kernel_rfl
theorem infoInt : (Try.prog.info? TInt).map (fun i => (i.zero, i.size, i.bytes)) = some (some (.int .i64 0), 1, 8) := by kernel_rfl
def I64 (k : Int) : Prop := -9223372036854775808 ≤ k ∧ k ≤ 9223372036854775807
theorem wf_of {k : Int} (h : I64 k) : (Lit.int .i64 k).wf = true := by
  unfold I64 at h
  exact WalkArith.wf_i64 h
theorem key_of {k : Int} (h : I64 k) : keyOf Try.prog TInt (.int .i64 k) = some (.int .i64 k) := keyOf_int_mk Try.underlying3 (wf_of h)
abbrev iv (k : Int) : Value := .int .i64 k
/-- A chart: its box, its map, its codes. -/
structure At (w : World) (c bm : Nat) (tv : Value) (n : Nat) (M : Int → Option Acc) (K : List Int) : Prop where
  blk : Rw w c TCh [.map (some bm), tv]
  mp : ∃ D : DataW Unit, w.ownsMap Try.prog TInt accR bm n D ∧ Ag D M
  own : w.ownsRow 0 TInt 1 tv K.length (K.map iv)
  ks : Ks M K
section
variable {w w' : World} {c bm n : Nat} {tv : Value} {M : Int → Option Acc} {K : List Int}
theorem map_keeps {T : Nat → Prop} {D : DataW Unit} (h : w.ownsMap Try.prog TInt accR bm n D) (k : Keeps T w w') (hT : ¬ T bm) : w'.ownsMap Try.prog TInt accR bm n D := by
  have hlt := h.lt
  obtain ⟨es, clock, hb, r⟩ := h
  exact ⟨es, clock, (k.block bm hlt hT).trans hb, r⟩
/-- Its blocks. -/
def Bs (c bm : Nat) (tv : Value) (j : Nat) : Prop := j = c ∨ j = bm ∨ tv.ownBlock = some j
theorem At.keeps {T : Nat → Prop} (h : At w c bm tv n M K) (k : Keeps T w w') (hT : ∀ j, Bs c bm tv j → ¬ T j) : At w' c bm tv n M K := by
  obtain ⟨D, h1, h2⟩ := h.mp
  exact ⟨h.blk.keeps k (hT c (.inl rfl)), ⟨D, map_keeps h1 k (hT bm (.inr (.inl rfl))), h2⟩, own_keeps h.own k fun j hj => hT j (.inr (.inr hj)), h.ks⟩
theorem At.later (h : At w c bm tv n M K) (k : Below w.heap.size w w') : At w' c bm tv n M K := h.keeps (Keeps.of (fun _ => False) k) fun _ _ h => h
theorem At.lt (h : At w c bm tv n M K) : ∀ j, Bs c bm tv j → j < w.heap.size := by
  obtain ⟨D, h1, h2⟩ := h.mp
  rintro j (rfl | rfl | hj)
  · exact h.blk.lt
  · exact h1.lt
  · exact (h.own.lt j hj).2
theorem At.ne (h : At w c bm tv n M K) : c ≠ bm ∧ tv.ownBlock ≠ some c ∧ tv.ownBlock ≠ some bm := by
  obtain ⟨D, ⟨es, clock, hb, _⟩, _⟩ := h.mp
  refine ⟨fun e => ?_, own_type h.own h.blk (by decide), fun e => ?_⟩
  · have h1 : w.heap[c]? = some (.cells [Value.map (some bm), tv].toArray TCh (0, 0)) := h.blk
    rw [e] at h1
    have := h1.symm.trans hb
    injection this with this
    cases this
  · rcases h.own.2 with ⟨rfl, _⟩ | ⟨g, cap, cur, rfl, _, hg, _⟩
    · cases e
    · injection e with e
      subst e
      have := hg.symm.trans hb
      injection this with this
      cases this
end
end Go.Proofs.Ytialclecoamobaa.Ch
