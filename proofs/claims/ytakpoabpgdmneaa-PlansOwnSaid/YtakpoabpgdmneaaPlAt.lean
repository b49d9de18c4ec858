/- Package plans: a catalog in memory. -/
import Derived.Test.YtakpoabpgdmneaaPlMap
namespace Go.Proofs.Ytakpoabpgdmneaa.Pl
open Go Go.RowKit Ck Go.Maps
abbrev TCat : TypeId := 61
abbrev TU : TypeId := 28
abbrev TUs : TypeId := 59
abbrev TMap : TypeId := 58
theorem law : Keyed Try.prog TU := int_keyed Try.underlying28
theorem zeroPl (w : World) : (zeroValue TPlan).run Try.prog w = .ok Pv.zero.val w := by kernel_rfl
theorem infoU : (Try.prog.info? TU).map (fun i => (i.zero, i.size, i.bytes)) = some (some (.int .u64 0), 1, 8) := by kernel_rfl
def U64 (k : Int) : Prop := 0 ≤ k ∧ k ≤ 18446744073709551615
theorem key_of {k : Int} (h : U64 k) : keyOf Try.prog TU (.int .u64 k) = some (.int .u64 k) := keyOf_int_mk Try.underlying28 (WalkArith.wf_u64 h)
abbrev uv (k : Int) : Value := .int .u64 k
theorem ascB_nil : ascB [] = true := rfl
theorem okB_len {x : Pn} (h : x.okB = true) : 1 ≤ x.ps.length ∧ x.ps.length ≤ 100 := by
  have h' : c4B x = true := List.all_eq_true.1 h 3 (by decide)
  unfold c4B at h'
  simpa using h'
theorem sl_own {p : Pv} {j : Nat} (h : p.sl.ownBlock = some j) : p.g = some j := by
  obtain ⟨x, g, cap⟩ := p
  cases g with
  | none => cases h
  | some g => exact h
theorem own_sl {p : Pv} {j : Nat} (h : p.g = some j) : p.sl.ownBlock = some j := by
  obtain ⟨x, g, cap⟩ := p
  simp only at h
  subst h
  rfl
/-- A catalog: its box, its map, its Ids, a row of prices for each plan. -/
structure At (w : World) (c bm : Nat) (tv : Value) (n : Nat) (V : Int → Option Pv) (K : List Int) : Prop where
  blk : Rw w c TCat [.map (some bm), tv]
  mp : ∃ D : DataW Unit, w.ownsMap Try.prog TU plR bm n D ∧ Ag D V
  own : w.ownsRow 0 TU 1 tv K.length (K.map uv)
  ks : Ks V K
  row : ∀ k p, V k = some p → w.ownsRow 0 TPrice 2 p.sl p.x.ps.length (flatP p.x.ps)
  dis : ∀ k k' p p' g, V k = some p → V k' = some p' → p.g = some g → p'.g = some g → k = k'
  ok : ∀ k p, V k = some p → p.x.okB = true ∧ p.x.id = k ∧ U64 k
theorem map_keeps {w w' : World} {T : Nat → Prop} {bm n : Nat} {D : DataW Unit} (h : w.ownsMap Try.prog TU plR bm n D) (k : Keeps T w w') (hT : ¬ T bm) : w'.ownsMap Try.prog TU plR bm n D := by
  have hlt := h.lt
  obtain ⟨es, clock, hb, r⟩ := h
  exact ⟨es, clock, (k.block bm hlt hT).trans hb, r⟩
/-- Its blocks. -/
def Bs (c bm : Nat) (tv : Value) (V : Int → Option Pv) (j : Nat) : Prop := j = c ∨ j = bm ∨ tv.ownBlock = some j ∨ ∃ k p, V k = some p ∧ p.g = some j
theorem own_own {w : World} {base base' e e' size size' n n' : Nat} {v v' : Value} {xs xs' : List Value} (h : w.ownsRow base e size v n xs) (h' : w.ownsRow base' e' size' v' n' xs') (hne : e ≠ e') (j : Nat) (hj : v.ownBlock = some j) : v'.ownBlock ≠ some j := by
  rcases h.2 with ⟨rfl, _⟩ | ⟨g, cap, cur, rfl, _, hg, _⟩
  · cases hj
  · rcases h'.2 with ⟨rfl, _⟩ | ⟨g', cap', cur', rfl, _, hg', _⟩
    · intro e; cases e
    · injection hj with hj
      intro e
      injection e with e
      subst hj
      simp only at e
      subst e
      have := hg.symm.trans hg'
      injection this with this
      injection this with _ h2
      exact hne h2
theorem own_map {w : World} {base e size n bm m : Nat} {v : Value} {xs : List Value} {D : DataW Unit} (h : w.ownsRow base e size v n xs) (h' : w.ownsMap Try.prog TU plR bm m D) : v.ownBlock ≠ some bm := by
  obtain ⟨es, clock, hb, _⟩ := h'
  rcases h.2 with ⟨rfl, _⟩ | ⟨g, cap, cur, rfl, _, hg, _⟩
  · intro e; cases e
  · intro e
    injection e with e
    subst e
    have := hg.symm.trans hb
    injection this with this
    cases this
theorem flatP_get {L : List Pr} : ∀ {j : Nat} (hj : j < L.length) (o : Nat) (_ : o < 2), (flatP L)[j * 2 + o]? = L[j].cells[o]? := by
  induction L with
  | nil => intro j hj; exact absurd hj (by simp)
  | cons x L ih =>
    intro j hj o ho
    have e : flatP (x :: L) = .int .i64 x.frm :: .int .i64 x.amt :: flatP L := rfl
    rw [e]
    cases j with
    | zero =>
      match o, ho with
      | 0, _ => rfl
      | 1, _ => rfl
    | succ j =>
      rw [show (j + 1) * 2 + o = (j * 2 + o) + 1 + 1 by omega, List.getElem?_cons_succ, List.getElem?_cons_succ, List.getElem_cons_succ]
      exact ih (by simpa using hj) o ho
/-- What an append or a call leaves of prices. -/
theorem prs_own {w : World} {base : Nat} {g : Option Nat} {cap : Nat} {L : List Pr} (h : w.ownsRow base TPrice 2 (.slice (adr g) L.length cap) L.length (flatP L)) : Prs w (adr g) L := by
  intro j hj
  cases g with
  | none =>
    rcases h.2 with ⟨_, h0⟩ | ⟨g', cap', cur, hv, _⟩
    · omega
    · cases hv
  | some g =>
    obtain ⟨_, hlt, hr⟩ := own_read h
    refine ⟨g, 0, rfl, hlt, ?_, ?_⟩
    · rw [Nat.zero_add]
      exact hr _ _ (by have := flatP_get hj 0 (by decide); rw [Nat.add_zero] at this; exact this)
    · rw [Nat.zero_add]
      exact hr _ _ (flatP_get hj 1 (by decide))
section
variable {w w' : World} {c bm n : Nat} {tv : Value} {V : Int → Option Pv} {K : List Int}
theorem At.keeps {T : Nat → Prop} (h : At w c bm tv n V K) (k : Keeps T w w') (hT : ∀ j, Bs c bm tv V j → ¬ T j) : At w' c bm tv n V K := by
  obtain ⟨D, h1, h2⟩ := h.mp
  exact ⟨h.blk.keeps k (hT c (.inl rfl)), ⟨D, map_keeps h1 k (hT bm (.inr (.inl rfl))), h2⟩, own_keeps h.own k fun j hj => hT j (.inr (.inr (.inl hj))), h.ks, fun q p hp => own_keeps (h.row q p hp) k fun j hj => hT j (.inr (.inr (.inr ⟨q, p, hp, sl_own hj⟩))), h.dis, h.ok⟩
theorem At.later (h : At w c bm tv n V K) (k : Below w.heap.size w w') : At w' c bm tv n V K := h.keeps (Keeps.of (fun _ => False) k) fun _ _ h => h
theorem At.lt (h : At w c bm tv n V K) : ∀ j, Bs c bm tv V j → j < w.heap.size := by
  obtain ⟨D, h1, h2⟩ := h.mp
  rintro j (rfl | rfl | hj | ⟨k, p, hp, hj⟩)
  · exact h.blk.lt
  · exact h1.lt
  · exact (h.own.lt j hj).2
  · exact ((h.row k p hp).lt j (own_sl hj)).2
theorem At.ne (h : At w c bm tv n V K) : c ≠ bm ∧ tv.ownBlock ≠ some c ∧ tv.ownBlock ≠ some bm := by
  obtain ⟨D, h1, _⟩ := h.mp
  refine ⟨fun e => ?_, own_type h.own h.blk (by decide), own_map h.own h1⟩
  obtain ⟨es, clock, hb, _⟩ := h1
  have h1 : w.heap[c]? = some (.cells [Value.map (some bm), tv].toArray TCat (0, 0)) := h.blk
  rw [e] at h1
  have := h1.symm.trans hb
  injection this with this
  cases this
theorem At.nep (h : At w c bm tv n V K) {k : Int} {p : Pv} (hp : V k = some p) : p.g ≠ some c ∧ p.g ≠ some bm ∧ ∀ j, tv.ownBlock = some j → p.g ≠ some j := by
  obtain ⟨D, h1, _⟩ := h.mp
  refine ⟨fun e => own_type (h.row k p hp) h.blk (by decide) (own_sl e), fun e => own_map (h.row k p hp) h1 (own_sl e), fun j hj e => own_own h.own (h.row k p hp) (by decide) j hj (own_sl e)⟩
theorem At.prs (h : At w c bm tv n V K) {k : Int} {p : Pv} (hp : V k = some p) : Prs w (adr p.g) p.x.ps := prs_own (h.row k p hp)
end
end Go.Proofs.Ytakpoabpgdmneaa.Pl
