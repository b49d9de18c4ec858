/- The statements of plans: a catalog beside the document's list. -/
import Derived.Test.YtakpoabpgdmneaaPlActs
namespace Go.Proofs.Ytakpoabpgdmneaa.Pl
open Go Go.RowKit Ck Go.Maps
/-- A catalog beside the document's list: they have the same. -/
structure Sy (w0 w : World) (c N : Nat) (F : Nat → Prop) (M : Int → Option Pn) (K : List Int) (va : Option Addr) (vc : Nat) (Q : List Pf) : Prop where
  ct : Ct F w c M K N
  doc : Doc (fun j => ¬ F j) w (.slice va Q.length vc) Q
  tied : Tied M K Q
  lo : ∀ j, F j → w0.heap.size ≤ j
  b : Below w0.heap.size w0 w
  len : Q.length ≤ N
section
variable {w0 w w1 w2 : World} {c N : Nat} {F : Nat → Prop} {M M' : Int → Option Pn} {K : List Int} {va : Option Addr} {vc : Nat} {Q : List Pf}
theorem Sy.later (h : Sy w0 w c N F M K va vc Q) (k : Below w.heap.size w w1) : Sy w0 w1 c N F M K va vc Q :=
  ⟨h.ct.later k, h.doc.later k, h.tied, h.lo, h.b.trans (k.mono h.b.size), h.len⟩
theorem Sy.new (h : Ct F w c (fun _ => none) [] 0) (hF : ∀ j, F j → w0.heap.size ≤ j) (hb : Below w0.heap.size w0 w) : Sy w0 w c 0 F (fun _ => none) [] none 0 [] :=
  ⟨h, Doc.nil _ _, Tied.nil, hF, hb, Nat.le_refl _⟩
theorem Sy.hS (h : Sy w0 w c N F M K va vc Q) : ∀ j, w.heap.size ≤ j → (fun j => ¬ F j) j := fun j hj hF => by
  have := h.ct.lt j hF
  omega
/-- Prices that came in. -/
theorem Sy.prs (h : Sy w0 w c N F M K va vc Q) {a : Option Addr} {L : List Pr} (hp : Prs w0 a L) : PrsS (fun j => ¬ F j) w a L := by
  refine ⟨fun j hj => ?_, fun p hp' h0 hF => ?_⟩
  · obtain ⟨b, off, ha, hlt, h1, h2⟩ := hp j hj
    exact ⟨b, off, ha, Nat.lt_of_lt_of_le hlt h.b.size, by rw [h.b.cell (by simpa using hlt)]; exact h1, by rw [h.b.cell (by simpa using hlt)]; exact h2⟩
  · obtain ⟨b, off, ha, hlt, _⟩ := hp 0 h0
    rw [ha] at hp'
    cases hp'
    have := h.lo _ hF
    simp only at this
    omega
/-- Both have done the same. -/
theorem Sy.step (h : Sy w0 w c N F M K va vc Q) {K' : List Int} {va' : Option Addr} {vc' : Nat} {Q' : List Pf} (t : Tied M' K' Q') (d : Doc (fun j => ¬ F j) w1 (.slice va' Q'.length vc') Q') (hb : Below w.heap.size w w1) (hl : Q'.length ≤ Q.length + 1) {n N' : Nat} (g : Goes F w1 w2 c M' n N') (hN : N + 1 ≤ N') : ∃ F', Sy w0 w2 c N' F' M' K' va' vc' Q' := by
  obtain ⟨F', K'', c', l', k', f'⟩ := g
  obtain rfl : K' = K'' := Ks.unique t.ks c'.ks fun _ => rfl
  have hlo : ∀ j, F' j → w0.heap.size ≤ j := fun j hj => (f' j hj).elim (h.lo j) (Nat.le_trans (Nat.le_trans h.b.size hb.size))
  have d1 : Doc (fun j => ¬ F j ∧ j < w1.heap.size) w1 (.slice va' Q'.length vc') Q' := d.mono fun j hj h => ⟨h, hj⟩
  refine ⟨F', c', (d1.keeps k' fun j _ h1 => h1.1).mono fun j _ h1 h2 => ?_, t, hlo, ?_, by have := h.len; omega⟩
  · rcases f' j h2 with h3 | h3
    · exact h1.1 h3
    · have := h1.2; omega
  · exact Keeps.belowT (h.b.trans (hb.mono h.b.size)) k' h.lo (Nat.le_trans h.b.size hb.size)
theorem act_ne {b bm n : Nat} {tv : Value} {V : Int → Option Pv} {L : List Value} (h : At w c bm tv n V K) (hr : Rw w b TAct L) : ¬ Bs c bm tv V b := by
  rintro (rfl | rfl | hj | ⟨k, p, hp, hj⟩)
  · exact absurd rfl (rw_ne hr h.blk (by decide))
  · obtain ⟨D, ⟨es, clock, hb, _⟩, _⟩ := h.mp
    have h1 : w.heap[b]? = some (.cells L.toArray TAct (0, 0)) := hr
    have := h1.symm.trans hb
    injection this with this
    cases this
  · exact own_type h.own hr (by decide) hj
  · exact own_type (h.row k p hp) hr (by decide) (own_sl hj)
end
end Go.Proofs.Ytakpoabpgdmneaa.Pl
