/- The statements of plans: what stays where rows of prices are written. -/
import Derived.Test.YtakpoabpgdmneaaPlStay0
import Derived.Test.YtakpoabpgdmneaaPlOpen2
namespace Go.Proofs.Ytakpoabpgdmneaa.Pl
open Go Go.RowKit Ck Go.Maps
/-- A row of prices that may be written. -/
def Wr (w : World) (a : Option Addr) (n : Nat) : Prop := 0 < n → ∃ g cur, a = some ⟨g, 0, none⟩ ∧ Rw w g TPrice cur ∧ n * 2 ≤ cur.length
section
variable {w w1 : World} {a : Option Addr} {n : Nat}
theorem Wr.own {base cap : Nat} {xs : List Value} (h : w.ownsRow base TPrice 2 (.slice a n cap) n xs) : Wr w a n := fun h0 => by
  rcases h.2 with ⟨h1, h2⟩ | ⟨g, cap', cur, hv, _, h2, h3, _, h4, _⟩
  · omega
  · injection hv with hv
    exact ⟨g, cur.toList, hv, by show w.heap[g]? = _; rw [h2], by rw [Array.length_toList, h4]; exact Nat.mul_le_mul_right _ h3⟩
theorem Wr.keeps {T : Nat → Prop} (h : Wr w a n) (k : Keeps T w w1) (hT : ∀ g, a = some ⟨g, 0, none⟩ → ¬ T g) : Wr w1 a n := fun h0 => by
  obtain ⟨g, cur, h1, h2, h3⟩ := h h0
  exact ⟨g, cur, h1, h2.keeps k (hT g h1), h3⟩
theorem Wr.later (h : Wr w a n) (k : Below w.heap.size w w1) : Wr w1 a n := h.keeps (Keeps.of (fun _ => False) k) fun _ _ h => h
/-- A write into any row leaves it one that may be written. -/
theorem Wr.write (h : Wr w a n) {g : Nat} {cur : List Value} (hr : Rw w g TPrice cur) (o : Nat) (cs : List Value) (ho : o + cs.length ≤ cur.length) : Wr (w.setCells g o cs) a n := fun h0 => by
  obtain ⟨g', cur', h1, h2, h3⟩ := h h0
  by_cases e : g' = g
  · subst e
    have : cur' = cur := by
      have h4 : w.heap[g']? = some (.cells cur'.toArray TPrice (0, 0)) := h2
      have h5 : w.heap[g']? = some (.cells cur.toArray TPrice (0, 0)) := hr
      have := h4.symm.trans h5
      injection this with this
      injection this with this _
      simpa using this
    subst this
    exact ⟨g', _, h1, hr.setCells (cs := cs) o ho, by rw [length_splice _ _ _ ho]; exact h3⟩
  · exact ⟨g', cur', h1, h2.other g o cs e, h3⟩
theorem keeps_write (w : World) (g o : Nat) (cs : List Value) : Keeps (fun j => j = g) w (w.setCells g o cs) := (Keeps.refl (fun j => j = g) w).setCells g o cs (.inl rfl)
/-- A plan in a row of one's own. -/
theorem own_five {base : Nat} {v : Value} {Q : List Pf} (ho : w.ownsRow base TPlan 5 v Q.length (flatN Q)) {i : Nat} (hi : i < Q.length) : ∃ g cap, v = .slice (some ⟨g, 0, none⟩) Q.length cap ∧ Five w g (i * 5) Q[i] := by
  obtain ⟨a, cap, rfl⟩ := own_slice ho
  rcases ho.2 with ⟨_, h0⟩ | ⟨g, cap', cur, hv, _⟩
  · omega
  · cases hv
    obtain ⟨_, _, hr⟩ := own_read ho
    have c (o : Nat) (ho' : o < 5) (u : Value) (hu : Q[i].cells[o]? = some u) : w.cell? ⟨g, i * 5 + o, none⟩ = some u := hr _ _ (by rw [flatN_get hi o ho']; exact hu)
    exact ⟨g, cap, rfl, c 0 (by decide) _ rfl, c 1 (by decide) _ rfl, c 2 (by decide) _ rfl, c 3 (by decide) _ rfl, c 4 (by decide) _ rfl⟩
/-- Two lists told, while rows of the first are written. -/
structure Inv (w0 : World) (lo mid hi : Nat) (w : World) (c N : Nat) (F : Nat → Prop) (M : Int → Option Pn) (K : List Int) (ua : Option Addr) (uc : Nat) (Pa : List Pf) (ub : Option Addr) (vc : Nat) (Pb : List Pf) : Prop where
  sc : Sc w0 w c N F M K
  fl : ∀ j, F j → j < lo
  db : Doc (fun j => mid ≤ j ∧ j < hi) w (.slice ub Pb.length vc) Pb
  oa : w.ownsRow lo TPlan 5 (.slice ua Pa.length uc) Pa.length (flatN Pa)
  wa : ∀ p ∈ Pa, Wr w p.a p.x.ps.length
  ba : ∀ p ∈ Pa, ∀ g, p.a = some ⟨g, 0, none⟩ → lo ≤ g ∧ g < mid
  hs : hi ≤ w.heap.size
  l0 : w0.heap.size ≤ lo
  l2 : lo ≤ hi
section
variable {w0 w w1 : World} {lo mid hi c N : Nat} {F : Nat → Prop} {M : Int → Option Pn} {K : List Int} {ua ub : Option Addr} {uc vc : Nat} {Pa Pb : List Pf}
theorem Inv.later (h : Inv w0 lo mid hi w c N F M K ua uc Pa ub vc Pb) (k : Below w.heap.size w w1) : Inv w0 lo mid hi w1 c N F M K ua uc Pa ub vc Pb :=
  ⟨h.sc.later k, h.fl, h.db.later k, own_later h.oa k, fun p hp => (h.wa p hp).later k, h.ba, Nat.le_trans h.hs k.size, h.l0, h.l2⟩
theorem Inv.write (h : Inv w0 lo mid hi w c N F M K ua uc Pa ub vc Pb) {g : Nat} {cur : List Value} (hr : Rw w g TPrice cur) (hg : (lo ≤ g ∧ g < mid) ∨ hi ≤ g) (hl : lo ≤ g) (o : Nat) (cs : List Value) (ho : o + cs.length ≤ cur.length) : Inv w0 lo mid hi (w.setCells g o cs) c N F M K ua uc Pa ub vc Pb := by
  have kp := keeps_write w g o cs
  refine ⟨⟨h.sc.ct.keeps kp fun j hj e => ?_, h.sc.lo, Keeps.belowT h.sc.b kp (fun j hj => by rw [hj]; exact Nat.le_trans h.l0 hl) h.sc.b.size, h.sc.len⟩, h.fl, h.db.keeps kp fun j _ hj e => ?_, own_keeps h.oa kp fun j hj e => own_type h.oa hr (by decide) (e ▸ hj), fun p hp => (h.wa p hp).write hr o cs ho, h.ba, Nat.le_trans h.hs kp.size, h.l0, h.l2⟩
  · have := h.fl j hj
    omega
  · omega
end
end
end Go.Proofs.Ytakpoabpgdmneaa.Pl
