/- Package plans: the document's list of plans in memory; At. -/
import Derived.Test.YtakpoabpgdmneaaPlIns
namespace Go.Proofs.Ytakpoabpgdmneaa.Pl
open Go Go.RowKit Ck Go.Maps
/-- A plan in a list: where its prices lie. -/
structure Pf where
  x : Pn
  a : Option Addr
  cap : Nat
def Pf.cells (p : Pf) : List Value := p.x.cells p.a p.cap
def Pf.val (p : Pf) : Value := p.x.val p.a p.cap
def flatN (Q : List Pf) : List Value := Q.flatMap Pf.cells
theorem flatN_cons (p : Pf) (Q : List Pf) : flatN (p :: Q) = p.cells ++ flatN Q := rfl
theorem flatN_app (P Q : List Pf) : flatN (P ++ Q) = flatN P ++ flatN Q := by unfold flatN; rw [List.flatMap_append]
theorem cells_len (p : Pf) : p.cells.length = 5 := rfl
theorem flatN_len (Q : List Pf) : (flatN Q).length = Q.length * 5 := by
  induction Q with
  | nil => rfl
  | cons x Q ih => rw [flatN_cons, List.length_append, ih, cells_len, List.length_cons]; omega
theorem flatN_one (Q : List Pf) : ∀ u ∈ flatN Q, u.oneCell' = true := by
  intro u hu
  obtain ⟨x, _, hx⟩ := List.mem_flatMap.1 hu
  unfold Pf.cells Pn.cells at hx
  simp only [List.mem_cons, List.not_mem_nil, or_false] at hx
  rcases hx with rfl | rfl | rfl | rfl | rfl <;> rfl
theorem flatN_get {Q : List Pf} : ∀ {j : Nat} (hj : j < Q.length) (o : Nat) (_ : o < 5), (flatN Q)[j * 5 + o]? = Q[j].cells[o]? := by
  induction Q with
  | nil => intro j hj; exact absurd hj (by simp)
  | cons x Q ih =>
    intro j hj o ho
    rw [flatN_cons]
    cases j with
    | zero => rw [List.getElem?_append_left (by rw [cells_len]; omega), Nat.zero_mul, Nat.zero_add]; rfl
    | succ j =>
      rw [List.getElem?_append_right (by rw [cells_len]; omega), cells_len, show (j + 1) * 5 + o - 5 = j * 5 + o by omega, List.getElem_cons_succ]
      exact ih (by simpa using hj) o ho
theorem cell_eq {w w' : World} {b : Nat} (h : w'.heap[b]? = w.heap[b]?) (o : Nat) : w'.cell? ⟨b, o, none⟩ = w.cell? ⟨b, o, none⟩ := by
  unfold World.cell?
  simp only [h]
/-- Prices in memory, in blocks of which S holds. -/
def PrsS (S : Nat → Prop) (w : World) (a : Option Addr) (L : List Pr) : Prop := Prs w a L ∧ ∀ p, a = some p → 0 < L.length → S p.block
theorem PrsS.keeps {S T : Nat → Prop} {w w' : World} {a : Option Addr} {L : List Pr} (h : PrsS S w a L) (k : Keeps T w w') (hT : ∀ j, j < w.heap.size → S j → ¬ T j) : PrsS S w' a L := by
  refine ⟨fun j hj => ?_, h.2⟩
  obtain ⟨b, off, ha, hlt, h1, h2⟩ := h.1 j hj
  have e := k.block b hlt (hT b hlt (h.2 _ ha (by omega)))
  exact ⟨b, off, ha, Nat.lt_of_lt_of_le hlt k.size, by rw [cell_eq e]; exact h1, by rw [cell_eq e]; exact h2⟩
theorem PrsS.mono {S S' : Nat → Prop} {w : World} {a : Option Addr} {L : List Pr} (h : PrsS S w a L) (hS : ∀ j, j < w.heap.size → S j → S' j) : PrsS S' w a L := by
  refine ⟨h.1, fun p hp h0 => ?_⟩
  obtain ⟨b, off, ha, hlt, _⟩ := h.1 0 h0
  rw [ha] at hp
  cases hp
  exact hS _ hlt (h.2 _ ha h0)
/-- A list of plans. -/
structure Doc (S : Nat → Prop) (w : World) (v : Value) (Q : List Pf) : Prop where
  own : w.ownsRow 0 TPlan 5 v Q.length (flatN Q)
  blk : ∀ j, v.ownBlock = some j → S j
  prs : ∀ p ∈ Q, PrsS S w p.a p.x.ps
section
variable {S T S' : Nat → Prop} {w w' : World} {v : Value} {Q : List Pf}
theorem Doc.keeps (h : Doc S w v Q) (k : Keeps T w w') (hT : ∀ j, j < w.heap.size → S j → ¬ T j) : Doc S w' v Q :=
  ⟨own_keeps h.own k fun j hj => hT j (h.own.lt j hj).2 (h.blk j hj), h.blk, fun p hp => (h.prs p hp).keeps k hT⟩
theorem Doc.later (h : Doc S w v Q) (k : Below w.heap.size w w') : Doc S w' v Q := h.keeps (Keeps.of (fun _ => False) k) fun _ _ _ h => h
theorem Doc.mono (h : Doc S w v Q) (hS : ∀ j, j < w.heap.size → S j → S' j) : Doc S' w v Q :=
  ⟨h.own, fun j hj => hS j (h.own.lt j hj).2 (h.blk j hj), fun p hp => (h.prs p hp).mono hS⟩
theorem Doc.nil (S : Nat → Prop) (w : World) : Doc S w (.slice none 0 0) [] := ⟨World.ownsRow_nil _ _ _ _, fun j hj => (by cases hj), fun p hp => (by cases hp)⟩
/-- A plan in a row. -/
structure Five (w : World) (b o : Nat) (p : Pf) : Prop where
  c0 : w.cell? ⟨b, o, none⟩ = some (.int .u64 p.x.id)
  c1 : w.cell? ⟨b, o + 1, none⟩ = some (.string p.x.name)
  c2 : w.cell? ⟨b, o + 2, none⟩ = some (.int .i64 p.x.every)
  c3 : w.cell? ⟨b, o + 3, none⟩ = some (.slice p.a p.x.ps.length p.cap)
  c4 : w.cell? ⟨b, o + 4, none⟩ = some (.int .i64 p.x.ret)
theorem Doc.five (h : Doc S w v Q) {i : Nat} (hi : i < Q.length) : ∃ g cap, v = .slice (some ⟨g, 0, none⟩) Q.length cap ∧ Five w g (i * 5) Q[i] := by
  have ho := h.own
  obtain ⟨a, cap, rfl⟩ := own_slice ho
  rcases ho.2 with ⟨_, h0⟩ | ⟨g, cap', cur, hv, _⟩
  · omega
  · cases hv
    obtain ⟨_, _, hr⟩ := own_read ho
    have c (o : Nat) (ho' : o < 5) (u : Value) (hu : Q[i].cells[o]? = some u) : w.cell? ⟨g, i * 5 + o, none⟩ = some u := hr _ _ (by rw [flatN_get hi o ho']; exact hu)
    exact ⟨g, cap, rfl, c 0 (by decide) _ rfl, c 1 (by decide) _ rfl, c 2 (by decide) _ rfl, c 3 (by decide) _ rfl, c 4 (by decide) _ rfl⟩
end
/-- What a list has, by Ids. -/
structure Tied (M : Int → Option Pn) (K : List Int) (Q : List Pf) : Prop where
  ks : Ks M K
  len : Q.length = K.length
  at' : ∀ i (h : i < Q.length), M (K[i]'(by omega)) = some Q[i].x
  id : ∀ k x, M k = some x → x.id = k ∧ x.okB = true ∧ U64 k
theorem Tied.nil : Tied (fun _ => none) [] [] := ⟨Ks.empty, rfl, fun i h => absurd h (by simp), fun k x h => by cases h⟩
theorem Tied.key {M : Int → Option Pn} {K : List Int} {Q : List Pf} (t : Tied M K Q) {i : Nat} (h : i < Q.length) : Q[i].x.id = K[i]'(by have := t.len; omega) := (t.id _ _ (t.at' i h)).1
theorem Tied.ok {M : Int → Option Pn} {K : List Int} {Q : List Pf} (t : Tied M K Q) {i : Nat} (h : i < Q.length) : Q[i].x.okB = true := (t.id _ _ (t.at' i h)).2.1
def AtRes (M : Int → Option Pn) (Q : List Pf) (k : Int) (w : World) (e : Ending) (w' : World) : Prop := w = w' ∧ ∃ z : Int, e = .returned (.int .i64 z) ∧ (z = -1 ∧ M k = none ∨ ∃ (i : Nat) (h : i < Q.length), M k = some Q[i].x ∧ Q[i].x.id = k ∧ z = (i : Int))
set_option maxRecDepth 100000 in
set_option maxHeartbeats 1600000 in
theorem at_c {S : Nat → Prop} {w : World} {M : Int → Option Pn} {K : List Int} {Q : List Pf} {va : Option Addr} {vc : Nat} (t : Tied M K Q) (h : Doc S w (.slice va Q.length vc) Q) (k : Int) (hQ : Q.length ≤ 1000000) : Calls Try.prog 24 #[.slice va Q.length vc, .int .u64 k] w (AtRes M Q k w) := by
  have G := Lib.hid t
  have H := Lib.hid h
  clear t h
  go_enter Try.func24, Try.ntmps24
  go_wp2_with fail
  go_loopg [5] Q.length (fun kx s5 wr => ∃ i : Nat, s5 = .int .i64 (i : Int) ∧ i ≤ Q.length ∧ w = wr ∧ Hid (∀ j (h : j < Q.length), j < i → Q[j].x.id ≠ k) ∧ Q.length ≤ i + kx)
  case atStart => exact ⟨0, rfl, Nat.zero_le _, rfl, fun j _ hj => by omega, by omega⟩
  case round =>
    obtain ⟨i, rfl, hi9, rfl, HJ, hkx⟩ := hrel
    by_cases hlt : i < Q.length
    · obtain ⟨g, cap, hv, hf⟩ := H.out.five hlt
      obtain ⟨rfl, rfl⟩ : va = some ⟨g, 0, none⟩ ∧ vc = cap := by simpa using hv
      have c0 := hf.c0
      have j0 : (0 : Int) ≤ (i : Int) := by omega
      have j1 : (i : Int) < (Q.length : Int) := by omega
      obtain ⟨q, hq⟩ : ∃ q, q = Q[i].x.id := ⟨_, rfl⟩
      rw [← hq] at c0
      have HK := Lib.hid hq
      clear hf hv hq
      by_cases he : q = k
      · subst he
        go_wp2_with fail
        go_ret
        exact ⟨rfl, _, rfl, .inr ⟨i, hlt, by have := G.out.at' i hlt; rw [← G.out.key hlt, ← HK.out] at this; exact this, HK.out.symm, rfl⟩⟩
      · have be : (q == k) = false := by simpa using he
        have HJ2 : Hid (∀ j (h : j < Q.length), j < i + 1 → Q[j].x.id ≠ k) := fun j hj hji => by
          by_cases e : j = i
          · subst e; rw [← HK.out]; exact he
          · exact HJ.out j hj (by omega)
        clear he HJ HK
        go_wp2_with fail
        go_roundg (Q.length - (i + 1))
        case measure => omega
        case rel => exact ⟨i + 1, by simp, by omega, rfl, HJ2, by omega⟩
    · obtain rfl : i = Q.length := by omega
      clear hkx hlt hi9
      go_wp2_with fail
      go_ret
      exact ⟨rfl, _, rfl, .inl ⟨rfl, by
        cases hm : M k with
        | none => rfl
        | some x =>
          have hk : k ∈ K := (G.out.ks.mem k).2 (by rw [hm]; rfl)
          obtain ⟨j, hj, e⟩ := List.getElem_of_mem hk
          have hj' : j < Q.length := by have := G.out.len; omega
          exact absurd ((G.out.key hj').trans e) (HJ.out j hj' hj')⟩⟩
end Go.Proofs.Ytakpoabpgdmneaa.Pl
