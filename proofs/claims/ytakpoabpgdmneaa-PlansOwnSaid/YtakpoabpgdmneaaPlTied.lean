/- Package plans: what the document's operations leave; the mathematics. -/
import Derived.Test.YtakpoabpgdmneaaPlDoc
namespace Go.Proofs.Ytakpoabpgdmneaa.Pl
open Go Go.RowKit Ck Go.Maps
theorem Tied.eq {M : Int → Option Pn} {K : List Int} {Q : List Pf} (t : Tied M K Q) : Q.map (fun p => some p.x) = K.map M := by
  apply List.ext_getElem
  · rw [List.length_map, List.length_map, t.len]
  · intro i h1 h2
    rw [List.getElem_map, List.getElem_map]
    exact (t.at' i (by simpa using h1)).symm
theorem Tied.of {M : Int → Option Pn} {K : List Int} {Q : List Pf} (ks : Ks M K) (e : Q.map (fun p => some p.x) = K.map M) (id : ∀ k x, M k = some x → x.id = k ∧ x.okB = true ∧ U64 k) : Tied M K Q := by
  have hl : Q.length = K.length := by
    have := congrArg List.length e
    simpa using this
  refine ⟨ks, hl, fun i h => ?_, id⟩
  have := congrArg (fun l => l[i]?) e
  simp only [List.getElem?_map, List.getElem?_eq_getElem h, List.getElem?_eq_getElem (show i < K.length by omega), Option.map_some, Option.some.injEq] at this
  exact this.symm
/-- The first place whose Id is not below. -/
def place' : List Int → Int → Nat
  | [], _ => 0
  | c :: K, k => if c < k then place' K k + 1 else 0
theorem place_le : ∀ (K : List Int) (k : Int), place' K k ≤ K.length
  | [], _ => Nat.le_refl _
  | c :: K, k => by
    unfold place'
    have := place_le K k
    split
    · simp only [List.length_cons]; omega
    · omega
theorem place_is : ∀ {K : List Int} (_ : Up K) (k : Int), (∀ c ∈ K.take (place' K k), c < k) ∧ ∀ c ∈ K.drop (place' K k), k ≤ c
  | [], _, k => ⟨fun c hc => by simp at hc, fun c hc => by simp at hc⟩
  | c :: K, hK, k => by
    have hp := List.pairwise_cons.1 hK
    unfold place'
    by_cases h : c < k
    · rw [if_pos h]
      obtain ⟨h1, h2⟩ := place_is hp.2 k
      refine ⟨fun d hd => ?_, fun d hd => h2 d (by simpa using hd)⟩
      rw [List.take_succ_cons] at hd
      rcases List.mem_cons.1 hd with rfl | hd
      · exact h
      · exact h1 d hd
    · rw [if_neg h]
      refine ⟨fun d hd => by simp at hd, fun d hd => ?_⟩
      simp only [List.drop_zero] at hd
      rcases List.mem_cons.1 hd with rfl | hd
      · omega
      · have := hp.1 d hd; omega
theorem place_eq : ∀ {K : List Int} {k : Int} {i : Nat}, (∀ j (h : j < K.length), j < i → K[j] < k) → i ≤ K.length → (∀ h : i < K.length, ¬ K[i] < k) → i = place' K k
  | [], k, i, _, h2, _ => by simp at h2; subst h2; rfl
  | c :: K, k, 0, _, _, h3 => by
    have := h3 (by simp)
    unfold place'
    rw [if_neg (by simpa using this)]
  | c :: K, k, i + 1, h1, h2, h3 => by
    have := h1 0 (by simp) (by omega)
    unfold place'
    rw [if_pos (by simpa using this)]
    congr 1
    exact place_eq (fun j hj hji => h1 (j + 1) (by simpa using hj) (by omega)) (by simpa using h2) (fun h => h3 (by simpa using h))
theorem Tied.add {M : Int → Option Pn} {K : List Int} {Q : List Pf} (t : Tied M K Q) {p : Pf} (hn : M p.x.id = none) (hok : p.x.okB = true) (hu : U64 p.x.id) : Tied (upd M p.x.id p.x) (ins K (place' K p.x.id) p.x.id) (Q.take (place' K p.x.id) ++ p :: Q.drop (place' K p.x.id)) := by
  obtain ⟨h1, h2⟩ := place_is t.ks.up p.x.id
  have hnK : p.x.id ∉ K := fun h => by
    have := (t.ks.mem _).1 h
    rw [hn] at this
    cases this
  have h3 : ∀ c ∈ K.drop (place' K p.x.id), p.x.id < c := fun c hc => by
    have := h2 c hc
    have : c ≠ p.x.id := fun e => hnK (e ▸ List.mem_of_mem_drop hc)
    omega
  have hm (L : List Int) (hL : ∀ c ∈ L, c ∈ K) : L.map (upd M p.x.id p.x) = L.map M := List.map_congr_left fun c hc => upd_other _ _ fun e => hnK (e ▸ hL c hc)
  refine Tied.of (t.ks.new _ h1 h3) ?_ fun k x hx => ?_
  · have e1 : (Q.take (place' K p.x.id)).map (fun p => some p.x) = (K.take (place' K p.x.id)).map M := by rw [List.map_take, List.map_take, t.eq]
    have e2 : (Q.drop (place' K p.x.id)).map (fun p => some p.x) = (K.drop (place' K p.x.id)).map M := by rw [List.map_drop, List.map_drop, t.eq]
    unfold ins
    rw [List.map_append, List.map_cons, List.map_append, List.map_cons, e1, e2, upd_same, hm _ (fun c hc => List.mem_of_mem_take hc), hm _ (fun c hc => List.mem_of_mem_drop hc)]
  · by_cases e : k = p.x.id
    · subst e
      rw [upd_same] at hx
      cases hx
      exact ⟨rfl, hok, hu⟩
    · rw [upd_other _ _ e] at hx
      exact t.id k x hx
theorem Tied.set {M : Int → Option Pn} {K : List Int} {Q : List Pf} (t : Tied M K Q) {i : Nat} (hi : i < Q.length) {p : Pf} (hid : p.x.id = Q[i].x.id) (hok : p.x.okB = true) : Tied (upd M Q[i].x.id p.x) K (Q.set i p) := by
  have hl := t.len
  have hk := t.key hi
  have hm := t.at' i hi
  rw [← hk] at hm
  refine Tied.of (t.ks.old (by rw [hm]; rfl) _) ?_ fun k x hx => ?_
  · apply List.ext_getElem
    · rw [List.length_map, List.length_map, List.length_set, t.len]
    · intro j h1 h2
      rw [List.getElem_map, List.getElem_map, List.getElem_set]
      have hj : j < K.length := by simpa using h2
      by_cases e : i = j
      · subst e
        rw [if_pos rfl, ← hk, upd_same]
      · rw [if_neg e, upd_other _ _ (fun e2 => ?_)]
        · exact (t.at' j (by omega)).symm
        · replace e2 : K[j] = K[i] := e2.trans hk
          rcases Nat.lt_trichotomy i j with h | h | h
          · have := up_le t.ks.up h hj; omega
          · exact e h
          · have := up_le t.ks.up h (show i < K.length by omega); omega
  · by_cases e : k = Q[i].x.id
    · subst e
      rw [upd_same] at hx
      cases hx
      exact ⟨hid, hok, (t.id _ _ hm).2.2⟩
    · rw [upd_other _ _ e] at hx
      exact t.id k x hx
/-- What the document's operations answer and leave. -/
def RRes (S : Nat → Prop) (n : Nat) (M' : Int → Option Pn) (z : Int) (w : World) (e : Ending) (w' : World) : Prop :=
  ∃ (va : Option Addr) (vc : Nat) (Q' : List Pf) (K' : List Int), e = .returned (.tuple #[.slice va Q'.length vc, .int .i64 z]) ∧ Tied M' K' Q' ∧ Doc S w' (.slice va Q'.length vc) Q' ∧ Below w.heap.size w w' ∧ Q'.length ≤ n + 1
theorem rres_same {S : Nat → Prop} {w w' : World} {M : Int → Option Pn} {K : List Int} {Q : List Pf} {va : Option Addr} {vc : Nat} {z : Int} (t : Tied M K Q) (h : Doc S w (.slice va Q.length vc) Q) (k : Below w.heap.size w w') : RRes S Q.length M z w (.returned (.tuple #[.slice va Q.length vc, .int .i64 z])) w' :=
  ⟨va, vc, Q, K, rfl, t, h.later k, k, Nat.le_succ _⟩
theorem infoPn : (Try.prog.info? TPlan).map (fun i => (i.size, i.bytes)) = some (5, 64) := by kernel_rfl
theorem zeroPn : ((Try.prog.info? TPlan).bind (·.zero)).map (fun z => z.cells.size) = some 5 := by kernel_rfl
theorem info_pn : ∃ i z, Try.prog.info? TPlan = some i ∧ i.zero = some z ∧ i.size = 5 ∧ i.bytes = 64 ∧ z.cells.size = 5 := by
  have h := infoPn
  have h2 := zeroPn
  cases hi : Try.prog.info? TPlan with
  | none => rw [hi] at h; cases h
  | some i =>
    rw [hi] at h h2
    simp only [Option.map_some, Option.some.injEq, Prod.mk.injEq, Option.bind_some] at h h2
    cases hz : i.zero with
    | none => rw [hz] at h2; cases h2
    | some z =>
      rw [hz] at h2
      simp only [Option.map_some, Option.some.injEq] at h2
      exact ⟨i, z, rfl, hz, h.1, h.2, h2⟩
theorem new_plan (w : World) (p : Pf) : ∀ (j : Nat) (u : Value), p.cells[j]? = some u → (w.alloc (.cells p.cells.toArray TPlan)).cell? ((⟨w.heap.size, 0, none⟩ : Addr).add j) = some u := fun j u hu => by
  rw [Go.WideShapes.add_plain, Nat.zero_add]
  have := (Rw.new w p.cells TPlan).cell j
  rw [hu] at this
  exact this
theorem flatN_take (Q : List Pf) (i : Nat) (hi : i ≤ Q.length) : flatN (Q.take i) = (flatN Q).take (i * 5) := by
  have e : flatN Q = flatN (Q.take i) ++ flatN (Q.drop i) := by rw [← flatN_app, List.take_append_drop]
  rw [e, List.take_left']
  rw [flatN_len, List.length_take, Nat.min_eq_left hi]
theorem flatN_drop (Q : List Pf) (i : Nat) (hi : i ≤ Q.length) : flatN (Q.drop i) = (flatN Q).drop (i * 5) := by
  have e : flatN Q = flatN (Q.take i) ++ flatN (Q.drop i) := by rw [← flatN_app, List.take_append_drop]
  rw [e, List.drop_left']
  rw [flatN_len, List.length_take, Nat.min_eq_left hi]
theorem take_splice {α : Type} (L cs : List α) (o N : Nat) (h : o + cs.length ≤ N) : (splice L o cs).take N = splice (L.take N) o cs := by
  unfold splice
  by_cases ho : o ≤ L.length
  · rw [List.take_append, List.take_append, List.length_take, Nat.min_eq_left ho, List.take_take, Nat.min_eq_right (by omega), List.take_take, Nat.min_eq_left (by omega), List.take_of_length_le (show cs.length ≤ N - o by omega), List.drop_take]
    congr 3
    omega
  · rw [List.take_of_length_le (show L.length ≤ o by omega), List.drop_of_length_le (show L.length ≤ o + cs.length by omega), List.append_nil]
    rw [List.take_of_length_le (show L.length ≤ N by omega), List.take_of_length_le (show L.length ≤ o by omega), List.drop_of_length_le (show L.length ≤ o + cs.length by omega), List.append_nil, List.take_of_length_le]
    rw [List.length_append]
    omega
/-- A part of a row of one's own is written. -/
theorem own_splice {w : World} {base e size n g cap : Nat} {xs : List Value} (h : w.ownsRow base e size (.slice (some ⟨g, 0, none⟩) n cap) n xs) (o : Nat) (cs : List Value) (ho : o + cs.length ≤ n * size) : (w.setCells g o cs).ownsRow base e size (.slice (some ⟨g, 0, none⟩) n cap) n (splice xs o cs) := by
  have hl := h.1
  rcases h.2 with ⟨h0, _⟩ | ⟨g', cap', cur, hv, hb, hg, hc, hm, hs, ht⟩
  · cases h0
  · obtain ⟨rfl, rfl⟩ : g = g' ∧ cap = cap' := by simpa using hv
    have hr : Rw w g e cur.toList := by show w.heap[g]? = _; rw [hg]
    have hle : n * size ≤ cap * size := Nat.mul_le_mul_right _ hc
    have hr2 := hr.setCells (cs := cs) o (by simp; omega)
    refine ⟨?_, .inr ⟨g, cap, (splice cur.toList o cs).toArray, rfl, hb, hr2, hc, hm, ?_, ?_⟩⟩
    · rw [length_splice _ _ _ (by omega)]; exact hl
    · rw [List.size_toArray, length_splice _ _ _ (by simp; omega)]; simpa using hs
    · simp only
      rw [take_splice _ _ _ _ ho, ht]
theorem flatN_set (Q : List Pf) (i : Nat) (hi : i < Q.length) (p : Pf) : flatN (Q.set i p) = splice (flatN Q) (i * 5) p.cells := by
  rw [List.set_eq_take_append_cons_drop, if_pos hi, flatN_app, flatN_cons, flatN_take Q i (by omega), flatN_drop Q (i + 1) (by omega)]
  unfold splice
  rw [cells_len, show (i + 1) * 5 = i * 5 + 5 by omega]
end Go.Proofs.Ytakpoabpgdmneaa.Pl
