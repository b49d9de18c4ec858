/- Package quittanceref04: Get. -/
import Derived.Test.YtjlncjabiofklaaDoorSfRPut
import Derived.Test.YtjlncjabiofklaaDoorSfSame
import Derived.Deep.DeepCutAuto
namespace Go.Proofs.YtjlncjabiofklaaDoor.Shf
open Go.RowKit Tal
theorem results_tmp4 {fn : Func} {t u v x : Tmp} (h : fn.results = #[.tmp t, .tmp u, .tmp v, .tmp x]) (tmps : Array Value) (P : Program) (w : World) :
  (results fn tmps).run P w = .ok (.tuple #[tmps.getD t undef, tmps.getD u undef, tmps.getD v undef, tmps.getD x undef]) w := by
  simp [results, h]
def lists (L : List ByteArray) : List (List UInt8) := L.map fun s => s.data.toList
/-- How far the loop has come. -/
structure So (G : List (List UInt8)) (k n : Nat) (A : List UInt8) : Prop where
  z : k = 0 → n = 0 ∧ A = []
  p : 0 < k → (∃ x t c, G = x :: t ∧ Lf.get x = some (n, c)) ∧ (∀ y ∈ G.take k, Sf.isOf n y = true) ∧ A = ((G.take k).map Lf.mid).flatten
  l : A.length ≤ 48 * k
/-- Where the loop ends. -/
def Fin (G : List (List UInt8)) (n : Nat) (A : List UInt8) : Prop :=
  (n = 0 ∧ A = [] ∧ Sf.rget G = none) ∨ (A.length ≤ 48 * G.length ∧ ∃ x t c, G = x :: t ∧ Lf.get x = some (n, c) ∧ A = ((G.takeWhile (Sf.isOf n)).map Lf.mid).flatten)
theorem so_zero (G : List (List UInt8)) : So G 0 0 [] := ⟨fun _ => ⟨rfl, rfl⟩, fun h => absurd h (by omega), by simp⟩
theorem isOf_get {x c : List UInt8} {n : Nat} (h : Lf.get x = some (n, c)) : Sf.isOf n x = true := by unfold Sf.isOf; rw [h]; simp
theorem so_first {G : List (List UInt8)} (h0 : 0 < G.length) {n : Nat} {c : List UInt8} (h : Lf.get G[0] = some (n, c)) : So G 1 n c := by
  obtain ⟨g0, g1, g2, g3, g4⟩ := Sf.leaf_of_get h
  cases G with
  | nil => simp at h0
  | cons x t =>
    refine ⟨fun h => by omega, fun _ => ⟨⟨x, t, c, rfl, h⟩, ?_, ?_⟩, by omega⟩
    · intro y hy
      obtain rfl : y = x := by simpa using hy
      exact isOf_get h
    · simpa using g3
theorem so_next {G : List (List UInt8)} {k n : Nat} {A c : List UInt8} (hs : So G k n A) (hk : k < G.length) (h0 : 0 < k) (h : Lf.get G[k] = some (n, c)) : So G (k + 1) n (A ++ c) := by
  obtain ⟨g0, g1, g2, g3, g4⟩ := Sf.leaf_of_get h
  obtain ⟨p1, p2, p3⟩ := hs.p h0
  have e := List.take_succ_eq_append_getElem hk
  refine ⟨fun h => by omega, fun _ => ⟨p1, ?_, ?_⟩, by rw [List.length_append]; have := hs.l; omega⟩
  · intro y hy
    rw [e] at hy
    rcases List.mem_append.1 hy with h' | h'
    · exact p2 y h'
    · obtain rfl := List.mem_singleton.1 h'
      exact isOf_get h
  · rw [e, List.map_append, List.flatten_append, ← p3, g3]; simp
theorem while_take {G : List (List UInt8)} {p : List UInt8 → Bool} {k : Nat} (h : ∀ y ∈ G.take k, p y = true) (hk : G.length ≤ k ∨ ∃ hk : k < G.length, p G[k] = false) : G.takeWhile p = G.take k := by
  induction G generalizing k with
  | nil => simp
  | cons x t ih =>
    cases k with
    | zero =>
      rcases hk with hk | ⟨hk, hp⟩
      · simp at hk
      · simp at hp; simp [hp]
    | succ k =>
      have hx : p x = true := h x (by simp)
      rw [List.takeWhile_cons_of_pos hx, List.take_succ_cons, ih (fun y hy => h y (by rw [List.take_succ_cons]; exact List.mem_cons_of_mem _ hy))]
      rcases hk with hk | ⟨hk, hp⟩
      · left; simpa using hk
      · right; exact ⟨by simpa using hk, by simpa using hp⟩
theorem so_end {G : List (List UInt8)} {n : Nat} {A : List UInt8} (hs : So G G.length n A) : Fin G n A := by
  rcases Nat.eq_zero_or_pos G.length with h0 | h0
  · obtain rfl : G = [] := List.eq_nil_of_length_eq_zero h0
    obtain ⟨rfl, rfl⟩ := hs.z rfl
    exact .inl ⟨rfl, rfl, rfl⟩
  · obtain ⟨⟨x, t, c, p1, p1'⟩, p2, p3⟩ := hs.p h0
    exact .inr ⟨hs.l, x, t, c, p1, p1', by rw [while_take p2 (.inl (Nat.le_refl _))]; exact p3⟩
theorem so_out {G : List (List UInt8)} {k n : Nat} {A : List UInt8} (hs : So G k n A) (hk : k < G.length) (h0 : 0 < k) (h : Sf.isOf n G[k] = false) : Fin G n A := by
  obtain ⟨⟨x, t, c, p1, p1'⟩, p2, p3⟩ := hs.p h0
  exact .inr ⟨by have := hs.l; omega, x, t, c, p1, p1', by rw [while_take p2 (.inr ⟨hk, h⟩)]; exact p3⟩
theorem fin_no {G : List (List UInt8)} (h0 : 0 < G.length) (h : Lf.get G[0] = none) : Fin G 0 [] := by
  cases G with
  | nil => simp at h0
  | cons x t =>
    refine .inl ⟨rfl, rfl, ?_⟩
    unfold Sf.rget
    simp only [List.getElem_cons_zero] at h
    simp only [h]
theorem isOf_no {n : Nat} {x : List UInt8} (h : Lf.get x = none) : Sf.isOf n x = false := by unfold Sf.isOf; rw [h]
theorem isOf_ne {n m : Nat} {x c : List UInt8} (h : Lf.get x = some (m, c)) (hne : m ≠ n) : Sf.isOf n x = false := by unfold Sf.isOf; rw [h]; simpa using hne
/-- What Get answers. -/
def SGet (o : Option (Nat × List UInt8 × Nat)) (w : World) (e : Ending) (w' : World) : Prop :=
  (∀ n s k, o = some (n, s, k) → e = .returned (.tuple #[.int .u64 (n : Nat), .string ⟨s.toArray⟩, .int .i64 (k : Nat), .bool true])) ∧
  (o = none → e = .returned (.tuple #[.int .u64 0, .string ⟨#[]⟩, .int .i64 0, .bool false])) ∧ Below w.heap.size w w'
theorem sget_none {o : Option (Nat × List UInt8 × Nat)} {w w' : World} {e : Ending} (h : o = none) (he : e = .returned (.tuple #[.int .u64 0, .string ⟨#[]⟩, .int .i64 0, .bool false])) (hb : Below w.heap.size w w') : SGet o w e w' := by
  subst h; exact ⟨fun _ _ _ h => (by cases h), fun _ => he, hb⟩
theorem sget_some {o : Option (Nat × List UInt8 × Nat)} {w w' : World} {e : Ending} {n k : Nat} {s : List UInt8} (h : o = some (n, s, k)) (he : e = .returned (.tuple #[.int .u64 (n : Nat), .string ⟨s.toArray⟩, .int .i64 (k : Nat), .bool true])) (hb : Below w.heap.size w w') : SGet o w e w' := by
  subst h; exact ⟨fun _ _ _ h => (by cases h; exact he), fun h => (by cases h), hb⟩
theorem lists_len (L : List ByteArray) : (lists L).length = L.length := by simp [lists]
theorem lists_get (L : List ByteArray) (k : Nat) (h : k < L.length) : (lists L)[k]'(by rw [lists_len]; exact h) = L[k].data.toList := by simp [lists]
theorem takeText_small {A s r : List UInt8} (h : Ta.takeText A = some (s, r)) : s.length ≤ A.length := by
  have := takeText_len A s r h; omega
theorem strs_own {w : World} {base g cap : Nat} {S : List (List UInt8)} (h : w.ownsRow base 9 1 (.slice (some ⟨g, 0, none⟩) S.length cap) S.length (S.map sv)) : Strs w (some ⟨g, 0, none⟩) (bas S) := by
  obtain ⟨h1, h2⟩ := Rf.own_cell h
  intro j hj
  have hj' : j < S.length := by simpa [bas] using hj
  refine ⟨g, 0, rfl, h1, ?_⟩
  rw [Nat.zero_add]
  refine h2 j _ ?_
  simp [bas, sv, hj']
theorem lists_bas (S : List (List UInt8)) : lists (bas S) = S := by
  unfold lists bas
  rw [List.map_map]
  exact List.map_id S
theorem lists_inj {L M : List ByteArray} (h : lists L = lists M) : L = M := by
  unfold lists at h
  refine (List.map_inj_right ?_).1 h
  intro a b hab
  exact ByteArray.ext (Array.ext' hab)
theorem lists_take (L : List ByteArray) (k : Nat) : lists (L.take k) = (lists L).take k := by unfold lists; rw [List.map_take]
theorem same_yes (w : World) (a b : Option Addr) (n ca cb : Nat) (L M : List ByteArray) (hL : Strs w a L) (hM : Strs w b M) (hl : L.length = n) (hm : M.length = n) (hn : n ≤ 1073741824) (h : L = M) :
    Calls Tryd.prog 30 #[.slice a n ca, .slice b n cb] w fun e w' => e = .returned (.bool true) ∧ Below w.heap.size w w' := by
  subst hl
  have := same_c w a b ca cb L M hL hM hn (by omega)
  rw [hm, decide_eq_true h] at this
  exact this
theorem same_no (w : World) (a b : Option Addr) (n ca cb : Nat) (L M : List ByteArray) (hL : Strs w a L) (hM : Strs w b M) (hl : L.length = n) (hm : M.length = n) (hn : n ≤ 1073741824) (h : L ≠ M) :
    Calls Tryd.prog 30 #[.slice a n ca, .slice b n cb] w fun e w' => e = .returned (.bool false) ∧ Below w.heap.size w w' := by
  subst hl
  have := same_c w a b ca cb L M hL hM hn (by omega)
  rw [hm, decide_eq_false h] at this
  exact this
theorem strs_take {w : World} {a : Option Addr} {L : List ByteArray} (h : Strs w a L) (k : Nat) : Strs w a (L.take k) := by
  intro j hj
  obtain ⟨b, off, h1, h2, h3⟩ := h j (by simp at hj; omega)
  exact ⟨b, off, h1, h2, by simpa using h3⟩
end Go.Proofs.YtjlncjabiofklaaDoor.Shf
