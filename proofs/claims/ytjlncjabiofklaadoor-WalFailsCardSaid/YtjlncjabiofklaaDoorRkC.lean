/- Joined: RkRef RkRef2. -/
import Derived.Test.YtjlncjabiofklaaDoorRkPut
import Derived.Test.YtjlncjabiofklaaDoorSfRPut
import Derived.Laws.AppendOwnNone
section
namespace Go.Proofs.YtjlncjabiofklaaDoor.Rk
open Go Go.RowKit Dv Rf Shf
open Tal (Strs bas)
theorem wpList_append_strs {ops : Array Oper} {rest : List Oper} {o : Oper} {a : Act} {Q : Exit → Act → World → Prop} {w : World} (hgd : o.guard = none) (s x : Operand)
    (ho : o.op = .call { callee := .builtin .append, args := #[s, x], argTypes := #[35, 35] })
    (base : Nat) (v : Value) (n : Nat) (xs : List Value) (hs : a.eval s = v) (hown : w.ownsRow base 9 1 v n xs)
    (A : Option Addr) (L : List ByteArray) (cap : Nat) (hx : a.eval x = .slice A L.length cap) (hL : Strs w A L) (h0 : A = none → cap = 0) (hl : n + L.length ≤ 1000000) (hbase : base ≤ w.heap.size)
    (h : ∀ v' w', w'.ownsRow base 9 1 v' (n + L.length) (xs ++ L.map Value.string) → w.grownBy w' v.ownBlock → wpList Tryd.prog ops Q rest (a.put o.dst v') w') : wpList Tryd.prog ops Q (o :: rest) a w := by
  obtain ⟨i0, hi, hz0, hz1, hz2⟩ := info_parts Rk.infoStr
  cases A with
  | none =>
    cases L with
    | nil =>
      obtain rfl := h0 rfl
      exact wpList_append_own_none hgd s x 35 ho base 9 i0 1 Tryd.underlying35 hi v n xs hs hown hx (h v w (by simpa using hown) (World.grownBy.refl w _))
    | cons y t =>
      obtain ⟨_, _, h1, _⟩ := hL 0 (by simp)
      cases h1
  | some ad =>
    refine wpList_append_own w hgd s x 35 ho base 9 i0 (.string ⟨#[]⟩) 1 16 Tryd.underlying35 hi hz0 hz1 hz2 rfl (by decide) v n xs hs hown ad L.length cap (L.map Value.string) hx (by simp) ?_ ?_ (by unfold maxLen; omega) (by omega) hbase (fun v' w' h1 h2 _ => h v' w' h1 h2)
    · intro j u hu
      have hj : j < L.length := by
        rcases Nat.lt_or_ge j L.length with h' | h'
        · exact h'
        · simp [List.getElem?_eq_none h'] at hu
      obtain ⟨b, off, h1, _, h3⟩ := hL j hj
      obtain rfl := Option.some.inj h1
      have hu' : Value.string L[j] = u := by simpa [hj] using hu
      rw [Go.WideShapes.add_plain, h3, hu']
    · intro u hu
      obtain ⟨y, _, rfl⟩ := List.mem_map.1 hu
      rfl
theorem own_zero (W : World) (t base size : Nat) (hb : base ≤ W.heap.size) : (W.alloc (.cells #[] t)).ownsRow base t size (.slice (some ⟨W.heap.size, 0, none⟩) 0 0) 0 [] :=
  ⟨by simp, .inr ⟨W.heap.size, 0, #[], rfl, hb, World.alloc_heap_new W _, Nat.le_refl _, by unfold maxLen; omega, by simp, by simp⟩⟩
/-- A row of strings of one's own. -/
def Ow (base : Nat) (w : World) (v : Value) (L : List Sec) : Prop := w.ownsRow base TStr 1 v L.length (L.map sv)
theorem bas_len (S : List Sec) : (bas S).length = S.length := by simp [bas]
section
variable {b b' : Nat} {w w' : World} {v : Value} {L : List Sec}
theorem Ow.later (h : Ow b w v L) (k : Below w.heap.size w w') : Ow b w' v L := own_later h k
theorem Ow.lower (h : Ow b w v L) (hb : b' ≤ b) : Ow b' w v L := own_lower h hb
theorem Ow.keeps {T : Nat → Prop} (h : Ow b w v L) (k : Keeps T w w') (hT : ∀ j, v.ownBlock = some j → ¬ T j) : Ow b w' v L := own_keeps h k hT
theorem Ow.form (h : Ow b w v L) : ∃ A cap, v = .slice A L.length cap ∧ L.length ≤ cap ∧ Strs w A (bas L) ∧ (A = none → cap = 0) ∧ ∀ g off, A = some ⟨g, off, none⟩ → off = 0 ∧ v.ownBlock = some g := by
  rcases id h.2 with ⟨rfl, h0⟩ | ⟨g, cap, cur, rfl, hg, hb, hn, _⟩
  · have hL : L = [] := by simpa using h0
    subst hL
    exact ⟨none, 0, rfl, Nat.le_refl _, fun j hj => absurd hj (by simp [bas]), fun _ => rfl, fun g off e => by cases e⟩
  · exact ⟨some ⟨g, 0, none⟩, cap, rfl, hn, strs_own h, fun e => (by cases e), fun g' off e => by cases e; exact ⟨rfl, rfl⟩⟩
end
def RtRes (L : List Sec) (w : World) (e : Ending) (w' : World) : Prop := ∃ v s, e = .returned (.tuple #[v, .int .u64 (s.first : Int), .int .i64 (s.e : Int)]) ∧ Loaded L s ∧ Ow w.heap.size w' v s.T ∧ Below w.heap.size w w'
end Go.Proofs.YtjlncjabiofklaaDoor.Rk
end
section
namespace Go.Proofs.YtjlncjabiofklaaDoor.Rk
open Go Go.RowKit Dv Rf Shf
open Tal (Strs bas)
theorem slice_to (a : Option Addr) (n cap e : Nat) (he : e ≤ n) (hc : n ≤ cap) (h0 : a = none → cap = 0) :
    ∃ a' c', (∀ u, (Instr.sliceAt 35 (.slice a n cap) none (some (.int .i64 (e : Int))) none).run Tryd.prog u = .ok (.slice a' e c') u) ∧ (a' = none → c' = 0) ∧ ∀ (L : List ByteArray) (w : World), L.length = n → Strs w a L → Strs w a' (L.take e) := by
  refine ⟨if cap = 0 then a else a.map (·.add (0 * 1)), cap, fun u => ?_, fun h => ?_, fun L w hl h j hj => ?_⟩
  · rw [run_sliceAt_slice _ _ _ _ _ _ und_strs, run_slice_h _ _ _ _ _ und_strs .i64 (e : Int) (by omega) (by omega)]
    rw [sz_str]
    simp [Result.andThen, sliced]
  · split at h
    · assumption
    · cases a with
      | none => exact h0 rfl
      | some ad => simp at h
  · have hj' : j < L.length := by simp at hj; omega
    obtain ⟨b, off, rfl, hb, hc'⟩ := h j hj'
    rw [if_neg (by omega)]
    exact ⟨b, off, by simp [Addr.add], hb, by rw [List.getElem_take]; exact hc'⟩
theorem slice_from0 (a : Option Addr) (n cap e : Nat) (he : e ≤ n) (hc : n ≤ cap) (h0 : a = none → cap = 0) :
    ∃ a', (∀ u, (Instr.sliceAt 35 (.slice a n cap) (some (.int .i64 (e : Int))) none none).run Tryd.prog u = .ok (.slice a' (n - e) (cap - e)) u) ∧ (a' = none → cap - e = 0) ∧ ∀ (L : List ByteArray) (w : World), L.length = n → Strs w a L → Strs w a' (L.drop e) := by
  refine ⟨if cap = e then a else a.map (·.add (e * 1)), fun u => ?_, fun h => ?_, fun L w hl h j hj => ?_⟩
  · rw [run_sliceAt_slice _ _ _ _ _ _ und_strs, run_slice_l _ _ _ _ _ und_strs .i64 (e : Int) (by omega) (by omega)]
    rw [sz_str]
    simp [Result.andThen, sliced]
  · split at h
    · omega
    · cases a with
      | none => have := h0 rfl; omega
      | some ad => simp at h
  · have hj' : e + j < L.length := by simp at hj; omega
    obtain ⟨b, off, rfl, hb, hc'⟩ := h (e + j) hj'
    rw [if_neg (by omega)]
    exact ⟨b, off + e, by simp [Addr.add], hb, by rw [show off + e + j = off + (e + j) by omega, List.getElem_drop]; exact hc'⟩
/-- A put, by definition. -/
def rputM (L : List Sec) (p n : Nat) (t : List UInt8) : List Sec × Int :=
  if n ≤ Sf.top L then (L, 2) else if 98304 < t.length then (L, 3) else if L.length < p + Sf.many t.length then (L, 6) else (placed L p (Sf.sheaf n t), 0)
/-- What a put by definition hands out. -/
def RpRes (v : Value) (L : List Sec) (M : List Sec × Int) (w : World) (e : Ending) (w' : World) : Prop :=
  Below w.heap.size w w' ∧ ((M.2 ≠ 0 ∧ M.1 = L ∧ e = .returned (.tuple #[v, .int .i64 M.2])) ∨ (M.2 = 0 ∧ ∃ v', e = .returned (.tuple #[v', .int .i64 0]) ∧ Ow w.heap.size w' v' M.1))
theorem strs_ow {w : World} {base : Nat} {v : Value} {n : Nat} {X : List ByteArray} {S : List Sec} (h : w.ownsRow base TStr 1 v n (X.map Value.string)) (hX : X = bas S) : Ow base w v S := by
  subst hX
  have hn : n = S.length := by have := h.1; simpa [bas] using this.symm
  subst hn
  unfold Ow
  rw [← bas_cells]
  exact h
theorem map_bas (S : List Sec) : S.map sv = (bas S).map Value.string := (bas_cells S).symm
/-- n new bytes. -/
def mkn (n : Nat) (u : World) : World := u.alloc (.cells (madeCells #[.int .u8 0] n) 5)
theorem infou8 : (Tryd.prog.info? 5).map (fun i => (i.zero, i.size, i.bytes)) = some (some (.int .u8 0), 1, 1) := by kernel_rfl
theorem maken (n : Nat) (hn : n ≤ 1000) (u : World) : (Instr.makeSlice 71 (.int .i64 (n : Int)) (.int .i64 (n : Int))).run Tryd.prog u = .ok (.slice (some ⟨u.heap.size, 0, none⟩) n n) (mkn n u) := by
  obtain ⟨i0, hi, hz0, hz1, hz2⟩ := info_parts infou8
  have := run_make (P := Tryd.prog) u 71 5 i0 (.int .u8 0) Tryd.underlying71 hi hz0 .i64 .i64 n n (by omega) (by omega) (by rw [hz2]; omega) (by omega)
  rw [hz1] at this
  simpa [mkn, Value.cells] using this
theorem mkn_row (n : Nat) (u : World) : Cm.RowAt (mkn n u) u.heap.size ((List.replicate n (0 : UInt8)).map Le.bv) := by
  have h := Cm.row_new u (List.replicate n (.int .u8 0)) 5
  have e : (List.replicate n (Value.int .u8 0)).toArray = madeCells #[.int .u8 0] n := by
    unfold madeCells
    apply Array.ext'
    simp
    refine List.ext_getElem (by simp) fun j h1 h2 => ?_
    simp [Nat.mod_one]
  rw [e] at h
  have e2 : (List.replicate n (0 : UInt8)).map Le.bv = List.replicate n (.int .u8 0) := by rw [List.map_replicate]; rfl
  rw [e2]
  exact h
theorem conn (n : Nat) (u : World) : (convert 71 9 (.slice (some ⟨u.heap.size, 0, none⟩) n n)).run Tryd.prog (mkn n u) = .ok (.string ⟨(List.replicate n (0 : UInt8)).toArray⟩) (mkn n u) := by
  have h := Le.row_str (cap := n) (mkn_row n u)
  rwa [List.length_replicate] at h
theorem below_mkn (n : Nat) (u : World) : Below u.heap.size u (mkn n u) := (Below.refl _ u).alloc (Nat.le_refl _) _
theorem size_mkn (n : Nat) (u : World) : (mkn n u).heap.size = u.heap.size + 1 := by simp [mkn]
def zs : Sec := List.replicate 64 0
end Go.Proofs.YtjlncjabiofklaaDoor.Rk
end
