/- Package quittancelaw04: what the walk of torn sheaves leans on. -/
import Derived.Test.YtbmlnodimcalgaaDoorSfOne
namespace Go.Proofs.YtbmlnodimcalgaaDoor.Shf
open Go.RowKit Tal Rf Cm
/-- A writing that came in: where, how far above, its text, how much of each leaf. -/
structure Ovr where
  f : Nat
  m : Nat
  S : ByteArray
  a : Option Addr
  cap : Nat
  N : List Int
def Ints (w : World) (a : Option Addr) (N : List Int) : Prop := ∀ j (h : j < N.length), ∃ b off, a = some ⟨b, off, none⟩ ∧ b < w.heap.size ∧ w.cell? ⟨b, off + j, none⟩ = some (.int .i64 N[j])
theorem Ints.later {w w' : World} {a : Option Addr} {N : List Int} (h : Ints w a N) (hb : Below w.heap.size w w') : Ints w' a N := by
  intro j hj
  obtain ⟨b, off, ha, hlt, hc⟩ := h j hj
  exact ⟨b, off, ha, Nat.lt_of_lt_of_le hlt hb.size, by rw [hb.cell (by simpa using hlt)]; exact hc⟩
structure Ov4 (w : World) (g o : Nat) (x : Ovr) : Prop where
  lt : g < w.heap.size
  c0 : w.cell? ⟨g, o, none⟩ = some (.int .u8 (x.f : Int))
  c1 : w.cell? ⟨g, o + 1, none⟩ = some (.int .u16 (x.m : Int))
  c2 : w.cell? ⟨g, o + 2, none⟩ = some (.string x.S)
  c3 : w.cell? ⟨g, o + 3, none⟩ = some (.slice x.a x.N.length x.cap)
theorem Ov4.later {w w' : World} {g o : Nat} {x : Ovr} (h : Ov4 w g o x) (hb : Below w.heap.size w w') : Ov4 w' g o x :=
  ⟨Nat.lt_of_lt_of_le h.lt hb.size, (hb.cell (p := ⟨g, _, none⟩) h.lt).trans h.c0, (hb.cell (p := ⟨g, _, none⟩) h.lt).trans h.c1, (hb.cell (p := ⟨g, _, none⟩) h.lt).trans h.c2, (hb.cell (p := ⟨g, _, none⟩) h.lt).trans h.c3⟩
theorem Ov4.set {w : World} {g o g0 i : Nat} {x : Ovr} (h : Ov4 w g o x) (v : Value) (hne : g ≠ g0) : Ov4 (w.setCell ⟨g0, i, none⟩ v) g o x :=
  ⟨by simpa [World.setCell] using h.lt, (World.cell?_setCell_other _ _ _ _ (by intro e; injection e with e; exact hne e.symm)).trans h.c0, (World.cell?_setCell_other _ _ _ _ (by intro e; injection e with e; exact hne e.symm)).trans h.c1, (World.cell?_setCell_other _ _ _ _ (by intro e; injection e with e; exact hne e.symm)).trans h.c2, (World.cell?_setCell_other _ _ _ _ (by intro e; injection e with e; exact hne e.symm)).trans h.c3⟩
def OvrOk (x : Ovr) : Prop := x.f ≤ 255 ∧ x.m ≤ 65535 ∧ x.S.size ≤ 9223372036854775807 ∧ x.N.length ≤ 9223372036854775807 ∧ ∀ n ∈ x.N, -9223372036854775808 ≤ n ∧ n ≤ 9223372036854775807
def OvsT (w : World) (a : Option Addr) (L : List Ovr) : Prop := ∀ j (h : j < L.length), ∃ b off, a = some ⟨b, off, none⟩ ∧ Ov4 w b (off + j * 4) L[j] ∧ Ints w L[j].a L[j].N
/-- Rows of strings: cells, and what calls ask. -/
theorem strs_row {w : World} {g : Nat} {B : List (List UInt8)} (h : RowAt w g (B.map sv)) : Strs w (some ⟨g, 0, none⟩) (bas B) := by
  intro j hj
  have hj' : j < B.length := by rw [bas_len] at hj; exact hj
  refine ⟨g, 0, rfl, h.lt, ?_⟩
  rw [Nat.zero_add]
  have := RowAt.cell h j (by simpa using hj')
  rw [this]
  simp [sv, bas]
theorem strs_drop {w : World} {g : Nat} {B : List (List UInt8)} (h : RowAt w g (B.map sv)) (k : Nat) : Strs w (some ⟨g, k, none⟩) (bas (B.drop k)) := by
  intro j hj
  have hj' : j < (B.drop k).length := by rw [bas_len] at hj; exact hj
  rw [List.length_drop] at hj'
  refine ⟨g, k, rfl, h.lt, ?_⟩
  have := RowAt.cell h (k + j) (by simp; omega)
  rw [this]
  simp [sv, bas, List.getElem_drop]
theorem row_at {w : World} {g : Nat} {B : List (List UInt8)} (h : RowAt w g (B.map sv)) (k : Nat) (hk : k < B.length) : w.cell? ⟨g, k, none⟩ = some (.string ⟨B[k].toArray⟩) ∧ w.frozen? ⟨g, k, none⟩ = false := by
  refine ⟨?_, RowAt.free h k (by simpa using hk)⟩
  have := RowAt.cell h k (by simpa using hk)
  rw [this]
  simp [sv]
theorem row_set {w : World} {g : Nat} {B : List (List UInt8)} (h : RowAt w g (B.map sv)) (k : Nat) (x : List UInt8) : RowAt (w.setCell ⟨g, k, none⟩ (.string ⟨x.toArray⟩)) g ((B.set k x).map sv) := by
  have := RowAt.set h k (sv x)
  rw [List.map_set]
  exact this
/-- Twelve new strings. -/
def mks (u : World) : World := u.alloc (.cells (madeCells #[.string ⟨#[]⟩] 12) 9)
theorem makes (u : World) : (Instr.makeSlice 24 (.int .i64 12) (.int .i64 12)).run Tryd.prog u = .ok (.slice (some ⟨u.heap.size, 0, none⟩) 12 12) (mks u) := by
  obtain ⟨i0, hi, hz0, hz1, hz2⟩ := info_parts infoStr
  have := run_make (P := Tryd.prog) u 24 9 i0 (.string ⟨#[]⟩) Tryd.underlying24 hi hz0 .i64 .i64 12 12 (by omega) (by omega) (by rw [hz2]; omega) (by omega)
  rw [hz1] at this
  simpa [mks, Value.cells] using this
theorem mks_row (u : World) : RowAt (mks u) u.heap.size ((List.replicate 12 ([] : List UInt8)).map sv) := by
  have h := row_new u (List.replicate 12 (.string ⟨#[]⟩)) 9
  have e : ∀ n : Nat, (List.replicate n (Value.string ⟨#[]⟩)).toArray = madeCells #[.string ⟨#[]⟩] n := by
    intro n
    unfold madeCells
    apply Array.ext'
    simp
    refine List.ext_getElem (by simp) fun j h1 h2 => ?_
    simp [Nat.mod_one]
  rw [e 12] at h
  have e2 : (List.replicate 12 ([] : List UInt8)).map sv = List.replicate 12 (.string ⟨#[]⟩) := by rw [List.map_replicate]; rfl
  rw [e2]
  exact h
theorem below_mks (u : World) : Below u.heap.size u (mks u) := (Below.refl _ u).alloc (Nat.le_refl _) _
def z64 : List UInt8 := List.replicate 64 0
def mk64 (u : World) : World := mkn 64 u
theorem make64 (u : World) : (Instr.makeSlice 39 (.int .i64 64) (.int .i64 64)).run Tryd.prog u = .ok (.slice (some ⟨u.heap.size, 0, none⟩) 64 64) (mk64 u) := maken 64 (by omega) u
theorem con64 (u : World) : (convert 39 9 (.slice (some ⟨u.heap.size, 0, none⟩) 64 64)).run Tryd.prog (mk64 u) = .ok (.string ⟨z64.toArray⟩) (mk64 u) := conn 64 u
theorem below_mk64 (u : World) : Below u.heap.size u (mk64 u) := (Below.refl _ u).alloc (Nat.le_refl _) _
theorem torn_str (X B : ByteArray) (n : Nat) : X.extract 0 n ++ B.extract n B.size = ⟨(Lf.torn X.data.toList B.data.toList n).toArray⟩ := by
  rw [Le.ext_take, Le.ext_drop, Le.cat_mk2]
  rfl
/-- How many bytes of a leaf are written. -/
def clampN (v : Int) : Nat := if v < 0 then 0 else if 64 < v then 64 else v.toNat
theorem clampN_le (v : Int) : clampN v ≤ 64 := by unfold clampN; split <;> (try split) <;> omega
/-- What the row of writings is. -/
def Was (w : World) (base : Nat) (v : Value) (W : List Sf.Wr) : Prop := w.ownsRow base 46 4 v W.length (wrs W)
theorem infoDone : (Tryd.prog.info? 46).map (fun i => (i.zero, i.size, i.bytes)) = some (some (.agg #[.int .i64 0, .int .i64 0, .int .u64 0, .string ⟨#[]⟩]), 4, 40) := by kernel_rfl
theorem four_new (W : World) (a b c d : Value) (t : TypeId) : ∀ (j : Nat) (u : Value), [a, b, c, d][j]? = some u → (W.alloc (.cells #[a, b, c, d] t)).cell? (Addr.add ⟨W.heap.size, 0, none⟩ j) = some u := by
  intro j u h
  have e : Addr.add ⟨W.heap.size, 0, none⟩ j = ⟨W.heap.size, j, none⟩ := by unfold Addr.add; simp; exact fun h => h.symm
  rw [e]
  rcases j with _|_|_|_|j
  · simp at h; subst h; simp [go_sem]
  · simp at h; subst h; simp [go_sem]
  · simp at h; subst h; simp [go_sem]
  · simp at h; subst h; simp [go_sem]
  · simp at h
theorem Was.later {w w' : World} {base : Nat} {v : Value} {W : List Sf.Wr} (h : Was w base v W) (hb : Below w.heap.size w w') : Was w' base v W := Rf.own_later h hb
theorem own_set' {w : World} {base e size n b k : Nat} {v : Value} {xs : List Value} (h : w.ownsRow base e size v n xs) (hb : b < base) (u : Value) : (w.setCell ⟨b, k, none⟩ u).ownsRow base e size v n xs :=
  h.kept (row := some b) ⟨rfl, rfl, rfl, by simp [World.setCell], fun j _ hj => Below.heap_setCell _ _ _ _ (fun e => hj (by simp [e]))⟩ (.inr (own_ne h hb).symm)
end Go.Proofs.YtbmlnodimcalgaaDoor.Shf
