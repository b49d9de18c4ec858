/- Package order: Get. -/
import Derived.Test.YtoicnpekbpphjaaOrIter
namespace Go.Proofs.Ytoicnpekbpphjaa.Or
open Go.RowKit Go.Shelf Cm Rf
attribute [local go_sem] Oper.semAt_some
theorem Bears.and {β : Type} {B : Nat} {J K : β → World → Prop} (h : Bears B J) (k : Bears B K) : Bears B (fun s W => J s W ∧ K s W) :=
  fun s W l o o' h1 h2 h3 hs => ⟨h s W l o o' h1 h2 h3 hs.1, k s W l o o' h1 h2 h3 hs.2⟩
theorem boxed_cells {W : World} {B : Nat} {t : TypeId} {v : Value} (h : Boxed W B t v) : W.cell? ⟨B, 0, none⟩ = some v ∧ W.frozen? ⟨B, 0, none⟩ = false ∧ B < W.heap.size := ⟨h.cell, h.frozen, h.lt⟩
theorem boxed_put {W : World} {B l : Nat} {t : TypeId} {v : Value} {o : Obj} (h : Boxed W B t v) (o' : Obj) (hl : W.heap[l]? = some o) (ho : o.isCells = false) : Boxed (W.putObj l o') B t v :=
  h.kept (grownBy_putObj' W l o') (by intro e; cases e; rw [show W.heap[B]? = _ from h] at hl; cases hl; cases ho)
theorem put2 {W : World} {a b t u : Nat} {v v' : Value} (p q : Value) (ha : Boxed W a t v) (hb : Boxed W b u v') (hne : a ≠ b) :
    Boxed ((W.setCell ⟨a, 0, none⟩ p).setCell ⟨b, 0, none⟩ q) a t p ∧ Boxed ((W.setCell ⟨a, 0, none⟩ p).setCell ⟨b, 0, none⟩ q) b u q :=
  ⟨boxed_other (ha.set p) q hne, (boxed_other hb p hne.symm).set q⟩
theorem _root_.Go.Proofs.Ytoicnpekbpphjaa.Rf.Bxs.moved {w0 W W' : World} {l : List (Nat × TypeId × Value)} (h : Bxs w0 l W) (hj : ∀ x ∈ l, W'.heap[x.1]? = W.heap[x.1]?) (hb : Below w0.heap.size w0 W') : Bxs w0 l W' := ⟨fun x hx => (hj x hx).trans (h.all x hx), hb⟩
theorem others_below {W W' : World} (h : Below W.heap.size W W') : KeepsOthers W W' := ⟨h.size, fun _ _ hk _ => lies_below hk h⟩
set_option maxHeartbeats 400000 in
theorem res_get {W : World} {tmps : Array Value} {a b : Nat} {v : Value} {q : Int} (h4 : tmps[4]?.getD undef = .pointer (some ⟨a, 0, none⟩)) (h5 : tmps[5]?.getD undef = .pointer (some ⟨b, 0, none⟩))
    (P4 : Boxed W a 22 v) (P5 : Boxed W b 27 (.int .i64 q)) : (results Try.f16 tmps).run Try.prog W = .ok (.tuple #[v, .int .i64 q]) W := by
  have c4 := P4.cell
  have c5 := P5.cell
  simp [results, Try.results16, h4, h5, go_sem, c4, c5]
theorem lay2 (p : Value) (q : Int) (w : World) :
    Boxed ((w.alloc (.cells #[p] 22)).alloc (.cells #[.int .i64 q] 27)) w.heap.size 22 p ∧
    Boxed ((w.alloc (.cells #[p] 22)).alloc (.cells #[.int .i64 q] 27)) (w.heap.size + 1) 27 (.int .i64 q) ∧
    Below w.heap.size w ((w.alloc (.cells #[p] 22)).alloc (.cells #[.int .i64 q] 27)) := by
  refine ⟨(Boxed.new w _ _).alloc _, ?_, ((Below.refl _ w).alloc (Nat.le_refl _) _).alloc (by simp) _⟩
  have := Boxed.new (w.alloc (.cells #[p] 22)) 27 (.int .i64 q)
  simpa using this
theorem infoField : (Try.prog.info? 47).map (fun i => (i.zero, i.size, i.bytes)) = some (some (.agg #[.int .u64 0, .int .i64 0, .string ⟨#[]⟩]), 3, 32) := by kernel_rfl
def cells3 (L : List Fd) : List Value := L.flatMap fun f => [.int .u64 f.n, .int .i64 f.i, .string f.s]
theorem cells3_snoc (L : List Fd) (f : Fd) : cells3 (L ++ [f]) = cells3 L ++ [.int .u64 f.n, .int .i64 f.i, .string f.s] := by simp [cells3]
theorem cells3_at : ∀ (L : List Fd) (j : Nat) (h : j < L.length), (cells3 L)[j * 3]? = some (.int .u64 L[j].n) ∧ (cells3 L)[j * 3 + 1]? = some (.int .i64 L[j].i) ∧ (cells3 L)[j * 3 + 2]? = some (.string L[j].s)
  | f :: L, 0, _ => ⟨rfl, rfl, rfl⟩
  | f :: L, j + 1, h => by
    have ih := cells3_at L j (by simpa using h)
    have e : cells3 (f :: L) = [.int .u64 f.n, .int .i64 f.i, .string f.s] ++ cells3 L := by simp [cells3]
    rw [e]
    simp only [List.getElem_cons_succ]
    refine ⟨?_, ?_, ?_⟩
    · rw [List.getElem?_append_right (by simp; omega)]; rw [← ih.1]; congr 1; simp; omega
    · rw [List.getElem?_append_right (by simp; omega)]; rw [← ih.2.1]; congr 1; simp; omega
    · rw [List.getElem?_append_right (by simp; omega)]; rw [← ih.2.2]; congr 1; simp; omega
/-- A row of fields of one's own. -/
theorem own_fds {w : World} {base : Nat} {v : Value} {L : List Fd} {t : TypeId} (h : w.ownsRow base t 3 v L.length (cells3 L)) : ∃ a cap, v = .slice a L.length cap ∧ Fds w a L := by
  rcases Nat.eq_zero_or_pos L.length with h0 | h0
  · rcases h.2 with ⟨rfl, _⟩ | ⟨g, cap, cur, rfl, _⟩
    · exact ⟨none, 0, by rw [h0], fun j hj => by omega⟩
    · exact ⟨_, _, rfl, fun j hj => by omega⟩
  · obtain ⟨g, cap, rfl⟩ := own_form h h0
    obtain ⟨hl, hc⟩ := own_cell h
    refine ⟨_, _, rfl, fun j hj => ⟨g, 0, rfl, hl, ?_⟩⟩
    obtain ⟨h1, h2, h3⟩ := cells3_at L j hj
    exact ⟨by rw [Nat.zero_add]; exact hc _ _ h1, by rw [Nat.zero_add]; exact hc _ _ h2, by rw [Nat.zero_add]; exact hc _ _ h3⟩
theorem three_new (W : World) (a b c : Value) (t : TypeId) : ∀ (j : Nat) (u : Value), [a, b, c][j]? = some u → (W.alloc (.cells #[a, b, c] t)).cell? (Addr.add ⟨W.heap.size, 0, none⟩ j) = some u := by
  intro j u h
  rw [Go.WideShapes.add_plain, Nat.zero_add, World.cell?_alloc_at _ _ _ _ rfl]
  rcases j with _|_|_|j
  · simpa using h
  · simpa using h
  · simpa using h
  · simp at h
def GetRes (K B : List UInt8) (w : World) (e : Ending) (w' : World) : Prop :=
  ∃ a cap, e = .returned (.tuple #[.slice a (getF K B).1.length cap, .int .i64 (getF K B).2]) ∧ Fds w' a (getF K B).1 ∧ Below w.heap.size w w'
theorem get_kinds {K B : List UInt8} (h : kindsB K = false) : getF K B = ([], 2) := by unfold getF; rw [h]; rfl
theorem get_long {K B : List UInt8} (h : kindsB K = true) (hl : 1024 < B.length) : getF K B = ([], 3) := by unfold getF; rw [h]; simp [hl]
theorem get_none {K B : List UInt8} (h : kindsB K = true) (hl : ¬ 1024 < B.length) (ht : takeAll K B = none) : getF K B = ([], 5) := by unfold getF; rw [h, ht]; simp [hl]
theorem get_some {K B : List UInt8} {L : List Fd} (h : kindsB K = true) (hl : ¬ 1024 < B.length) (ht : takeAll K B = some L) : getF K B = (L, 0) := by unfold getF; rw [h, ht]; simp [hl]
theorem nil_res {K B : List UInt8} {q : Int} {w w' : World} (h : getF K B = ([], q)) (hb : Below w.heap.size w w') : GetRes K B w (.returned (.tuple #[.slice none 0 0, .int .i64 q])) w' := by
  refine ⟨none, 0, by rw [h]; rfl, fun j hj => ?_, hb⟩
  rw [h] at hj; simp at hj
set_option maxRecDepth 100000 in
set_option maxHeartbeats 1600000 in
theorem pget_no (K F : ByteArray) (w : World) (hK : K.size ≤ 100000) (hF : F.size ≤ 100000) (h : kindsB K.data.toList = false ∨ (kindsB K.data.toList = true ∧ 1024 < F.size)) :
    Calls Try.prog 16 #[.string K, .string F] w (GetRes K.data.toList F.data.toList w) := by
  have KK := Lib.hid (fun w => kinds_c K w (by omega))
  rcases h with h | ⟨h, hl⟩
  · have HR := Lib.hid (get_kinds (B := F.data.toList) h)
    rw [h] at KK
    clear h
    go_enter Try.func16, Try.ntmps16
    go_wp2_with fail
    refine (KK.out _).mono ?_
    rintro e w1 ⟨rfl, rfl⟩
    go_wp2_with fail
    have hl := lay2 (.slice none 0 0) 2 w
    exact bodyPost_ret (res_get rfl rfl hl.1 hl.2.1) rfl (nil_res HR.out hl.2.2)
  · have HR := Lib.hid (get_long (B := F.data.toList) h (by simpa using hl))
    have q1 : (1024 : Int) < (F.size : Int) := by omega
    rw [h] at KK
    clear h hl
    go_enter Try.func16, Try.ntmps16
    go_wp2_with fail
    refine (KK.out _).mono ?_
    rintro e w1 ⟨rfl, rfl⟩
    go_wp2_with fail
    have hl := lay2 (.slice none 0 0) 3 w
    exact bodyPost_ret (res_get rfl rfl hl.1 hl.2.1) rfl (nil_res HR.out hl.2.2)
end Go.Proofs.Ytoicnpekbpphjaa.Or
