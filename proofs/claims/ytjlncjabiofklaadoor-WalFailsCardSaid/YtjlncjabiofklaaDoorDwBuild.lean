/- Package drive: open writes, built; lists of them, begun. -/
import Derived.Test.YtjlncjabiofklaaDoorDwOps
import Derived.Lib.LazyBuf
import Derived.Deep.AppendLies
namespace Go.Proofs.YtjlncjabiofklaaDoor.Dv
open Go Go.RowKit
theorem wp_build2 {P : Program} {op : Oper} {a : Act} {w w' : World} {K : Act → World → Prop} {Q : Exit → Act → World → Prop} (t : TypeId) (i j : Nat) (x y : Operand) (ho : op.op = .build t #[(i, x), (j, y)]) (vx vy v : Value) (hx : a.eval x = vx) (hy : a.eval y = vy)
    (hr : (Instr.build t #[(i, vx), (j, vy)]).run P w = .ok v w') (h : K (a.put op.dst v) w') : op.wp P a w K Q := by
  unfold Oper.wp execOp
  simp only [ho, List.map_toArray, List.map_cons, List.map_nil, hx, hy, Sem.run_bind, hr, Result.andThen_ok, Sem.run_pure]
  exact h
theorem wp_buildSlice1 {P : Program} {op : Oper} {a : Act} {w w' : World} {K : Act → World → Prop} {Q : Exit → Act → World → Prop} (t : TypeId) (n i : Nat) (x : Operand) (ho : op.op = .buildSlice t n #[(i, x)]) (vx v : Value) (hx : a.eval x = vx)
    (hr : (Instr.buildSlice t n #[(i, vx)]).run P w = .ok v w') (h : K (a.put op.dst v) w') : op.wp P a w K Q := by
  unfold Oper.wp execOp
  simp only [ho, List.map_toArray, List.map_cons, List.map_nil, hx, Sem.run_bind, hr, Result.andThen_ok, Sem.run_pure]
  exact h
theorem fold_list (off : Nat) (l : List Value) : ∀ (k : Nat) (cells : Array Value), off + k + l.length ≤ cells.size → (l.zipIdx k).foldl (fun (cs : Array Value) p => cs.setIfInBounds (off + p.2) p.1) cells = (splice cells.toList (off + k) l).toArray := by
  induction l with
  | nil => intro k cells _; simp [splice]
  | cons v l ih =>
    intro k cells h
    rw [List.zipIdx_cons, List.foldl_cons]
    simp only
    rw [ih (k + 1) _ (by simp at h ⊢; omega)]
    congr 1
    rw [Array.toList_setIfInBounds, show off + (k + 1) = off + k + 1 by omega]
    exact set_splice _ _ _ _ (by simp at h ⊢; omega)
theorem fold_set (off : Nat) (v cells : Array Value) (h : off + v.size ≤ cells.size) : v.zipIdx.foldl (fun (cs : Array Value) (p : Value × Nat) => cs.setIfInBounds (off + p.2) p.1) cells = (splice cells.toList off v.toList).toArray := by
  obtain ⟨l⟩ := v
  have := fold_list off l 0 cells (by simpa using h)
  simpa using this
theorem splice_all (L cs : List Value) (h : L.length = cs.length) : splice L 0 cs = cs := by
  unfold splice
  rw [List.take_zero, List.nil_append, List.drop_eq_nil_of_le (by omega), List.append_nil]
theorem zeroW (u : World) : (zeroValue TW).run Tryd.prog u = .ok (.agg (wc (0, List.replicate 64 0)).toArray) u := by kernel_rfl
theorem fieldsW : ∃ fs, Tryd.prog.underlying TW = some (.struct fs) ∧ ∀ u, (fs.mapM fun (f : Field) => (do pure (f.offset, ← sizeOf f.type) : Sem (Nat × Nat))).run Tryd.prog u = .ok #[(0, 1), (1, 64)] u := ⟨_, Tryd.underlying70, fun u => by kernel_rfl⟩
theorem fill_cons (place : Nat → Option (Nat × Nat)) (cells : Array Value) (i : Nat) (v : Value) (rest : List (Nat × Value)) (off size : Nat) (hp : place i = some (off, size)) (hs : v.cells.size = size) (hf : off + size ≤ cells.size) :
    Instr.fill place cells ((i, v) :: rest) = Instr.fill place (splice cells.toList off v.cells.toList).toArray rest := by
  have e1 := fold_set off v.cells cells (by omega)
  conv => lhs; unfold Instr.fill
  rw [hp]
  dsimp only
  rw [if_neg (by simp [hs]; omega)]
  rw [← e1]
theorem fillW (L0 C : List Value) (k : Int) (hl : L0.length = 65) (hC : C.length = 64) : Instr.fill (#[((0 : Nat), (1 : Nat)), (1, 64)][·]?) L0.toArray [(0, .int .i64 k), (1, .agg C.toArray)] = some (Value.int .i64 k :: C).toArray := by
  have hs : (splice L0 0 [Value.int .i64 k]).length = 65 := by rw [length_splice _ _ _ (by simp; omega), hl]
  have e3 : splice (splice L0 0 [.int .i64 k]) 1 C = .int .i64 k :: C := by
    have hd : (splice L0 0 [Value.int .i64 k]).drop (1 + C.length) = [] := List.drop_eq_nil_of_le (by omega)
    have ht : (splice L0 0 [Value.int .i64 k]).take 1 = [.int .i64 k] := rfl
    show (splice L0 0 [Value.int .i64 k]).take 1 ++ (C ++ (splice L0 0 [Value.int .i64 k]).drop (1 + C.length)) = _
    rw [hd, ht, List.append_nil]
    rfl
  rw [fill_cons _ _ _ _ _ 0 1 rfl rfl (by simp; omega)]
  rw [fill_cons _ _ _ _ _ 1 64 rfl (by simp [Value.cells, hC]) (by
    show 1 + 64 ≤ (splice L0 0 [Value.int .i64 k]).toArray.size
    simp [hs])]
  show some (splice (splice L0 0 [Value.int .i64 k]) 1 C).toArray = _
  rw [e3]
theorem fillS (L0 : Array Value) (X : List Value) (hl : L0.size = 65) (hX : X.length = 65) : Instr.fill (fun i => some (i * 65, 65)) L0 [(0, .agg X.toArray)] = some X.toArray := by
  rw [fill_cons _ _ _ _ _ 0 65 rfl (by simp [Value.cells, hX]) (by omega)]
  show some (splice L0.toList 0 X).toArray = _
  rw [splice_all _ _ (by simp; omega)]
theorem buildW (k : Int) (C : List Value) (hC : C.length = 64) (u : World) : (Instr.build TW #[(0, .int .i64 k), (1, .agg C.toArray)]).run Tryd.prog u = .ok (.agg (Value.int .i64 k :: C).toArray) u := by
  obtain ⟨fs, h1, h2⟩ := fieldsW
  have hz := zeroW u
  have hf := fillW (wc (0, List.replicate 64 0)) C k (by decide) hC
  unfold Instr.build
  rw [Sem.run_bind, hz]
  simp only [Result.andThen_ok]
  rw [Sem.run_bind, run_underlying h1 u]
  simp only [Result.andThen_ok]
  rw [Sem.run_bind, h2 u]
  simp only [Result.andThen_ok]
  rw [show (Value.agg (wc (0, List.replicate 64 0)).toArray).cells = (wc (0, List.replicate 64 0)).toArray from rfl, hf]
  rfl
theorem sliceW (X : List Value) (hX : X.length = 65) (u : World) : (Instr.buildSlice 48 1 #[(0, .agg X.toArray)]).run Tryd.prog u = .ok (.slice (some ⟨u.heap.size, 0, none⟩) 1 1) (u.alloc (.cells X.toArray TW)) := by
  have hz : (zeroValue TW).run Tryd.prog u = .ok (.agg (wc (0, List.replicate 64 0)).toArray) u := zeroW u
  have hs : (sizeOf TW).run Tryd.prog u = .ok 65 u := by kernel_rfl
  unfold Instr.buildSlice
  rw [Sem.run_bind, run_underlying Tryd.underlying48 u]
  simp only [Result.andThen_ok]
  rw [Sem.run_bind, hs]
  simp only [Result.andThen_ok]
  rw [if_neg (by decide), if_neg (by decide), Sem.run_bind, hz]
  simp only [Result.andThen_ok]
  rw [Sem.run_bind, Sem.run_pure]
  simp only [Result.andThen_ok]
  rw [fillS _ X (by simp) hX]
  rfl
end Go.Proofs.YtjlncjabiofklaaDoor.Dv
