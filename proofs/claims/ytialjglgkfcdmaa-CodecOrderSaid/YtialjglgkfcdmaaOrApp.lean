/- Bytes that are appended to a row of one's own. -/
import Derived.Test.YtialjglgkfcdmaaOrRow
import Derived.Test.YtialjglgkfcdmaaOrEnc
import Derived.Laws.OwnMore
namespace Go.Proofs.Ytialjglgkfcdmaa.Or
open Go.RowKit Cm
theorem _root_.Go.Proofs.Ytialjglgkfcdmaa.Try.info5 : (Try.prog.info? 5).map (fun i => (i.zero, i.size, i.bytes)) = some (some (.int .u8 0), 1, 1) := by kernel_rfl
/-- A row of bytes of one's own. -/
def OwnB (base : Nat) (w : World) (v : Value) (l : List UInt8) : Prop := w.ownsRow base 5 1 v l.length (l.map bv)
theorem OwnB.nil (base : Nat) (w : World) : OwnB base w (.slice none 0 0) [] := World.ownsRow_nil w _ _ _
theorem OwnB.ge {w : World} {base k : Nat} {v : Value} {l : List UInt8} (h : OwnB base w v l) (hk : v.ownBlock = some k) : base ≤ k ∧ k < w.heap.size := World.ownsRow.lt h k hk
theorem OwnB.later {w w' : World} {base : Nat} {v : Value} {l : List UInt8} (h : OwnB base w v l) (hb : Below w.heap.size w w') : OwnB base w' v l := by
  refine World.ownsRow.kept h (row := none) ⟨hb.os, hb.tape, hb.output, hb.size, fun k hk _ => hb.block k hk⟩ ?_
  cases hv : v.ownBlock with
  | none => exact .inl rfl
  | some k => exact .inr (by simp)
theorem OwnB.form {w : World} {base : Nat} {v : Value} {l : List UInt8} (h : OwnB base w v l) (hl : 0 < l.length) : ∃ g cap, v = .slice (some ⟨g, 0, none⟩) l.length cap ∧ base ≤ g ∧ g < w.heap.size := by
  rcases h.2 with ⟨_, h0⟩ | ⟨g, cap, cur, rfl, hg, _⟩
  · omega
  · exact ⟨g, cap, rfl, hg, (h.ge rfl).2⟩
theorem OwnB.shape {w : World} {base : Nat} {v : Value} {l : List UInt8} (h : OwnB base w v l) : ∃ a cap, v = .slice a l.length cap := by
  rcases h.2 with ⟨rfl, h0⟩ | ⟨g, cap, cur, rfl, hg, _⟩
  · exact ⟨none, 0, by rw [h0]⟩
  · exact ⟨_, _, rfl⟩
theorem OwnB.str {w : World} {base : Nat} {v : Value} {l : List UInt8} (h : OwnB base w v l) :
    (convert 78 9 v).run Try.prog w = .ok (.string ⟨l.toArray⟩) w := by
  rcases h.2 with ⟨rfl, h0⟩ | ⟨g, cap, cur, rfl, hg, hrest⟩
  · obtain rfl : l = [] := List.length_eq_zero_iff.1 h0
    exact Lib.run_convert_nil_bytes w _ _ _ 0 und_bytes und_u8 und_str
  · refine run_convert_bytes_back w _ _ _ ⟨g, 0, none⟩ cap l und_bytes und_u8 und_str ?_
    intro j hj
    exact World.ownsRow.cells h rfl j (.int .u8 l[j].toNat) (by simp [bv, hj])
theorem OwnB.cell {w : World} {base g n cap : Nat} {l : List UInt8} (h : OwnB base w (.slice (some ⟨g, 0, none⟩) n cap) l) (j : Nat) (hj : j < l.length) : w.cell? ⟨g, j, none⟩ = some (.int .u8 (l[j].toNat : Int)) := by
  have := World.ownsRow.cells h rfl j (.int .u8 l[j].toNat) (by simp [bv, hj])
  simpa [Go.WideShapes.add_plain] using this
theorem OwnB.len {w : World} {base g n cap : Nat} {l : List UInt8} (h : OwnB base w (.slice (some ⟨g, 0, none⟩) n cap) l) : n = l.length := by
  rcases h.2 with ⟨h', _⟩ | ⟨g', cap', cur, h', _⟩
  · simp at h'
  · simp at h'; exact h'.2.1
theorem OwnB.free {w : World} {base g n cap : Nat} {l : List UInt8} (h : OwnB base w (.slice (some ⟨g, 0, none⟩) n cap) l) (j : Nat) : w.frozen? ⟨g, j, none⟩ = false := by
  obtain rfl := h.len
  exact World.ownsRow.frozenAt h j
theorem OwnB.set {w : World} {base g n cap : Nat} {l : List UInt8} (h : OwnB base w (.slice (some ⟨g, 0, none⟩) n cap) l) (j : Nat) (c : UInt8) (x : Int) (hx : x = (c.toNat : Int)) : OwnB base (w.setCell ⟨g, j, none⟩ (.int .u8 x)) (.slice (some ⟨g, 0, none⟩) n cap) (l.set j c) := by
  obtain rfl := h.len
  have := (World.ownsRow.stored h j (.int .u8 x)).1
  unfold OwnB
  subst hx
  rw [List.length_set, List.map_set]
  exact this
theorem app_info : ∃ i0, Try.prog.info? 5 = some i0 ∧ i0.zero = some (.int .u8 0) ∧ i0.size = 1 ∧ i0.bytes = 1 := by
  obtain ⟨i0, hi, hz0, hz1, hz2⟩ := info_parts Try.info5
  exact ⟨i0, hi, hz0, hz1, hz2⟩
theorem app_bytes {ops : Array Oper} {rest : List Oper} {o : Oper} {a : Act} {Q : Exit → Act → World → Prop} {w : World} (hgd : o.guard = none) (s x : Operand)
    (ho : o.op = .call { callee := .builtin .append, args := #[s, x], argTypes := #[78, 78] })
    (base : Nat) (v : Value) (l news : List UInt8) (hs : a.eval s = v) (g off m c : Nat) (hx : a.eval x = .slice (some ⟨g, off, none⟩) m c) (hown : OwnB base w v l) (hl : news.length = m)
    (hnews : ∀ j (h : j < news.length), w.cell? ⟨g, off + j, none⟩ = some (bv news[j])) (hlen : l.length + m ≤ 1000000) (hbase : base ≤ w.heap.size)
    (h : ∀ v' w', OwnB base w' v' (l ++ news) → Below base w w' → wpList Try.prog ops Q rest (a.put o.dst v') w') : wpList Try.prog ops Q (o :: rest) a w := by
  obtain ⟨i0, hi, hz0, hz1, hz2⟩ := app_info
  refine wpList_append_own w hgd s x 78 ho base 5 i0 (.int .u8 0) 1 1 und_bytes hi hz0 hz1 hz2 rfl (by decide) v l.length (l.map bv) hs hown ⟨g, off, none⟩ m c (news.map bv) hx (by simp [hl]) ?_ ?_ (by unfold maxLen; omega) (by omega) hbase ?_
  · intro j u hj
    obtain ⟨hj1, rfl⟩ := List.getElem?_eq_some_iff.1 hj
    simp only [List.length_map] at hj1
    rw [Go.WideShapes.add_plain]
    simpa using hnews j hj1
  · intro u hu
    obtain ⟨c, _, rfl⟩ := List.mem_map.1 hu
    rfl
  · intro v' w' h1 h2 _
    refine h v' w' (by unfold OwnB; rw [List.length_append, hl, List.map_append]; exact h1) ?_
    exact (Below.refl base w).grown h2 hbase fun k hk => (hown.ge hk).1
theorem one_new (w : World) (c : UInt8) (x : Int) (hx : x = (c.toNat : Int)) (t : TypeId) : ∀ j (h : j < [c].length), (w.alloc (.cells #[.int .u8 x] t)).cell? ⟨w.heap.size, 0 + j, none⟩ = some (bv [c][j]) := by
  intro j hj
  obtain rfl : j = 0 := by simp at hj; omega
  rw [World.cell?_alloc_at _ _ _ _ rfl]
  subst hx; rfl
theorem two_new (w : World) (t : TypeId) : ∀ j (h : j < [(0 : UInt8), 0].length), (w.alloc (.cells #[.int .u8 0, .int .u8 0] t)).cell? ⟨w.heap.size, 0 + j, none⟩ = some (bv [(0 : UInt8), 0][j]) := by
  intro j hj
  rw [World.cell?_alloc_at _ _ _ _ rfl]
  rcases j with _ | _ | j
  · rfl
  · rfl
  · simp at hj; omega
/-- What an adder answers. -/
def AddRes (base : Nat) (w : World) (l : List UInt8) (e : Ending) (w' : World) : Prop := ∃ v', e = .returned v' ∧ OwnB base w' v' l ∧ Below base w w'
end Go.Proofs.Ytialjglgkfcdmaa.Or
