/- Fields in memory: rows of one's own. -/
import Derived.Test.YtialjglgkfcdmaaOrApp
import Derived.Test.YtialjglgkfcdmaaOrPFit
import Derived.Test.YtialjglgkfcdmaaRfColl
namespace Go.Proofs.Ytialjglgkfcdmaa.Or
open Go.RowKit Rf
def FdAt (w : World) (b : Nat) (f : Fd) : Prop := w.cell? ⟨b, 0, none⟩ = some (.int .u64 f.n) ∧ w.cell? ⟨b, 1, none⟩ = some (.int .i64 f.i) ∧ w.cell? ⟨b, 2, none⟩ = some (.string f.s) ∧ b < w.heap.size
theorem FdAt.later {w w' : World} {b : Nat} {f : Fd} (h : FdAt w b f) (hb : Below w.heap.size w w') : FdAt w' b f := by
  obtain ⟨h0, h1, h2, h3⟩ := h
  exact ⟨(hb.cell (p := ⟨b, 0, none⟩) h3).trans h0, (hb.cell (p := ⟨b, 1, none⟩) h3).trans h1, (hb.cell (p := ⟨b, 2, none⟩) h3).trans h2, Nat.lt_of_lt_of_le h3 hb.size⟩
theorem fd_new (w : World) (f : Fd) (t : TypeId) : FdAt (w.alloc (.cells #[.int .u64 f.n, .int .i64 f.i, .string f.s] t)) w.heap.size f := by
  obtain ⟨h0, h1, h2⟩ := new_fd w f t
  exact ⟨h0, h1, h2, by simp⟩
theorem infoField : (Try.prog.info? 59).map (fun i => (i.zero, i.size, i.bytes)) = some (some (.agg #[.int .u64 0, .int .i64 0, .string ⟨#[]⟩]), 3, 32) := by kernel_rfl
def cells3 (L : List Fd) : List Value := L.flatMap fun f => [.int .u64 f.n, .int .i64 f.i, .string f.s]
theorem cells3_snoc (L : List Fd) (f : Fd) : cells3 (L ++ [f]) = cells3 L ++ [.int .u64 f.n, .int .i64 f.i, .string f.s] := by simp [cells3]
theorem cells3_at : ∀ (L : List Fd) (j : Nat) (h : j < L.length), (cells3 L)[j * 3]? = some (.int .u64 L[j].n) ∧ (cells3 L)[j * 3 + 1]? = some (.int .i64 L[j].i) ∧ (cells3 L)[j * 3 + 2]? = some (.string L[j].s)
  | f :: L, 0, _ => ⟨rfl, rfl, rfl⟩
  | f :: L, j + 1, h => by
    have ih := cells3_at L j (by simpa using h)
    have e : cells3 (f :: L) = [.int .u64 f.n, .int .i64 f.i, .string f.s] ++ cells3 L := by simp [cells3]
    rw [e]
    simp only [List.getElem_cons_succ]
    refine ⟨?_, ?_, ?_⟩
    · rw [List.getElem?_append_right (by simp; omega)]; rw [← ih.1]; congr 1; simp; omega
    · rw [List.getElem?_append_right (by simp; omega)]; rw [← ih.2.1]; congr 1; simp; omega
    · rw [List.getElem?_append_right (by simp; omega)]; rw [← ih.2.2]; congr 1; simp; omega
theorem own_fds {w : World} {base : Nat} {v : Value} {L : List Fd} {t : TypeId} (h : w.ownsRow base t 3 v L.length (cells3 L)) : ∃ a cap, v = .slice a L.length cap ∧ Fds w a L := by
  rcases Nat.eq_zero_or_pos L.length with h0 | h0
  · rcases h.2 with ⟨rfl, _⟩ | ⟨g, cap, cur, rfl, _⟩
    · exact ⟨none, 0, by rw [h0], fun j hj => by omega⟩
    · exact ⟨_, _, rfl, fun j hj => by omega⟩
  · obtain ⟨g, cap, rfl⟩ := own_form h h0
    obtain ⟨hl, hc⟩ := own_cell h
    refine ⟨_, _, rfl, fun j hj => ⟨g, 0, rfl, hl, ?_⟩⟩
    obtain ⟨h1, h2, h3⟩ := cells3_at L j hj
    exact ⟨by rw [Nat.zero_add]; exact hc _ _ h1, by rw [Nat.zero_add]; exact hc _ _ h2, by rw [Nat.zero_add]; exact hc _ _ h3⟩
end Go.Proofs.Ytialjglgkfcdmaa.Or
