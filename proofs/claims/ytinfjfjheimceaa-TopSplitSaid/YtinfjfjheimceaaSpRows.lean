/- Package split: the laws over what came in. -/
import Derived.Test.YtinfjfjheimceaaSpTop
namespace Go.Proofs.Ytinfjfjheimceaa.Sp
open Go Go.RowKit Go.Lib Go.Proofs.Ytinfjfjheimceaa.So Rf Cm
/-- A slice of integers that came in reads as a list. -/
theorem row_in {w : World} {a : Option Addr} {len cap : Nat} {zs : List Int} (h : IsRow .i64 w a len cap zs) : ∃ l, l.length = len ∧ Ints w a l ∧ (∀ x ∈ l, -9223372036854775808 ≤ x ∧ x ≤ 9223372036854775807) ∧ len ≤ 9223372036854775807 := by
  rcases h with ⟨rfl, rfl, _, _⟩ | ⟨x, rfl, hl, hm, hz, hcell, hwz⟩
  · exact ⟨[], rfl, Or.inl rfl, fun x hx => by simp at hx, by omega⟩
  · unfold maxLen at hm
    by_cases h0 : len = 0
    · subst h0
      exact ⟨[], rfl, Or.inl rfl, fun x hx => by simp at hx, by omega⟩
    · obtain ⟨b, off, rfl, hc⟩ := ints_at hcell (by omega)
      refine ⟨zs.take len, by rw [List.length_take]; omega, Or.inr ⟨b, off, rfl, World.block_lt_of_cell? _ _ (hc 0 (by omega)), fun j hj => ?_⟩, fun x hx => bounds_i64 (hwz x (List.mem_of_mem_take hx)), by omega⟩
      rw [List.length_take] at hj
      rw [hc j (by omega)]
      simp [show j < len by omega]
theorem order_r (T : Int) (a : Option Addr) (len cap : Nat) (zs : List Int) (w : World) (h : IsRow .i64 w a len cap zs) :
    Calls Try.prog 5 #[.int .i64 T, .slice a len cap] w fun e w' => e = .returned (.bool true) ∧ Below w.heap.size w w' := by
  obtain ⟨l, rfl, h1, h2, h3⟩ := row_in h
  exact order_law T a cap l w h1 h2 h3
theorem whole_r (T : Int) (a : Option Addr) (len cap : Nat) (zs : List Int) (w : World) (h : IsRow .i64 w a len cap zs) :
    Calls Try.prog 4 #[.int .i64 T, .slice a len cap] w fun e w' => e = .returned (.bool true) ∧ Below w.heap.size w w' := by
  obtain ⟨l, rfl, h1, h2, h3⟩ := row_in h
  exact whole_law T a cap l w h1 h2 h3
theorem scale_r (T : Int) (a : Option Addr) (len cap : Nat) (zs : List Int) (t : Int) (w : World) (h : IsRow .i64 w a len cap zs) (t0 : 0 ≤ t ∧ t ≤ 65535) :
    Calls Try.prog 6 #[.int .i64 T, .slice a len cap, .int .u16 t] w fun e w' => e = .returned (.bool true) ∧ Below w.heap.size w w' := by
  obtain ⟨l, rfl, h1, h2, h3⟩ := row_in h
  exact scale_law T a cap l t w h1 h2 h3 t0.1 t0.2
theorem top_r (T : Int) (a : Option Addr) (len cap : Nat) (zs : List Int) (w : World) (h : IsRow .i64 w a len cap zs) :
    Calls Try.prog 7 #[.int .i64 T, .slice a len cap] w fun e w' => e = .returned (.bool true) ∧ Below w.heap.size w w' := by
  obtain ⟨l, rfl, h1, h2, h3⟩ := row_in h
  exact top_law T a cap l w h1 h2 h3
end Go.Proofs.Ytinfjfjheimceaa.Sp
