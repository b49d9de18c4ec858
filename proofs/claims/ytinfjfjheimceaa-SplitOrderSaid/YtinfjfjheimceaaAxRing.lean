/- The walk of ArithRing. -/
import Derived.Test.YtinfjfjheimceaaAxHead
namespace Go.Proofs.Ytinfjfjheimceaa
open Go.RowKit

theorem val_i64 (n : Int) : I64 (Ar.val n) := by
  unfold Ar.val
  by_cases h : Ar.Fits n
  · rw [if_pos h]; exact h
  · rw [if_neg h]; exact ⟨by omega, by omega⟩
theorem told_eq {P : Program} {f : FuncId} {args : Array Value} {n m : Int} {w : World} (h : Calls P f args w (Told n w)) (hm : n = m) : Calls P f args w (Told m w) := by subst hm; exact h
theorem zero_i64 : I64 0 := ⟨by omega, by omega⟩
theorem sum3_told (a b c n : Int) (w : World) (ha : I64 a) (hb : I64 b) (hc : I64 c) (hn : a + b + c = n) :
    Calls Try.prog 13 #[.slice (some ⟨w.heap.size, 0, none⟩) 3 3] (w.alloc (.cells #[.int .i64 a, .int .i64 b, .int .i64 c] 2)) (Told n w) := by
  subst hn
  exact (sum3 a b c w ha hb hc).mono fun e w' ⟨he, hb⟩ => ⟨he, ((Below.refl _ _).alloc (Nat.le_refl _) _).trans (hb.mono (by simp))⟩
theorem i64_of {n : Int} (h : Ar.Fits n) : I64 n := h
end Go.Proofs.Ytinfjfjheimceaa
