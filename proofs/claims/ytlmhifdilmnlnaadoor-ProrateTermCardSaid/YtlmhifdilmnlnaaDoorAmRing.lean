/- The walk of ArithRing. -/
import Derived.Test.YtlmhifdilmnlnaaDoorAmHead
namespace Go.Proofs.YtlmhifdilmnlnaaDoor
open Go.RowKit

theorem val_i64 (n : Int) : I64 (Ar.val n) := by
  unfold Ar.val
  by_cases h : Ar.Fits n
  · rw [if_pos h]; exact h
  · rw [if_neg h]; exact ⟨by omega, by omega⟩
theorem told_eq {P : Program} {f : FuncId} {args : Array Value} {n m : Int} {w : World} (h : Calls P f args w (Told n w)) (hm : n = m) : Calls P f args w (Told m w) := by subst hm; exact h
theorem zero_i64 : I64 0 := ⟨by omega, by omega⟩
theorem i64_of {n : Int} (h : Ar.Fits n) : I64 n := h
end Go.Proofs.YtlmhifdilmnlnaaDoor
