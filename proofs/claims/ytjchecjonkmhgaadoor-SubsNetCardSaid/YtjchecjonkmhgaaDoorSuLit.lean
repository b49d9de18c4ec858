/- The document's example of a subscription, in numbers. -/
import Derived.Test.YtjchecjonkmhgaaDoorSuCan0
namespace Go.Proofs.YtjchecjonkmhgaaDoor.Su
open Go.RowKit Pr Cw An
def ex : Sb := ⟨1, 1, 1, ⟨738895, 15, 1⟩, 3100, 0, 0, 0⟩
theorem ex_in : In 24277 ex.c.s := ⟨by decide, by decide, by decide, by decide⟩
theorem ex_ok : ex.Ok 24277 := ⟨⟨by decide, by decide, by decide, by decide, by decide, by decide, by decide⟩, ⟨by decide, by decide, by decide, by decide, by decide, by decide⟩, Or.inl rfl, Or.inl rfl, Or.inl rfl⟩
theorem ex_b0 : bnd ex.c 24277 0 = 738895 := rfl
theorem ex_b1 : bnd ex.c 24277 1 = 738900 := by decide
theorem ex_b2 : bnd ex.c 24277 2 = 738931 := by decide
theorem ex_b3 : bnd ex.c 24277 3 = 738960 := by decide
theorem ex_has (k : Nat) (hk : k ≤ 100) : Has ex.c 24277 k := by
  have h : fst ex.c 24277 = 24277 := by decide
  refine Or.inr ?_
  rw [h]
  show (24277 : Int) + ((k : Int) - 1) * 1 ≤ 119988
  omega
theorem ex_many : Many ex 24277 738936 10 3 := by
  refine ⟨fun i hi => ?_, ?_⟩
  · have hc : i = 0 ∨ i = 1 ∨ i = 2 := by omega
    rintro (h | h | h | h | h)
    · omega
    · have : ex.b.toNat = 0 := rfl
      omega
    · exact h (ex_has _ (by have : ex.b.toNat = 0 := rfl; omega))
    · rcases hc with rfl | rfl | rfl
      · have : (738936 : Int) < bnd ex.c 24277 0 := h
        rw [ex_b0] at this; omega
      · have : (738936 : Int) < bnd ex.c 24277 1 := h
        rw [ex_b1] at this; omega
      · have : (738936 : Int) < bnd ex.c 24277 2 := h
        rw [ex_b2] at this; omega
    · exact h.1 rfl
  · refine Or.inr (Or.inr (Or.inr (Or.inl ?_)))
    show (738936 : Int) < bnd ex.c 24277 3
    rw [ex_b3]; omega
theorem ex_bills : bills ex 24277 3 = [⟨0, 738895, 738900, 500⟩, ⟨1, 738900, 738931, 3100⟩, ⟨2, 738931, 738960, 3100⟩] := by kernel_rfl
def ex3 : Sb := ex.after 3
theorem ex3_is : ex3 = ⟨1, 1, 1, ⟨738895, 15, 1⟩, 3100, 3, 0, 0⟩ := rfl
theorem ex3_ok : ex3.Ok 24277 := ⟨⟨by decide, by decide, by decide, by decide, by decide, by decide, by decide⟩, ex_ok.c, ex_has 3 (by omega), Or.inl rfl, Or.inl rfl⟩
theorem ex3_per : Per ex3.c 24277 738946 2 := by
  refine ⟨ex_has 3 (by omega), ?_, ?_⟩
  · show bnd ex.c 24277 2 ≤ 738946
    rw [ex_b2]; omega
  · show 738946 < bnd ex.c 24277 3
    rw [ex_b3]; omega
theorem ex3_end : en ex3.e (bnd ex3.c 24277 3) = 738960 := by
  show en 0 (bnd ex.c 24277 3) = 738960
  rw [ex_b3]; rfl
theorem ex3_turn : turnOf ex3 24277 738946 6200 2 = ⟨738946, 738960, 1497, 2994⟩ := by rfl
theorem ex3_can : amt ex3.c 24277 2 ex3.p 738946 (bnd ex3.c 24277 3) = 1497 := by rfl
end Go.Proofs.YtjchecjonkmhgaaDoor.Su
