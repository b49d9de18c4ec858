/- Package order: Above. -/
import Derived.Test.YtialjglgkfcdmaaOrKinds
import Derived.Test.YtialjglgkfcdmaaOrAbove0
import Derived.Test.YtialjglgkfcdmaaOrRow
namespace Go.Proofs.Ytialjglgkfcdmaa.Or
open Go.RowKit Cm
def AbRes (l : List UInt8) (w : World) (e : Ending) (w' : World) : Prop := ∃ k, Ab l k ∧ (k = 0 → e = .returned (.tuple #[.string ⟨#[]⟩, .bool false])) ∧ (0 < k → e = .returned (.tuple #[.string ⟨(upTo l k).toArray⟩, .bool true])) ∧ Below w.heap.size w w'
theorem str_ne {l : List UInt8} (h : 0 < l.length) : l.isEmpty = false := by cases l with | nil => simp at h | cons => rfl
theorem set_last (l : List UInt8) (p : Nat) (h : p < l.length) (h9 : l[p].toNat + 1 ≤ 255) : ((l.take (p + 1)).map bv).set p (.int .u8 ((l[p].toNat : Int) + 1)) = (upTo l (p + 1)).map bv := by
  have e : l.take (p + 1) = l.take p ++ [l[p]] := List.take_succ_eq_append_getElem h
  have hl : (l.take p).length = p := by simp; omega
  unfold upTo
  rw [e, show p + 1 - 1 = p by omega, List.map_append, List.map_append, List.set_append_right _ _ (by simp; omega)]
  congr 1
  have e2 : l.getD p 0 = l[p] := by simp [h]
  rw [e2]
  have e3 : (UInt8.ofNat (l[p].toNat + 1)).toNat = l[p].toNat + 1 := by simp; omega
  simp only [List.length_map, hl, Nat.sub_self, List.map_cons, List.map_nil, List.set_cons_zero, bv, e3]
  rfl
theorem upTo_len (l : List UInt8) (p : Nat) (h : p < l.length) : (upTo l (p + 1)).length = p + 1 := by
  unfold upTo; simp; omega
def szOf : Value → Nat
  | .string b => b.size
  | _ => 0
end Go.Proofs.Ytialjglgkfcdmaa.Or
