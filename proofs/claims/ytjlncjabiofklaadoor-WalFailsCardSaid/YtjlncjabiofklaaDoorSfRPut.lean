/- Package quittanceref04: Put. -/
import Derived.Test.YtjlncjabiofklaaDoorSfPut2
import Derived.Test.YtjlncjabiofklaaDoorRgC
namespace Go.Proofs.YtjlncjabiofklaaDoor.Shf
open Go.RowKit Rf
theorem part_ext (T : List UInt8) (i m : Nat) (hm : m = min (i + 48) T.length) : (ByteArray.mk T.toArray).extract i m = ⟨((T.drop i).take 48).toArray⟩ := by
  subst hm
  rw [Le.ext_mid]
  congr 2
  show (T.take (min (i + 48) T.length)).drop i = _
  rw [List.take_drop]
  by_cases h : i + 48 ≤ T.length
  · rw [Nat.min_eq_left h, Nat.add_comm]
  · rw [Nat.min_eq_right (by omega), List.take_of_length_le (by omega), List.take_of_length_le (by omega)]
theorem own_ge {w : World} {base e size n k : Nat} {v : Value} {xs : List Value} (h : w.ownsRow base e size v n xs) (hk : v.ownBlock = some k) : base ≤ k := Tal.own_ge h hk
end Go.Proofs.YtjlncjabiofklaaDoor.Shf
