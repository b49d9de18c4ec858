/- Package quittanceref12: Above. -/
import Derived.Test.YtialjglgkfcdmaaOcAbove
import Derived.Deep.RegionWith
import Derived.RegionTactic
namespace Go.Proofs.Ytialjglgkfcdmaa.Or
open Go.RowKit Cm
theorem one_c (n : Nat) (w : World) (hn : n ≤ 255) : Calls Try.prog 74 #[.int .i64 (n : Int)] w fun e w' => e = .returned (.string ⟨#[UInt8.ofNat n]⟩) ∧ Below w.heap.size w w' := by
  have h1 := one_str w n (by omega)
  go_enter Try.func74, Try.ntmps74
  go_wp2_with fail
  go_ret
  exact ⟨rfl, (Below.refl _ w).alloc (Nat.le_refl _) _⟩
theorem upTo_cat (l : List UInt8) (p : Nat) (h : p < l.length) : (⟨l.toArray⟩ : ByteArray).extract 0 p ++ (⟨#[UInt8.ofNat (l[p].toNat + 1)]⟩ : ByteArray) = ⟨(upTo l (p + 1)).toArray⟩ := by
  rw [ext_take]
  have e : (⟨#[UInt8.ofNat (l[p].toNat + 1)]⟩ : ByteArray) = ⟨[UInt8.ofNat (l[p].toNat + 1)].toArray⟩ := rfl
  rw [e, cat_mk2]
  unfold upTo
  rw [show p + 1 - 1 = p by omega]
  have e2 : l.getD p 0 = l[p] := by simp [h]
  rw [e2]
end Go.Proofs.Ytialjglgkfcdmaa.Or
