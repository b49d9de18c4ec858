/- Keys: plain mathematics of what stands above all that begin with a text. -/
import Derived.Test.YtialjglgkfcdmaaOrMath
namespace Go.Proofs.Ytialjglgkfcdmaa.Or
/-- The bytes up to the last one that is not ff are k. -/
structure Ab (l : List UInt8) (k : Nat) : Prop where
  le : k ≤ l.length
  ff : ∀ j (h : j < l.length), k ≤ j → l[j] = 255
  last : k = 0 ∨ ∃ h : k - 1 < l.length, l[k - 1] ≠ 255
theorem ab_one {l : List UInt8} {k m : Nat} (h : Ab l k) (h2 : Ab l m) : k = m := by
  rcases Nat.lt_trichotomy k m with hlt | rfl | hlt
  · rcases h2.last with h0 | ⟨hm, hne⟩
    · omega
    · exact absurd (h.ff (m - 1) hm (by omega)) hne
  · rfl
  · rcases h.last with h0 | ⟨hk, hne⟩
    · omega
    · exact absurd (h2.ff (k - 1) hk (by omega)) hne
def upTo (l : List UInt8) (k : Nat) : List UInt8 := l.take (k - 1) ++ [UInt8.ofNat ((l.getD (k - 1) 0).toNat + 1)]
end Go.Proofs.Ytialjglgkfcdmaa.Or
