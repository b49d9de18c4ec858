/- Plain lists: nothing is taken off a beginning that is not all. -/
import Derived.Test.YtehofpmkplkaaaaTaMath5
namespace Go.Proofs.Ytehofpmkplkaaaa.Tal
open Go.RowKit
theorem take_split (x : List UInt8) (n k : Nat) (hn : n < 18446744073709551616) (hk : (Ta.num n).length ≤ k) : Ta.take 0 ((Ta.num n ++ x).take k) = some (n, x.take (k - (Ta.num n).length)) := by
  rw [List.take_append, List.take_of_length_le hk, Ta.take_back _ _ hn]
theorem take_before (x : List UInt8) (n k : Nat) (hk : k < (Ta.num n).length) : Ta.take 0 ((Ta.num n ++ x).take k) = none := by
  rw [List.take_append_of_le_length (by omega)]
  exact Ta.take_short n k hk
theorem takeText_short (s r : List UInt8) (k : Nat) (hs : s.length < 18446744073709551616) (hk : k < (txt s).length) : Ta.takeText ((txt s ++ r).take k) = none := by
  unfold txt at *
  unfold Ta.takeText
  simp at hk
  rw [List.take_append_of_le_length (by simp; omega)]
  by_cases h : k < (Ta.num s.length).length
  · rw [take_before _ _ _ h]
  · rw [take_split _ _ _ hs (by omega)]
    simp only
    rw [if_neg (by simp; omega)]
theorem takeText_rest (s r : List UInt8) (k : Nat) (hs : s.length < 18446744073709551616) (hk : (txt s).length ≤ k) : Ta.takeText ((txt s ++ r).take k) = some (s, r.take (k - (txt s).length)) := by
  rw [List.take_append, List.take_of_length_le hk, takeText_back _ _ hs]
theorem takeN_short (L : List (List UInt8)) (hL : ∀ x ∈ L, x.length < 18446744073709551616) : ∀ (acc : List (List UInt8)) (k : Nat), k < (txtsL L).length → takeN L.length acc ((txtsL L).take k) = none := by
  induction L with
  | nil => intro acc k h; simp [txtsL] at h
  | cons x L ih =>
    intro acc k hk
    show takeN (L.length + 1) acc ((txt x ++ txtsL L).take k) = _
    have hk' : k < (txt x ++ txtsL L).length := hk
    unfold takeN
    by_cases h : k < (txt x).length
    · rw [takeText_short x _ k (hL x (by simp)) h]
    · rw [takeText_rest x _ k (hL x (by simp)) (by omega)]
      exact ih (fun y hy => hL y (by simp [hy])) _ _ (by simp at hk'; omega)
theorem takeRow_short (L : List (List UInt8)) (k : Nat) (hL : ∀ x ∈ L, x.length < 18446744073709551616) (hl : L.length < 18446744073709551616) (hk : k < (rowL L).length) : takeRow ((rowL L).take k) = none := by
  unfold rowL at *
  unfold takeRow
  by_cases h : k < (Ta.num L.length).length
  · rw [take_before _ _ _ h]
  · rw [take_split _ _ _ hl (by omega)]
    simp only
    simp at hk
    split
    · exact takeN_short L hL [] _ (by omega)
    · rfl
end Go.Proofs.Ytehofpmkplkaaaa.Tal
