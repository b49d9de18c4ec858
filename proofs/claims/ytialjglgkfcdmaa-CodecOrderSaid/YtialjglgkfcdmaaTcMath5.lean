/- Plain lists: texts and rows, put and taken. -/
import Derived.Test.YtialjglgkfcdmaaTcTake
namespace Go.Proofs.Ytialjglgkfcdmaa.Tal
open Go.RowKit
def txtsL : List (List UInt8) → List UInt8
  | [] => []
  | s :: L => txt s ++ txtsL L
def rowL (L : List (List UInt8)) : List UInt8 := Ta.num L.length ++ txtsL L
def bas (L : List (List UInt8)) : List ByteArray := L.map fun x => ⟨x.toArray⟩
theorem txts_bas (L : List (List UInt8)) : txts (bas L) = txtsL L := by
  induction L with
  | nil => rfl
  | cons s L ih => show txt s ++ txts (bas L) = _; rw [ih]; rfl
theorem row_bas (L : List (List UInt8)) : row (bas L) = rowL L := by
  unfold row rowL; rw [txts_bas]; simp [bas]
theorem txtsL_append (L M : List (List UInt8)) : txtsL (L ++ M) = txtsL L ++ txtsL M := by
  induction L with
  | nil => rfl
  | cons s L ih => simp [txtsL, ih]
theorem takeText_once (b x r : List UInt8) (h : Ta.takeText b = some (x, r)) : txt x ++ r = b := by
  unfold Ta.takeText at h
  split at h
  · rename_i n r0 h0
    have h1 := Ta.take_once _ _ _ _ h0
    split at h
    · rename_i hn
      simp only [Option.some.injEq, Prod.mk.injEq] at h
      obtain ⟨rfl, rfl⟩ := h
      rw [Ta.up_zero, List.nil_append] at h1
      rw [← h1]
      unfold txt
      rw [show (r0.take n).length = n by simp; omega, List.append_assoc, List.take_append_drop]
    · simp at h
  · simp at h
theorem takeN_once (n : Nat) : ∀ (acc : List (List UInt8)) (b : List UInt8) (l : List (List UInt8)) (r : List UInt8), takeN n acc b = some (l, r) → txtsL l ++ r = txtsL acc ++ b ∧ l.length = acc.length + n := by
  induction n with
  | zero => intro acc b l r h; simp [takeN] at h; obtain ⟨rfl, rfl⟩ := h; simp
  | succ n ih =>
    intro acc b l r h
    unfold takeN at h
    split at h
    · simp at h
    · rename_i x r0 h0
      have h1 := takeText_once _ _ _ h0
      have h2 := ih _ _ _ _ h
      rw [txtsL_append] at h2
      refine ⟨by rw [h2.1, ← h1]; simp [txtsL], by rw [h2.2]; simp; omega⟩
theorem takeRow_once (b : List UInt8) (l : List (List UInt8)) (r : List UInt8) (h : takeRow b = some (l, r)) : rowL l ++ r = b ∧ l.length ≤ b.length := by
  unfold takeRow at h
  split at h
  · simp at h
  · rename_i n r0 h0
    have h1 := Ta.take_once _ _ _ _ h0
    have h3 := Ta.take_bound _ _ _ _ h0
    split at h
    · rename_i hn
      have h2 := takeN_once _ _ _ _ _ h
      rw [Ta.up_zero, List.nil_append] at h1
      simp [txtsL] at h2
      refine ⟨?_, by omega⟩
      rw [← h1, ← h2.1]
      unfold rowL
      rw [h2.2]; simp
    · simp at h
theorem takeText_back (x r : List UInt8) (h : x.length < 18446744073709551616) : Ta.takeText (txt x ++ r) = some (x, r) := by
  unfold Ta.takeText txt
  rw [List.append_assoc, Ta.take_back _ _ h]
  simp
theorem takeN_back (L : List (List UInt8)) (hL : ∀ x ∈ L, x.length < 18446744073709551616) : ∀ (acc : List (List UInt8)) (r : List UInt8), takeN L.length acc (txtsL L ++ r) = some (acc ++ L, r) := by
  induction L with
  | nil => intro acc r; simp [takeN, txtsL]
  | cons x L ih =>
    intro acc r
    have h1 := takeText_back x (txtsL L ++ r) (hL x (by simp))
    show takeN (L.length + 1) acc (txt x ++ txtsL L ++ r) = _
    rw [List.append_assoc]
    unfold takeN
    rw [h1]
    show takeN L.length (acc ++ [x]) (txtsL L ++ r) = _
    rw [ih (fun y hy => hL y (by simp [hy]))]
    simp
theorem txtsL_len (L : List (List UInt8)) : L.length ≤ (txtsL L).length := by
  induction L with
  | nil => simp [txtsL]
  | cons x L ih =>
    have : 1 ≤ (txt x).length := by unfold txt Ta.num; simp; omega
    simp [txtsL]; omega
theorem takeRow_back (L : List (List UInt8)) (r : List UInt8) (hL : ∀ x ∈ L, x.length < 18446744073709551616) (hl : L.length < 18446744073709551616) : takeRow (rowL L ++ r) = some (L, r) := by
  unfold takeRow rowL
  rw [List.append_assoc, Ta.take_back _ _ hl]
  have := txtsL_len L
  simp only
  rw [if_pos (by simp; omega), takeN_back L hL]
  simp
end Go.Proofs.Ytialjglgkfcdmaa.Tal
