/- The contracts of package tally's TakeRow. -/
import Derived.Test.YtialjglgkfcdmaaTcRow
namespace Go.Proofs.Ytialjglgkfcdmaa.Tal
open Go.RowKit
def takeN : Nat → List (List UInt8) → List UInt8 → Option (List (List UInt8) × List UInt8)
  | 0, acc, b => some (acc, b)
  | n + 1, acc, b => match Ta.takeText b with | none => none | some (x, r) => takeN n (acc ++ [x]) r
def takeRow (b : List UInt8) : Option (List (List UInt8) × List UInt8) :=
  match Ta.take 0 b with
  | none => none
  | some (n, r) => if n ≤ r.length then takeN n [] r else none
def sv (x : List UInt8) : Value := .string ⟨x.toArray⟩
def restOf : Option (List (List UInt8) × List UInt8) → List UInt8
  | some (_, r) => r
  | none => []
def listOf : Option (List (List UInt8) × List UInt8) → List (List UInt8)
  | some (l, _) => l
  | none => []
def RowRes (o : Option (List (List UInt8) × List UInt8)) (w : World) (e : Ending) (w' : World) : Prop :=
  ∃ v, e = .returned (.tuple #[v, .string ⟨(restOf o).toArray⟩, .bool o.isSome]) ∧ Below w.heap.size w w' ∧
    w'.ownsRow w.heap.size 9 1 v (listOf o).length ((listOf o).map sv)
theorem _root_.Go.Proofs.Ytialjglgkfcdmaa.Try.info9 : (Try.prog.info? 9).map (fun i => (i.zero, i.size, i.bytes)) = some (some (.string ⟨#[]⟩), 1, 16) := by kernel_rfl
theorem own_lower {w : World} {base base' e size n : Nat} {v : Value} {xs : List Value} (h : w.ownsRow base e size v n xs) (hb : base' ≤ base) : w.ownsRow base' e size v n xs := by
  refine ⟨h.1, ?_⟩
  rcases h.2 with h | ⟨g, cap, cur, h1, h2, h3⟩
  · exact .inl h
  · exact .inr ⟨g, cap, cur, h1, Nat.le_trans hb h2, h3⟩
theorem own_later {w w' : World} {base e size n : Nat} {v : Value} {xs : List Value} (h : w.ownsRow base e size v n xs) (hb : Below w.heap.size w w') : w'.ownsRow base e size v n xs := by
  refine h.kept (row := none) ⟨hb.os, hb.tape, hb.output, hb.size, fun k hk _ => hb.block k hk⟩ ?_
  cases hv : v.ownBlock with
  | none => exact .inl rfl
  | some k => exact .inr (by simp)
theorem takeText_len (b x r : List UInt8) (h : Ta.takeText b = some (x, r)) : x.length + r.length < b.length := by
  unfold Ta.takeText at h
  split at h
  · rename_i n r0 h0
    have := Ta.take_bound _ _ _ _ h0
    split at h
    · simp only [Option.some.injEq, Prod.mk.injEq] at h
      obtain ⟨rfl, rfl⟩ := h
      simp; omega
    · simp at h
  · simp at h
end Go.Proofs.Ytialjglgkfcdmaa.Tal
