/- The contract of the document's own answer for tally: rows that are taken. -/
import Derived.Test.YtbmlnodimcalgaaDoorTsRef3
namespace Go.Proofs.YtbmlnodimcalgaaDoor.Tal
open Go.RowKit Cm
theorem takeN_len (n : Nat) : ∀ (acc : List (List UInt8)) (b : List UInt8) (x : List (List UInt8) × List UInt8), takeN n acc b = some x → n ≤ b.length := by
  induction n with
  | zero => intro acc b x h; omega
  | succ n ih =>
    intro acc b x h
    unfold takeN at h
    split at h
    · simp at h
    · rename_i y r h0
      have h1 := takeText_len _ _ _ h0
      have h2 := ih _ _ _ h
      omega
theorem takeRow_n (b r : List UInt8) (n : Nat) (h : Ta.take 0 b = some (n, r)) : takeRow b = takeN n [] r := by
  unfold takeRow
  rw [h]
  simp only
  split
  · rfl
  · rename_i hn
    cases h2 : takeN n [] r with
    | none => rfl
    | some x => exact absurd (takeN_len _ _ _ _ h2) hn
def msr : Value → Value → Nat
  | .string r, .bool true => r.size + 1
  | _, _ => 0
def Step (n : Nat) (r0 r : List UInt8) (acc : List (List UInt8)) (ok : Bool) : Prop :=
  acc.length + r.length ≤ r0.length + 1 ∧ (ok = true → acc.length ≤ n ∧ acc.length + r.length ≤ r0.length ∧ takeN n [] r0 = takeN (n - acc.length) acc r) ∧ (ok = false → takeN n [] r0 = none)
theorem step_some {n : Nat} {r0 r x r' : List UInt8} {acc : List (List UInt8)} (h : Step n r0 r acc true) (hlt : acc.length < n) (hx : Ta.takeText r = some (x, r')) : Step n r0 r' (acc ++ [x]) true := by
  have h1 := takeText_len _ _ _ hx
  obtain ⟨_, h3, _⟩ := h
  obtain ⟨_, h5, h6⟩ := h3 rfl
  refine ⟨by simp; omega, fun _ => ⟨by simp; omega, by simp; omega, ?_⟩, fun e => by cases e⟩
  rw [h6, show n - acc.length = (n - (acc ++ [x]).length) + 1 by simp; omega, takeN, hx]
theorem step_none {n : Nat} {r0 r : List UInt8} {acc : List (List UInt8)} (h : Step n r0 r acc true) (hlt : acc.length < n) (hx : Ta.takeText r = none) : Step n r0 [] (acc ++ [[]]) false := by
  obtain ⟨_, h3, _⟩ := h
  obtain ⟨_, h5, h6⟩ := h3 rfl
  refine ⟨by simp; omega, fun e => (by cases e), fun _ => ?_⟩
  rw [h6, show n - acc.length = (n - acc.length - 1) + 1 by omega, takeN, hx]
theorem step_end {n : Nat} {r0 r : List UInt8} {acc : List (List UInt8)} (h : Step n r0 r acc true) (hge : ¬ acc.length < n) : takeN n [] r0 = some (acc, r) := by
  obtain ⟨_, h3, _⟩ := h
  obtain ⟨h4, h5, h6⟩ := h3 rfl
  rw [h6, show n - acc.length = 0 by omega, takeN]
theorem own_shape {w : World} {base e size n : Nat} {v : Value} {xs : List Value} (h : w.ownsRow base e size v n xs) : ∃ a cap, v = .slice a n cap := by
  rcases h.2 with ⟨rfl, rfl⟩ | ⟨g, cap, _, rfl, _⟩
  · exact ⟨none, 0, rfl⟩
  · exact ⟨_, cap, rfl⟩
end Go.Proofs.YtbmlnodimcalgaaDoor.Tal
