/- Package invoices: InvoicesOlder. (gen_inolder.py writes this.) -/
import Derived.Test.YtaidijbjpogpeaaDoorInAge
import Derived.Test.YtaidijbjpogpeaaDoorAsSum0
namespace Go.Proofs.YtaidijbjpogpeaaDoor.Inv
open Go.RowKit Cm
/-- The lists' parts, one after the other. -/
def Pk (xs : List Int) (k i : Nat) : Int := ((xs.take i).drop k).sum
theorem Pk_start (xs : List Int) (k : Nat) : Pk xs k k = 0 := by unfold Pk; rw [List.drop_eq_nil_of_le (by simp; omega)]; rfl
theorem Pk_step (xs : List Int) (k i : Nat) (hk : k ≤ i) (hi : i < xs.length) : Pk xs k (i + 1) = Pk xs k i + xs[i] := by
  unfold Pk
  rw [List.take_succ_eq_append_getElem hi, List.drop_append_of_le_length (by simp; omega), List.sum_append]
  simp
theorem sum_nonneg (xs : List Int) (h : ∀ x ∈ xs, 0 ≤ x) : 0 ≤ xs.sum := by
  induction xs with
  | nil => simp
  | cons x xs ih => have := ih fun y hy => h y (List.mem_cons_of_mem _ hy); have := h x List.mem_cons_self; simp; omega
theorem Pk_bd (xs : List Int) (k i : Nat) (h : ∀ x ∈ xs, 0 ≤ x) : 0 ≤ Pk xs k i ∧ Pk xs k i ≤ xs.sum := by
  unfold Pk
  have h1 := sum_nonneg ((xs.take i).drop k) fun x hx => h x (List.mem_of_mem_take (List.mem_of_mem_drop hx))
  have h2 := sum_nonneg ((xs.take i).take k) fun x hx => h x (List.mem_of_mem_take (List.mem_of_mem_take hx))
  have h3 := sum_nonneg (xs.drop i) fun x hx => h x (List.mem_of_mem_drop hx)
  have e1 : xs.sum = (xs.take i).sum + (xs.drop i).sum := by rw [← List.sum_append, List.take_append_drop]
  have e2 : (xs.take i).sum = ((xs.take i).take k).sum + ((xs.take i).drop k).sum := by rw [← List.sum_append, List.take_append_drop]
  omega
/-- Ages on a day, whatever it is: zeros beside an error; else what is open of each age. -/
structure AgesOf (L : List Iv) (day : Int) (s : List Int) (z : Int) : Prop where
  len : s.length = 5
  no : z ≠ 0 → s = [0, 0, 0, 0, 0]
  yes : z = 0 → (∀ x ∈ L, x.Ok) ∧ s = [S (pairs L day) 0, S (pairs L day) 1, S (pairs L day) 2, S (pairs L day) 3, S (pairs L day) 4] ∧ ∀ x ∈ s, x ≤ M
theorem agesOf (L : List Iv) (day : Int) (m : Nat) (hk : ∀ j, (h : j < L.length) → j < m → L[j].Ok) : AgesOf L day (agesM L day m).1 (agesM L day m).2 := by
  unfold agesM
  split
  · rename_i e
    unfold agesT
    split
    · rename_i hfit
      refine ⟨rfl, fun h => absurd rfl h, fun _ => ⟨?_, rfl, ?_⟩⟩
      rotate_left
      · obtain ⟨f0, f1, f2, f3, f4⟩ := of_decide_eq_true hfit
        intro x hx
        simp at hx
        rcases hx with rfl | rfl | rfl | rfl | rfl <;> assumption
      intro x hx
      obtain ⟨j, hj, rfl⟩ := List.getElem_of_mem hx
      exact hk j hj (by omega)
    · exact ⟨rfl, fun _ => rfl, fun h => by simp at h⟩
  · exact ⟨rfl, fun _ => rfl, fun h => by simp at h⟩
theorem ages_one (a : Option Addr) (cap : Nat) (L : List Iv) (day : Int) (hl : L.length ≤ 100000) (hf : ∀ x ∈ L, x.Fits) :
    ∃ s0 s1 s2 s3 s4 z : Int, AgesOf L day [s0, s1, s2, s3, s4] z ∧ (∀ w, Ivs w a L → Tab w → Calls Tryd.prog 22 #[.slice a L.length cap, .int .i64 day] w fun e w' => e = .returned (.tuple #[(.agg #[.int .i64 s0, .int .i64 s1, .int .i64 s2, .int .i64 s3, .int .i64 s4]), .int .i64 z]) ∧ Below w.heap.size w w') := by
  cases hd : decide (1 ≤ day ∧ day ≤ 3652059) with
  | false => exact ⟨0, 0, 0, 0, 0, 2, ⟨rfl, fun _ => rfl, fun h => by simp at h⟩, fun w _ _ => ages_day a _ cap day w hd⟩
  | true =>
    have hd := of_decide_eq_true hd
    obtain ⟨m, h1, h2, h3⟩ := first_bad L
    have ha := agesOf L day m h2
    obtain ⟨⟨s, z⟩, hs⟩ : ∃ r, agesM L day m = r := ⟨_, rfl⟩
    rw [hs] at ha
    have hlen := ha.len
    match s, hlen with
    | [s0, s1, s2, s3, s4], _ =>
      exact ⟨s0, s1, s2, s3, s4, z, ha, fun w hL ht => by have h := ages_m a cap m L day w hL (by omega) hf h1 h2 h3 hd.1 hd.2 ht; rw [hs] at h; exact h⟩
theorem sum5 (a b c d f : Int) (w : World) (ha : I64 a) (hb : I64 b) (hc : I64 c) (hd : I64 d) (hf : I64 f) :
    Calls Tryd.prog 24 #[.slice (some ⟨w.heap.size, 0, none⟩) 5 5] (w.alloc (.cells #[.int .i64 a, .int .i64 b, .int .i64 c, .int .i64 d, .int .i64 f] 2)) (Told (a + b + c + d + f) (w.alloc (.cells #[.int .i64 a, .int .i64 b, .int .i64 c, .int .i64 d, .int .i64 f] 2))) := by
  have h := sum_c w.heap.size 0 5 5 [a, b, c, d, f] (w.alloc (.cells #[.int .i64 a, .int .i64 b, .int .i64 c, .int .i64 d, .int .i64 f] 2)) (by simp) (by simp) (by omega) (by intro x hx; simp at hx; rcases hx with rfl | rfl | rfl | rfl | rfl <;> assumption)
    (by intro j hj; have h : j = 0 ∨ j = 1 ∨ j = 2 ∨ j = 3 ∨ j = 4 := by (simp at hj; omega)
        rcases h with rfl | rfl | rfl | rfl | rfl <;> (rw [World.cell?_alloc_at _ _ _ _ (by simp)]; rfl))
  rw [show (List.take 5 [a, b, c, d, f]).sum = a + b + c + d + f by simp; omega] at h
  exact h
/-- The parts of a list in memory, together. -/
theorem asum_own (base : Nat) (v : Value) (xs : List Int) (w : World) (h : w.ownsRow base 2 1 v xs.length (vals xs)) (hl : xs.length ≤ 100000) (hx : ∀ x ∈ xs, I64 x) :
    Calls Tryd.prog 24 #[v] w (Told xs.sum w) := by
  rcases id h.2 with ⟨rfl, h0⟩ | ⟨g, cap, cur, rfl, hg, hrest⟩
  · have he : xs = [] := List.length_eq_zero_iff.1 h0
    subst he
    exact (sum_0 none 0 w).mono fun e w' ⟨p, q⟩ => ⟨p, q⟩
  · have hlt := (h.lt g rfl).2
    have hh := sum_c g 0 xs.length cap xs w hlt (Nat.le_refl _) (by omega) hx (by
      intro j hj
      have := h.cells rfl j (.int .i64 xs[j]) (by simp [vals, hj])
      rw [Go.WideShapes.add_plain] at this
      rw [this]; simp [List.getD, List.getElem?_eq_getElem hj])
    rwa [List.take_length] at hh
end Go.Proofs.YtaidijbjpogpeaaDoor.Inv
