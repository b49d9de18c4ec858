/- Package invoices: ages, in plain numbers. -/
import Derived.Handy
namespace Go.Proofs.YtaidijbjpogpeaaDoor.Inv
/-- What is open of one age: of pairs of an age and what is open. -/
def S (ps : List (Int × Int)) (a : Int) : Int := ((ps.filter fun p => p.1 == a).map (·.2)).sum
theorem S_nil (a : Int) : S [] a = 0 := rfl
theorem S_snoc (ps : List (Int × Int)) (p : Int × Int) (a : Int) : S (ps ++ [p]) a = S ps a + (if p.1 = a then p.2 else 0) := by
  unfold S
  rw [List.filter_append, List.map_append, List.sum_append]
  by_cases h : p.1 = a <;> simp [h]
theorem S_cons (ps : List (Int × Int)) (p : Int × Int) (a : Int) : S (p :: ps) a = (if p.1 = a then p.2 else 0) + S ps a := by
  unfold S
  by_cases h : p.1 = a <;> simp [h]
theorem S_nonneg (ps : List (Int × Int)) (h : ∀ p ∈ ps, 0 ≤ p.2) (a : Int) : 0 ≤ S ps a := by
  induction ps with
  | nil => simp [S]
  | cons p ps ih =>
    rw [S_cons]
    have h1 := ih fun q hq => h q (List.mem_cons_of_mem _ hq)
    have h2 := h p List.mem_cons_self
    split <;> omega
theorem S_append (ps qs : List (Int × Int)) (a : Int) : S (ps ++ qs) a = S ps a + S qs a := by
  unfold S; rw [List.filter_append, List.map_append, List.sum_append]
theorem S_take (ps : List (Int × Int)) (h : ∀ p ∈ ps, 0 ≤ p.2) (a : Int) (k : Nat) : S (ps.take k) a ≤ S ps a := by
  have e := S_append (ps.take k) (ps.drop k) a
  rw [List.take_append_drop] at e
  have := S_nonneg (ps.drop k) (fun p hp => h p (List.mem_of_mem_drop hp)) a
  omega
/-- All together. -/
def T (ps : List (Int × Int)) : Int := (ps.map (·.2)).sum
theorem T_cons (ps : List (Int × Int)) (p : Int × Int) : T (p :: ps) = p.2 + T ps := by simp [T]
theorem T_is (ps : List (Int × Int)) (h : ∀ p ∈ ps, 0 ≤ p.1 ∧ p.1 ≤ 4) : T ps = S ps 0 + S ps 1 + S ps 2 + S ps 3 + S ps 4 := by
  induction ps with
  | nil => simp [T, S]
  | cons p ps ih =>
    have h1 := ih fun q hq => h q (List.mem_cons_of_mem _ hq)
    have h2 := h p List.mem_cons_self
    rw [T_cons, h1]
    simp only [S_cons]
    have : p.1 = 0 ∨ p.1 = 1 ∨ p.1 = 2 ∨ p.1 = 3 ∨ p.1 = 4 := by omega
    rcases this with e | e | e | e | e <;> rw [e] <;> simp <;> omega
/-- From an age on. -/
def Fr (ps : List (Int × Int)) (k : Int) : Int := ((ps.filter fun p => k ≤ p.1).map (·.2)).sum
theorem Fr_cons (ps : List (Int × Int)) (p : Int × Int) (k : Int) : Fr (p :: ps) k = (if k ≤ p.1 then p.2 else 0) + Fr ps k := by
  unfold Fr
  by_cases h : k ≤ p.1 <;> simp [h]
theorem Fr_is (ps : List (Int × Int)) (h : ∀ p ∈ ps, 0 ≤ p.1 ∧ p.1 ≤ 4) :
    Fr ps 4 = S ps 4 ∧ Fr ps 3 = S ps 3 + S ps 4 ∧ Fr ps 2 = S ps 2 + S ps 3 + S ps 4 ∧ Fr ps 1 = S ps 1 + S ps 2 + S ps 3 + S ps 4 ∧ Fr ps 0 = S ps 0 + S ps 1 + S ps 2 + S ps 3 + S ps 4 := by
  induction ps with
  | nil => simp [Fr, S]
  | cons p ps ih =>
    have h1 := ih fun q hq => h q (List.mem_cons_of_mem _ hq)
    have h2 := h p List.mem_cons_self
    simp only [S_cons, Fr_cons]
    have : p.1 = 0 ∨ p.1 = 1 ∨ p.1 = 2 ∨ p.1 = 3 ∨ p.1 = 4 := by omega
    rcases this with e | e | e | e | e <;> rw [e] <;> simp <;> omega
theorem Fr_later {α : Type} (l : List α) (f g : α → Int) (v : α → Int) (h : ∀ x ∈ l, f x ≤ g x ∧ 0 ≤ v x) (k : Int) : Fr (l.map fun x => (f x, v x)) k ≤ Fr (l.map fun x => (g x, v x)) k := by
  induction l with
  | nil => simp [Fr]
  | cons x l ih =>
    have h1 := ih fun y hy => h y (List.mem_cons_of_mem _ hy)
    have h2 := h x List.mem_cons_self
    simp only [List.map_cons, Fr_cons]
    split <;> split <;> omega
/-- The age of what is so many days late. -/
def ageOf (n : Int) : Int := if n ≤ 0 then 0 else if n ≤ 30 then 1 else if n ≤ 60 then 2 else if n ≤ 90 then 3 else 4
theorem ageOf_bd (n : Int) : 0 ≤ ageOf n ∧ ageOf n ≤ 4 := by unfold ageOf; (repeat' split) <;> omega
theorem ageOf_mono {m n : Int} (h : m ≤ n) : ageOf m ≤ ageOf n := by unfold ageOf; (repeat' split) <;> omega
end Go.Proofs.YtaidijbjpogpeaaDoor.Inv
