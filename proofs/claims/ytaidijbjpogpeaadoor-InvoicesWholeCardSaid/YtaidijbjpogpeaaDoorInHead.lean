/- The contracts of package invoices: the small ones. -/
import Derived.Test.YtaidijbjpogpeaaDoorRows
import Derived.WalkKit
import Derived.WalkSpells
import Derived.WalkLawsBesides
import Derived.Lib.Hide
import Derived.BigQuiet
import Derived.Deep.QuietTactic
import Derived.Handy
namespace Go.Proofs.YtaidijbjpogpeaaDoor.Inv
open Go.RowKit

theorem ret_bool {a b : Bool} (h : a = b) : Ending.returned (.bool a) = .returned (.bool b) := by rw [h]
theorem ret_int {k : IntKind} {a b : Int} (h : a = b) : Ending.returned (.int k a) = .returned (.int k b) := by rw [h]

/-- An invoice. -/
structure Iv where
  id : Int
  cust : Int
  con : Int
  day : Int
  due : Int
  frm : Int
  next : Int
  amt : Int
  cred : Int
  paid : Int
  lost : Int
def I64 (x : Int) : Prop := -9223372036854775808 ≤ x ∧ x ≤ 9223372036854775807
/-- An invoice of the machine: each number in its kind. -/
structure Iv.Fits (x : Iv) : Prop where
  id : 0 ≤ x.id ∧ x.id ≤ 18446744073709551615
  cust : 0 ≤ x.cust ∧ x.cust ≤ 18446744073709551615
  con : 0 ≤ x.con ∧ x.con ≤ 18446744073709551615
  day : I64 x.day
  due : I64 x.due
  frm : I64 x.frm
  next : I64 x.next
  amt : I64 x.amt
  cred : I64 x.cred
  paid : I64 x.paid
  lost : I64 x.lost
def Iv.cells (x : Iv) : Array Value := #[.int .u64 x.id, .int .u64 x.cust, .int .u64 x.con, .int .i64 x.day, .int .i64 x.due, .int .i64 x.frm, .int .i64 x.next, .int .i64 x.amt, .int .i64 x.cred, .int .i64 x.paid, .int .i64 x.lost]
def Iv.val (x : Iv) : Value := .agg x.cells

theorem isDay_c (d : Int) (w : World) :
    Calls Tryd.prog 32 #[.int .i64 d] w fun e w' => e = .returned (.bool (decide (1 ≤ d ∧ d ≤ 3652059))) ∧ w = w' := by
  by_cases h1 : 1 ≤ d
  · by_cases h2 : d ≤ 3652059
    · go_enter Tryd.func32, Tryd.ntmps32
      go_wp2
      go_ret
      exact ⟨ret_bool (by rw [decide_eq_true (by omega)]), rfl⟩
    · go_enter Tryd.func32, Tryd.ntmps32
      go_wp2
      go_ret
      exact ⟨ret_bool (by rw [decide_eq_false (by omega)]), rfl⟩
  · go_enter Tryd.func32, Tryd.ntmps32
    go_wp2
    go_ret
    exact ⟨ret_bool (by simp; omega), rfl⟩

set_option maxRecDepth 100000 in
theorem all_c (g off cap : Nat) (bs : List Bool) (w : World) (hb : g < w.heap.size) (hl : bs.length ≤ 1000)
    (hc : ∀ j, (h : j < bs.length) → w.cell? ⟨g, off + j, none⟩ = some (.bool bs[j])) :
    Calls Tryd.prog 31 #[.slice (some ⟨g, off, none⟩) bs.length cap] w fun e w' => e = .returned (.bool (bs.all (fun b => b))) ∧ Below w.heap.size w w' := by
  have HC := Lib.hid hc
  clear hc
  go_enter Tryd.func31, Tryd.ntmps31
  go_wp2_with fail
  go_loopw [4, 7] (fun _ i wr => ∃ k : Nat, k ≤ bs.length ∧ i = .int .i64 k ∧ ((bs.take k).all (fun b => b) = true) ∧ Below w.heap.size w wr) (fun _ i _ => bs.length - (intOf i).toNat)
  case atStart => exact ⟨0, by omega, rfl, by simp, Below.refl _ _⟩
  case round =>
    obtain ⟨k, hk, rfl, hA, hB⟩ := hrel
    have HA := Lib.hid hA
    clear hA
    by_cases hlt : k < bs.length
    · have hcell : wr.cell? ⟨g, off + k, none⟩ = some (.bool bs[k]) := by rw [hB.cell hb]; exact HC.out k hlt
      have HT := Lib.hid (show (bs.take (k + 1)).all (fun b => b) = bs[k] by rw [List.take_succ_eq_append_getElem hlt, List.all_append, HA.out]; simp)
      have HF := Lib.hid (show bs[k] = false → bs.all (fun b => b) = false by
        intro h
        rw [List.all_eq_false]
        exact ⟨bs[k], List.getElem_mem hlt, by simp [h]⟩)
      generalize hx : bs[k] = x at *
      clear hx
      cases x with
      | true =>
        go_wp2_with fail
        all_goals exact ⟨⟨k + 1, by omega, by go_num, HT.out, by first | exact hB | exact hB.drew⟩, by simp [intOf]; omega⟩
      | false =>
        go_wp2_with fail
        all_goals
          go_ret
          exact ⟨ret_bool (by rw [HF.out (by first | rfl | trivial)]), by first | exact hB | exact hB.drew⟩
    · obtain rfl : k = bs.length := by omega
      go_wp2_with fail
      go_ret
      exact ⟨ret_bool (by have := HA.out; rw [List.take_length] at this; rw [this]), hB⟩

/-- One part off what is left. -/
def off (n x : Int) : Int := if 0 ≤ n then n - x else n
def Iv.left (x : Iv) : Int := off (off (off x.amt x.cred) x.paid) x.lost

set_option maxRecDepth 100000 in
theorem left_c (x : Iv) (w : World) (hx : x.Fits) (h1 : 0 ≤ x.cred) (h2 : 0 ≤ x.paid) (h3 : 0 ≤ x.lost) :
    Calls Tryd.prog 27 #[x.val] w fun e w' => e = .returned (.int .i64 x.left) ∧ Below w.heap.size w w' := by
  obtain ⟨i, cu, co, d, du, fr, nx, a, c, p, l⟩ := x
  obtain ⟨-, -, -, -, -, -, -, ⟨a0, a1⟩, ⟨c0, c1⟩, ⟨p0, p1⟩, ⟨l0, l1⟩⟩ := hx
  simp only at h1 h2 h3 a0 a1 c0 c1 p0 p1 l0 l1
  unfold Iv.val Iv.cells
  have HE : ∀ r, r = off (off (off a c) p) l → r = (Iv.mk i cu co d du fr nx a c p l).left := fun r h => h
  have HL := Lib.hid HE
  clear HE
  go_enter Tryd.func27, Tryd.ntmps27
  go_wp2
  go_rounds 4
  all_goals first | (go_ret; exact ⟨ret_int (HL.out _ (by unfold off; split <;> (try split) <;> (try split) <;> omega)), by repeat (first | exact Below.refl _ _ | refine Below.alloc ?_ (by simp) _)⟩) | skip

set_option maxRecDepth 100000 in
theorem left_any (x : Iv) (w : World) :
    Calls Tryd.prog 27 #[x.val] w fun e w' => (∃ r, e = .returned (.int .i64 r)) ∧ Below w.heap.size w w' := by
  obtain ⟨i, cu, co, d, du, fr, nx, a, c, p, l⟩ := x
  unfold Iv.val Iv.cells
  go_enter Tryd.func27, Tryd.ntmps27
  go_wp2
  go_rounds 4
  all_goals
    go_ret
    exact ⟨⟨_, rfl⟩, by repeat (first | exact Below.refl _ _ | refine Below.alloc ?_ (by simp) _)⟩
/-- What is left: as the document says, of parts from 0 on. -/
theorem left_is (x : Iv) (w : World) (hx : x.Fits) :
    Calls Tryd.prog 27 #[x.val] w fun e w' => (∃ r, e = .returned (.int .i64 r) ∧ (0 ≤ x.cred → 0 ≤ x.paid → 0 ≤ x.lost → r = x.left)) ∧ Below w.heap.size w w' := by
  by_cases h : 0 ≤ x.cred ∧ 0 ≤ x.paid ∧ 0 ≤ x.lost
  · exact (left_c x w hx h.1 h.2.1 h.2.2).mono fun e w' ⟨a, b⟩ => ⟨⟨_, a, fun _ _ _ => rfl⟩, b⟩
  · exact (left_any x w).mono fun e w' ⟨⟨r, a⟩, b⟩ => ⟨⟨r, a, fun h1 h2 h3 => absurd ⟨h1, h2, h3⟩ h⟩, b⟩

/-- Which invoices may be. -/
def Iv.okB (x : Iv) : Bool :=
  [decide (0 < x.id), decide (0 < x.cust), decide (1 ≤ x.day ∧ x.day ≤ 3652059), decide (1 ≤ x.due ∧ x.due ≤ 3652059), decide (x.day ≤ x.due), decide (1 ≤ x.frm ∧ x.frm ≤ 3652059),
    decide (x.frm < x.next), decide (x.next ≤ 3652060), decide (0 ≤ x.amt), decide (x.amt < 4611686018427387904), decide (0 ≤ x.cred), decide (0 ≤ x.paid), decide (0 ≤ x.lost), decide (0 ≤ x.left)].all (fun b => b)
end Go.Proofs.YtaidijbjpogpeaaDoor.Inv
