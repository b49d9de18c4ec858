/- Package drive: the reference's drive: zero, blown. -/
import Derived.Test.YthoafaaemikiaaaDvWrite
namespace Go.Proofs.Ythoafaaemikiaaa.Dv
open Go Go.RowKit Rf
def zb (n : Nat) : ByteArray := ⟨(List.replicate n 0).toArray⟩
theorem zb_succ (n : Nat) : zb n ++ ⟨#[0]⟩ = zb (n + 1) := by
  have : (zb n ++ ⟨#[0]⟩ : ByteArray).data.toList = (zb (n + 1)).data.toList := by
    rw [ByteArray.data_append]
    simp [zb, List.replicate_succ']
  generalize (zb n ++ ⟨#[0]⟩ : ByteArray) = a at this
  cases a with
  | mk d => exact congrArg ByteArray.mk (Array.toList_inj.1 this)
set_option maxRecDepth 100000 in
set_option maxHeartbeats 1600000 in
theorem zero_c (w : World) : Calls Try.prog 22 #[] w fun e w' => e = .returned (.string (zb 64)) ∧ w = w' := by
  go_enter Try.func22, Try.ntmps22
  go_wp2_with fail
  go_loopw [1, 2] (fun s i wr => ∃ j : Nat, i = .int .i64 (j : Int) ∧ j ≤ 64 ∧ s = .string (zb j) ∧ wr = w) (fun _ i _ => 64 - (intOf i).toNat)
  case atStart => exact ⟨0, rfl, Nat.zero_le _, rfl, rfl⟩
  case round =>
    obtain ⟨j, rfl, hj, rfl, rfl⟩ := hrel
    have hz := zb_succ j
    have hs : (zb j).size = j := by unfold zb; simp [ByteArray.size]
    by_cases h : j < 64
    · have h1 : (j : Int) < 64 := by omega
      go_wp2_with fail
      exact ⟨⟨j + 1, by go_num, by omega, rfl, trivial⟩, by simp [intOf]; omega⟩
    · obtain rfl : j = 64 := by omega
      go_wp2_with fail
      go_ret
      exact ⟨rfl, rfl⟩
/-- The fuse's cell. -/
def fcell : Option Nat → Int
  | none => -1
  | some n => n
set_option maxRecDepth 100000 in
set_option maxHeartbeats 1600000 in
theorem blown_no (g : Nat) (t : TypeId) (a b c d : Value) (F : Option Nat) (w : World) (h : Rw w g t [a, b, c, d, .int .i64 (fcell F)]) (hF : Dv.burn F = none) : Calls Try.prog 26 #[.pointer (some ⟨g, 0, Option.none⟩)] w fun e w' => e = .returned (.bool true) ∧ w = w' := by
  have hF0 : F = some 0 := by
    cases F with
    | none => simp [burn] at hF
    | some n => cases n with
      | zero => rfl
      | succ n => simp [burn] at hF
  subst hF0
  have c4 : w.cell? ⟨g, 4, none⟩ = some (.int .i64 0) := h.cell 4
  go_enter Try.func26, Try.ntmps26
  go_wp2_with fail
  go_ret
  exact ⟨rfl, rfl⟩
set_option maxRecDepth 100000 in
set_option maxHeartbeats 1600000 in
theorem blown_yes (g : Nat) (t : TypeId) (a b c d : Value) (F F' : Option Nat) (w : World) (h : Rw w g t [a, b, c, d, .int .i64 (fcell F)]) (hF : Dv.burn F = some F') (hf : ∀ k, F = some k → k ≤ 9223372036854775807) :
    Calls Try.prog 26 #[.pointer (some ⟨g, 0, Option.none⟩)] w fun e w' => e = .returned (.bool false) ∧ Rw w' g t [a, b, c, d, .int .i64 (fcell F')] ∧ Keeps (fun j => j = g) w w' := by
  have HW := Lib.hid h
  have c4 : w.cell? ⟨g, 4, none⟩ = some (.int .i64 (fcell F)) := h.cell 4
  have f4 : w.frozen? ⟨g, 4, none⟩ = false := h.frozen 4
  clear h
  cases F with
  | none =>
    obtain rfl : none = F' := by simpa [burn] using hF
    have c4 : w.cell? ⟨g, 4, none⟩ = some (.int .i64 (-1)) := c4
    go_enter Try.func26, Try.ntmps26
    go_wp2_with fail
    go_ret
    exact ⟨rfl, HW.out, Keeps.refl _ _⟩
  | some n =>
    cases n with
    | zero => simp [burn] at hF
    | succ n =>
      obtain rfl : some n = F' := by simpa [burn] using hF
      have hn := hf _ rfl
      have c4 : w.cell? ⟨g, 4, none⟩ = some (.int .i64 ((n : Int) + 1)) := c4
      have hn0 : (0 : Int) < (n : Int) + 1 := by omega
      have hn1 : (((n : Int) + 1) == 0) = false := by simp only [beq_eq_false_iff_ne, ne_eq]; omega
      have hn2 : wrap64 (fcell (some (n + 1)) - 1) = (n : Int) := by
        show wrap64 (((n + 1 : Nat) : Int) - 1) = _
        have := IntWalk.wrap64_in (n : Int) (by omega)
        rw [show ((n + 1 : Nat) : Int) - 1 = (n : Int) by omega]
        exact this
      clear hf hF
      go_enter Try.func26, Try.ntmps26
      go_wp2_with fail
      go_ret
      rw [hn2]
      exact ⟨rfl, HW.out.setCell 4 _, (Keeps.refl _ w).setCell g 4 _ (.inl rfl)⟩
end Go.Proofs.Ythoafaaemikiaaa.Dv
