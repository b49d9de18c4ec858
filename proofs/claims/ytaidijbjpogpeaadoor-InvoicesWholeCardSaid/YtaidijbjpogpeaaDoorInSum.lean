/- The document's sum of amounts from 0 on. -/
import Derived.Test.YtaidijbjpogpeaaDoorInHead
import Derived.Laws.BitsLemmas
namespace Go.Proofs.YtaidijbjpogpeaaDoor.Inv
open Go.RowKit
theorem i64_half (n : Int) : bits .and .i64 n 4294967295 = n % 4294967296 := by
  have h127 : (BitVec.ofInt 64 4294967295).toNat = 2 ^ 32 - 1 := by decide
  have key : (BitVec.ofInt 64 n &&& BitVec.ofInt 64 4294967295).toNat = (n % ((2 ^ 64 : Nat) : Int)).toNat % 2 ^ 32 := by
    rw [BitVec.toNat_and, BitVec.toNat_ofInt, h127, Nat.and_two_pow_sub_one_eq_mod]
  show IntKind.i64.wrap ((BitVec.ofInt 64 n &&& BitVec.ofInt 64 4294967295).toNat : Nat) = n % 4294967296
  rw [key, IntKind.wrap_i64]
  omega
/-- A sum of numbers from 0 on, told, or not. -/
def sumV (s : Int) : Int := if s ≤ 9223372036854775807 then s else 0
def sumB (s : Int) : Bool := decide (s ≤ 9223372036854775807)
def hiS (xs : List Int) : Int := (xs.map fun x : Int => x / 4294967296).sum
def loS (xs : List Int) : Int := (xs.map fun x : Int => x % 4294967296).sum
theorem halves (xs : List Int) : hiS xs * 4294967296 + loS xs = xs.sum := by
  induction xs with
  | nil => rfl
  | cons x xs ih => simp only [hiS, loS, List.map_cons, List.sum_cons] at *; omega
theorem halves_bd (xs : List Int) (h : ∀ x ∈ xs, 0 ≤ x ∧ x ≤ 9223372036854775807) :
    0 ≤ hiS xs ∧ hiS xs ≤ 2147483648 * (xs.length : Int) ∧ 0 ≤ loS xs ∧ loS xs ≤ 4294967296 * (xs.length : Int) := by
  induction xs with
  | nil => simp [hiS, loS]
  | cons x xs ih =>
    have h1 := ih fun y hy => h y (List.mem_cons_of_mem _ hy)
    have h2 := h x List.mem_cons_self
    simp only [hiS, loS, List.map_cons, List.sum_cons, List.length_cons, Int.natCast_succ] at *
    omega
theorem hiS_snoc (xs : List Int) (x : Int) : hiS (xs ++ [x]) = hiS xs + x / 4294967296 := by simp [hiS]
theorem loS_snoc (xs : List Int) (x : Int) : loS (xs ++ [x]) = loS xs + x % 4294967296 := by simp [loS]
set_option maxRecDepth 100000 in
set_option maxHeartbeats 800000 in
theorem rsum_c (g off cap : Nat) (xs : List Int) (w : World) (hl : xs.length ≤ 100000) (hx : ∀ x ∈ xs, 0 ≤ x ∧ x ≤ 9223372036854775807)
    (hc : ∀ j, (h : j < xs.length) → w.cell? ⟨g, off + j, none⟩ = some (.int .i64 xs[j])) :
    Calls Tryd.prog 34 #[.slice (some ⟨g, off, none⟩) xs.length cap] w fun e w' => e = .returned (.tuple #[.int .i64 (sumV xs.sum), .bool (sumB xs.sum)]) ∧ w = w' := by
  have HC := Lib.hid hc
  have HX := Lib.hid hx
  clear hc hx
  go_enter Tryd.func34, Tryd.ntmps34
  go_wp2_with fail
  go_loop [4, 5, 6] (fun u v i => ∃ k : Nat, k ≤ xs.length ∧ i = .int .i64 k ∧ u = .int .i64 (hiS (xs.take k)) ∧ v = .int .i64 (loS (xs.take k))) (fun _ _ i => xs.length - (intOf i).toNat)
  case atStart => exact ⟨0, by omega, rfl, rfl, rfl⟩
  case round =>
    obtain ⟨k, hk, rfl, hu, hv⟩ := hrel
    obtain ⟨b1, b2, b3, b4⟩ := halves_bd (xs.take k) (fun x hx => HX.out x (List.mem_of_mem_take hx))
    have hlen : (xs.take k).length = k := by simp; omega
    rw [hlen] at b2 b4
    by_cases hlt : k < xs.length
    · have hcell := HC.out k hlt
      have hb := HX.out xs[k] (List.getElem_mem hlt)
      have H1 := Lib.hid (show hiS (xs.take (k + 1)) = hiS (xs.take k) + xs[k] / 4294967296 by rw [List.take_succ_eq_append_getElem hlt, hiS_snoc])
      have H2 := Lib.hid (show loS (xs.take (k + 1)) = loS (xs.take k) + xs[k] % 4294967296 by rw [List.take_succ_eq_append_getElem hlt, loS_snoc])
      generalize hiS (xs.take k) = a at *
      generalize loS (xs.take k) = b at *
      generalize xs[k] = z at *
      obtain ⟨hb1, hb2⟩ := hb
      subst hu hv
      clear hlen
      have hand := i64_half z
      go_wp2_with fail
      exact ⟨⟨k + 1, by omega, by go_num, by rw [H1.out], by rw [H2.out]⟩, by simp [intOf]; omega⟩
    · obtain rfl : k = xs.length := by omega
      have hs := halves xs
      rw [List.take_length] at hu hv b1 b2 b3 b4
      have HS := Lib.hid hs
      have HR := Lib.hid (show ∀ r : Int, r = xs.sum → xs.sum ≤ 9223372036854775807 → Ending.returned (.tuple #[.int .i64 r, .bool true]) = .returned (.tuple #[.int .i64 (sumV xs.sum), .bool (sumB xs.sum)]) from fun r h g => by unfold sumV sumB; rw [h, if_pos g, decide_eq_true g])
      have HQ := Lib.hid (show ¬ xs.sum ≤ 9223372036854775807 → Ending.returned (.tuple #[.int .i64 0, .bool false]) = .returned (.tuple #[.int .i64 (sumV xs.sum), .bool (sumB xs.sum)]) from fun g => by unfold sumV sumB; rw [if_neg g, decide_eq_false g])
      generalize hiS xs = a at *
      generalize loS xs = b at *
      subst hu hv
      have hand := i64_half b
      clear hlen hs
      by_cases hh : a + b / 4294967296 < 2147483648
      · have hg : ¬ 2147483648 ≤ a + b / 4294967296 := by omega
        have hm : ¬ a + b / 4294967296 < -2147483648 := by omega
        have q0 : 0 ≤ a + b / 4294967296 := by omega
        go_wp2_with fail
        go_ret2
        exact ⟨HR.out _ (by have := HS.out; omega) (by have := HS.out; omega), rfl⟩
      · have hg : 2147483648 ≤ a + b / 4294967296 := by omega
        have hm : ¬ a + b / 4294967296 < -2147483648 := by omega
        go_wp2_with fail
        go_ret2
        exact ⟨HQ.out (by have := HS.out; omega), rfl⟩
end Go.Proofs.YtaidijbjpogpeaaDoor.Inv
