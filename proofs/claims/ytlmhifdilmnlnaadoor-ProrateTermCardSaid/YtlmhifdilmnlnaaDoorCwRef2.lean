/- The contracts of the document's days and dates. -/
import Derived.Test.YtlmhifdilmnlnaaDoorCwRef
import Derived.Test.YtlmhifdilmnlnaaDoorCivMath2
namespace Go.Proofs.YtlmhifdilmnlnaaDoor.Cw
open Go.RowKit

theorem valid_len (y m d : Int) (h3 : 1 ≤ m) (h4 : m ≤ 12) : Valid y m d ↔ 1 ≤ y ∧ y ≤ 9999 ∧ 1 ≤ m ∧ m ≤ 12 ∧ 1 ≤ d ∧ d ≤ Civ.len y m := by
  unfold Valid Civ.len
  omega

set_option maxHeartbeats 400000 in
theorem rday_yes (y m d : Int) (w : World) (h : Valid y m d) :
    Calls Tryd.prog 41 #[.int .i64 y, .int .i64 m, .int .i64 d] w fun e w' => e = .returned (.tuple #[.int .i64 (Civ.U y m + d), .int .i64 0]) ∧ w = w' := by
  obtain ⟨h1, h2, h3, h4, h5, h6⟩ := h
  have hl := (valid_len y m d h3 h4).1 ⟨h1, h2, h3, h4, h5, h6⟩
  have h7 := hl.2.2.2.2.2
  have hlb := Civ.len_bd y m h3 h4
  clear hl h6
  have HB := Lib.hid (Civ.U_base y)
  go_enter Tryd.func41, Tryd.ntmps41
  go_wp2_with (go_at_call 43; refine (long_c _ _ _ h1 h2 h3 h4).mono ?_; rintro e w' ⟨rfl, rfl⟩)
  go_loop [8, 9] (fun n i => ∃ k : Int, y - (y - 1) % 400 ≤ k ∧ k ≤ y ∧ i = .int .i64 k ∧ n = .int .i64 (d + Civ.U k 1)) (fun _ i => (y - intOf i).toNat)
  case atStart => exact ⟨_, by omega, by omega, rfl, by rw [HB.out]⟩
  case round =>
    obtain ⟨k, k1, k2, rfl, rfl⟩ := hrel
    have b1 := Civ.U_lo k 1 (by omega) (by omega) (by omega)
    have b2 := Civ.U_hi k 1 (by omega) (by omega) (by omega)
    have b3 := Civ.lp_01 k
    by_cases hk : k < y
    · have HE := Lib.hid (Civ.year_eq k)
      go_wp2_with (go_at_call 62; refine (year_c _ _ (by omega) (by omega)).mono ?_; rintro e w' ⟨rfl, rfl⟩)
      go_round
      case rel => exact ⟨_, by omega, by omega, rfl, by rw [HE.out, show d + Civ.U k 1 + (365 + Civ.lp k) = d + (Civ.U k 1 + 365 + Civ.lp k) by omega]⟩
      case measure => simp [intOf]; omega
    · obtain rfl : k = y := by omega
      clear hk
      go_wp2
      go_loop [8, 10] (fun n i => ∃ j : Int, 1 ≤ j ∧ j ≤ m ∧ i = .int .i64 j ∧ n = .int .i64 (d + Civ.U k j)) (fun _ i => (m - intOf i).toNat)
      case atStart => exact ⟨1, by omega, by omega, rfl, rfl⟩
      case round =>
        obtain ⟨j, j1, j2, rfl, rfl⟩ := hrel
        have c1 := Civ.U_lo k j (by omega) (by omega) (by omega)
        have c2 := Civ.U_hi k j (by omega) (by omega) (by omega)
        have c3 := Civ.len_bd k j (by omega) (by omega)
        by_cases hj : j < m
        · have HE := Lib.hid (Civ.U_add k j)
          go_wp2_with (go_at_call 43; refine (long_c _ _ _ (by omega) (by omega) (by omega) (by omega)).mono ?_; rintro e w' ⟨rfl, rfl⟩)
          go_round
          case rel => exact ⟨_, by omega, by omega, rfl, by rw [← HE.out, Int.add_assoc]⟩
          case measure => simp [intOf]; omega
        · obtain rfl : j = m := by omega
          clear hj
          go_wp2
          go_ret2
          exact ⟨ret_two (by omega) rfl, rfl⟩

set_option maxHeartbeats 400000 in
theorem rday_no (y m d : Int) (w : World) (h : ¬ Valid y m d) :
    Calls Tryd.prog 41 #[.int .i64 y, .int .i64 m, .int .i64 d] w fun e w' => e = .returned (.tuple #[.int .i64 0, .int .i64 2]) ∧ w = w' := by
  by_cases a1 : y < 1
  · clear h; go_enter Tryd.func41, Tryd.ntmps41
    go_wp2
    go_ret2
    exact ⟨rfl, rfl⟩
  by_cases a2 : 9999 < y
  · clear h; go_enter Tryd.func41, Tryd.ntmps41
    go_wp2
    go_ret2
    exact ⟨rfl, rfl⟩
  by_cases a3 : m < 1
  · clear h; go_enter Tryd.func41, Tryd.ntmps41
    go_wp2
    go_ret2
    exact ⟨rfl, rfl⟩
  by_cases a4 : 12 < m
  · clear h; go_enter Tryd.func41, Tryd.ntmps41
    go_wp2
    go_ret2
    exact ⟨rfl, rfl⟩
  by_cases a5 : d < 1
  · clear h; go_enter Tryd.func41, Tryd.ntmps41
    go_wp2
    go_ret2
    exact ⟨rfl, rfl⟩
  have a6 : Civ.len y m < d := by
    apply Classical.byContradiction
    intro hn
    exact h ((valid_len y m d (by omega) (by omega)).2 ⟨by omega, by omega, by omega, by omega, by omega, by omega⟩)
  clear h
  go_enter Tryd.func41, Tryd.ntmps41
  go_wp2_with (go_at_call 43; refine (long_c _ _ _ (by omega) (by omega) (by omega) (by omega)).mono ?_; rintro e w' ⟨rfl, rfl⟩)
  go_ret2
  exact ⟨rfl, rfl⟩
end Go.Proofs.YtlmhifdilmnlnaaDoor.Cw
