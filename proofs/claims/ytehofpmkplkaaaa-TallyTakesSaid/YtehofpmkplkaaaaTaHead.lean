/- The calls whose answers the document fixes. -/
import Derived.Test.YtehofpmkplkaaaaTaTake
namespace Go.Proofs.Ytehofpmkplkaaaa.Tal
open Go.RowKit
theorem num_127 : Ta.num 127 = [127] := by simp [Ta.num, Ta.up_zero]
theorem num_16511 : Ta.num 16511 = [255, 127] := by simp [Ta.num, Ta.up_pos, Ta.up_zero]
theorem num_16512 : Ta.num 16512 = [128, 128, 0] := by simp [Ta.num, Ta.up_pos, Ta.up_zero]
theorem num_128 : Ta.num 128 = [128, 0] := by simp [Ta.num, Ta.up_pos, Ta.up_zero]
theorem num_0 : Ta.num 0 = [0] := by simp [Ta.num, Ta.up_zero]
theorem num_1 : Ta.num 1 = [1] := by simp [Ta.num, Ta.up_zero]
theorem num_2 : Ta.num 2 = [2] := by simp [Ta.num, Ta.up_zero]
theorem row_a : row [⟨#[97]⟩, ⟨#[]⟩] = [2, 1, 97, 0] := by simp [row, txts, txt, num_0, num_1, num_2]
theorem strs_two (w : World) : Strs (w.alloc (.cells #[.string ⟨#[97]⟩, .string ⟨#[]⟩] 9)) (some ⟨w.heap.size, 0, none⟩) [⟨#[97]⟩, ⟨#[]⟩] := by
  intro j hj
  refine ⟨w.heap.size, 0, rfl, by simp, ?_⟩
  rw [World.cell?_alloc_at _ _ _ _ rfl]
  match j, hj with
  | 0, _ => rfl
  | 1, _ => rfl
/-- One after the other. -/
theorem then_below {a b c : World} (h : Below a.heap.size a b) (k : Below b.heap.size b c) : Below a.heap.size a c := h.trans (k.mono h.size)
set_option maxRecDepth 100000 in
set_option maxHeartbeats 1600000 in
theorem head_c (w : World) : Calls Try.prog 15 #[] w fun e w' => e = .returned (.bool true) ∧ Below w.heap.size w w' := by
  have k1 := Lib.hid (fun w => (show Ta.take 0 [128, 0, 5] = some (128, [5]) by rfl) ▸ takeNum_c ⟨#[128, 0, 5]⟩ w (by decide))
  have k2 := Lib.hid (fun w => (show Ta.takeText [2, 97] = none by rfl) ▸ takeText_c ⟨#[2, 97]⟩ w (by decide))
  have k3 := Lib.hid (fun w => (show takeRow [1] = none by rfl) ▸ takeRow_c ⟨#[1]⟩ w (by decide))
  have k4 := Lib.hid (fun w => num_127 ▸ num_c 127 w (by decide))
  have k5 := Lib.hid (fun w => num_16511 ▸ num_c 16511 w (by decide))
  have k6 := Lib.hid (fun w => num_16512 ▸ num_c 16512 w (by decide))
  have k7 := Lib.hid (fun w => (show Ta.num (zig (-1)) = [1] from num_1) ▸ int_c (-1) w (by decide) (by decide))
  have k8 := Lib.hid (fun w => (show Ta.num (zig 64) = [128, 0] from num_128) ▸ int_c 64 w (by decide) (by decide))
  go_enter Try.func15, Try.ntmps15
  go_wp2_with fail
  refine (k1.out w).mono ?_
  rintro e w1 ⟨rfl, b1⟩
  go_wp2_with fail
  refine (k2.out w1).mono ?_
  rintro e w2 ⟨rfl, b2⟩
  go_wp2_with fail
  refine (k3.out w2).mono ?_
  rintro e w3 ⟨v3, rfl, b3, _⟩
  go_wp2_with fail
  refine (k4.out w3).mono ?_
  rintro e w4 ⟨rfl, b4⟩
  go_wp2_with fail
  refine (k5.out w4).mono ?_
  rintro e w5 ⟨rfl, b5⟩
  go_wp2_with fail
  refine (k6.out w5).mono ?_
  rintro e w6 ⟨rfl, b6⟩
  go_wp2_with fail
  refine (k7.out w6).mono ?_
  rintro e w7 ⟨rfl, b7⟩
  go_wp2_with fail
  refine (k8.out w7).mono ?_
  rintro e w8 ⟨rfl, b8⟩
  go_wp2_with fail
  refine (row_a ▸ row_c (w8.alloc (.cells #[.string ⟨#[97]⟩, .string ⟨#[]⟩] 9)) (some ⟨w8.heap.size, 0, none⟩) 2 [⟨#[97]⟩, ⟨#[]⟩] (strs_two w8) (by decide) (by decide)).mono ?_
  rintro e w9 ⟨rfl, b9⟩
  go_wp2_with fail
  go_ret
  exact ⟨rfl, then_below (then_below (then_below (then_below (then_below (then_below (then_below (then_below b1 b2) b3) b4) b5) b6) b7) b8) (then_below ((Below.refl _ w8).alloc (Nat.le_refl _) _) b9)⟩
end Go.Proofs.Ytehofpmkplkaaaa.Tal
