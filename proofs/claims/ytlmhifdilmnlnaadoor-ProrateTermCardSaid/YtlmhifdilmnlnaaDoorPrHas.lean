/- Package prorate: parts of amounts by days. -/
import Derived.Test.YtlmhifdilmnlnaaDoorAmSigns
import Derived.Test.YtlmhifdilmnlnaaDoorCwRef3
import Derived.Test.YtlmhifdilmnlnaaDoorPrMath
import Derived.BigQuiet
import Derived.Deep.QuietTactic
import Derived.Handy
namespace Go.Proofs.YtlmhifdilmnlnaaDoor.Pr
open Go.RowKit
theorem then_below {a b c : World} (h : Below a.heap.size a b) (k : Below b.heap.size b c) : Below a.heap.size a c := h.trans (k.mono h.size)
theorem below_drewN {w u : World} (h : Below w.heap.size w u) (n : Nat) : Below w.heap.size w (u.drewN n) := ⟨h.os, h.tape, h.output, h.size, h.block⟩
def hasB (a b n : Int) : Bool := decide (a ≤ n ∧ n ≤ b)
theorem has_yes {a b n : Int} (h : a ≤ n) (k : n ≤ b) : hasB a b n = true := decide_eq_true ⟨h, k⟩
theorem has_no {a b n : Int} (h : n < a ∨ b < n) : hasB a b n = false := decide_eq_false (by omega)
theorem has_c (a b n : Int) (w : World) : Calls Tryd.prog 37 #[.agg #[.int .i64 a, .int .i64 b], .int .i64 n] w fun e w' => e = .returned (.bool (hasB a b n)) ∧ Below w.heap.size w w' := by
  have b0 : Below w.heap.size w (w.alloc (.cells #[.int .i64 a, .int .i64 b] 74)) := (Below.refl _ w).alloc (Nat.le_refl _) _
  have B0 := Lib.hid b0
  clear b0
  rcases (show (a ≤ n ∧ n ≤ b) ∨ (a ≤ n ∧ ¬ n ≤ b) ∨ ¬ a ≤ n by omega) with ⟨h1, h2⟩ | ⟨h1, h2⟩ | h1
  · have HE := Lib.hid (has_yes h1 h2)
    go_enter Tryd.func37, Tryd.ntmps37
    go_wp2_with fail
    go_ret
    exact ⟨HE.out ▸ rfl, B0.out⟩
  · have HE := Lib.hid (has_no (Or.inr (by omega) : n < a ∨ b < n))
    go_enter Tryd.func37, Tryd.ntmps37
    go_wp2_with fail
    go_ret
    exact ⟨HE.out ▸ rfl, B0.out⟩
  · have HE := Lib.hid (has_no (Or.inl (by omega) : n < a ∨ b < n))
    have hd : decide (a ≤ n) = false := decide_eq_false h1
    clear h1
    go_enter Tryd.func37, Tryd.ntmps37
    go_wp2_with fail
    go_ret
    exact ⟨HE.out ▸ rfl, B0.out⟩
theorem all_c (a b n : Int) (g : Nat) (w : World) (hc : w.cell? ⟨g, 0, none⟩ = some (.int .i64 n)) :
    Calls Tryd.prog 36 #[.func (.func 37) #[.agg #[.int .i64 a, .int .i64 b]] #[], .slice (some ⟨g, 0, none⟩) 1 1] w fun e w' => e = .returned (.bool (hasB a b n)) ∧ Below w.heap.size w w' := by
  cases hb : hasB a b n with
  | true =>
    have KH := Lib.hid (fun w => hb ▸ has_c a b n w)
    clear hb
    go_enter Tryd.func36, Tryd.ntmps36
    go_wp2_with fail
    refine wp_loop_rounds 2 ?_
    rw [rounds_succ]
    go_wp2_with fail
    refine (KH.out _).mono ?_
    rintro e w1 ⟨rfl, b1⟩
    go_wp2_with fail
    rw [rounds_succ]
    go_wp2_with fail
    go_ret
    exact ⟨rfl, b1⟩
  | false =>
    have KH := Lib.hid (fun w => hb ▸ has_c a b n w)
    clear hb
    go_enter Tryd.func36, Tryd.ntmps36
    go_wp2_with fail
    refine wp_loop_rounds 1 ?_
    rw [rounds_succ]
    go_wp2_with fail
    refine (KH.out _).mono ?_
    rintro e w1 ⟨rfl, b1⟩
    go_wp2_with fail
    go_ret
    exact ⟨rfl, b1⟩
theorem all_new (a b n : Int) (w : World) :
    Calls Tryd.prog 36 #[.func (.func 37) #[.agg #[.int .i64 a, .int .i64 b]] #[], .slice (some ⟨w.heap.size, 0, none⟩) 1 1] (w.alloc (.cells #[.int .i64 n] 3)) fun e w' => e = .returned (.bool (hasB a b n)) ∧ Below w.heap.size w w' :=
  (all_c a b n w.heap.size _ (by simp [go_sem])).mono fun _ _ ⟨h, k⟩ => ⟨h, then_below ((Below.refl _ w).alloc (Nat.le_refl _) _) k⟩
end Go.Proofs.YtlmhifdilmnlnaaDoor.Pr
