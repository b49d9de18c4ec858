/- The known answers of layer 7: head. -/
import Derived.Test.YtinfjfjheimceaaAxAdd
namespace Go.Proofs.Ytinfjfjheimceaa
open Go.RowKit

theorem told_in {P : Program} {f : FuncId} {args : Array Value} {n m : Int} {w : World} (h : Calls P f args w (Told n w)) (hm : n = m) (h1 : -9223372036854775808 ≤ m) (h2 : m ≤ 9223372036854775807) :
    Calls P f args w fun e w' => e = .returned (.tuple #[.int .i64 m, .bool true]) ∧ Below w.heap.size w w' :=
  h.mono fun e w' ⟨he, hb⟩ => by subst hm; exact ⟨by rw [he, (ok_in h1 h2).1, (ok_in h1 h2).2], hb⟩
theorem told_out {P : Program} {f : FuncId} {args : Array Value} {n : Int} {w : World} (h : Calls P f args w (Told n w)) (hn : n < -9223372036854775808 ∨ 9223372036854775807 < n) :
    Calls P f args w fun e w' => e = .returned (.tuple #[.int .i64 0, .bool false]) ∧ Below w.heap.size w w' :=
  h.mono fun e w' ⟨he, hb⟩ => ⟨by rw [he, (ok_out hn).1, (ok_out hn).2], hb⟩
theorem muldiv_in (a b c q r : Int) (w : World) (ha : I64 a) (hb : I64 b) (c1 : 1 ≤ c) (c2 : c < 9223372036854775808) (hq : a * b / c = q) (hr : a * b % c = r) (q1 : -9223372036854775808 ≤ q) (q2 : q ≤ 9223372036854775807) :
    Calls Try.prog 14 #[.int .i64 a, .int .i64 b, .int .i64 c] w fun e w' => e = .returned (.tuple #[.int .i64 q, .int .i64 r, .bool true]) ∧ Below w.heap.size w w' := by
  subst hq hr; exact (muldiv_c a b c w ha hb c1 c2).1 (ok_in q1 q2).1
theorem muldiv_out (a b c : Int) (w : World) (ha : I64 a) (hb : I64 b) (c1 : 1 ≤ c) (c2 : c < 9223372036854775808) (hq : a * b / c < -9223372036854775808 ∨ 9223372036854775807 < a * b / c) :
    Calls Try.prog 14 #[.int .i64 a, .int .i64 b, .int .i64 c] w fun e w' => e = .returned (.tuple #[.int .i64 0, .int .i64 0, .bool false]) ∧ Below w.heap.size w w' :=
  (muldiv_c a b c w ha hb c1 c2).2 (ok_out hq).1
theorem sum3_in (a b c n : Int) (w : World) (ha : I64 a) (hb : I64 b) (hc : I64 c) (hn : a + b + c = n) (h1 : -9223372036854775808 ≤ n) (h2 : n ≤ 9223372036854775807) :
    Calls Try.prog 13 #[.slice (some ⟨w.heap.size, 0, none⟩) 3 3] (w.alloc (.cells #[.int .i64 a, .int .i64 b, .int .i64 c] 2)) fun e w' => e = .returned (.tuple #[.int .i64 n, .bool true]) ∧ Below w.heap.size w w' :=
  (told_in (sum3 a b c w ha hb hc) hn h1 h2).mono fun e w' ⟨he, hb⟩ => ⟨he, ((Below.refl _ _).alloc (Nat.le_refl _) _).trans (hb.mono (by simp))⟩
theorem i64_lit {n : Int} (h1 : -9223372036854775808 ≤ n) (h2 : n ≤ 9223372036854775807) : I64 n := ⟨h1, h2⟩

end Go.Proofs.Ytinfjfjheimceaa
