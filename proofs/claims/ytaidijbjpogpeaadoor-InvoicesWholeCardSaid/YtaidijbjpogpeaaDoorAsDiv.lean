/- The contracts of package arith's MulDiv, Near. -/
import Derived.Test.YtaidijbjpogpeaaDoorAsOps
import Derived.Test.YtaidijbjpogpeaaDoorAsOps
import Derived.Test.YtaidijbjpogpeaaDoorArMath3
namespace Go.Proofs.YtaidijbjpogpeaaDoor
open Go.RowKit

theorem signs2_is (a b : Int) (neg : Bool) (h : sgn2 a b = neg) (x : Nat) (w : World) (hx : x < w.heap.size) (h0 : w.cell? ⟨x, 0, none⟩ = some (.int .i64 a)) (h1 : w.cell? ⟨x, 1, none⟩ = some (.int .i64 b)) :
    Calls Tryd.prog 38 #[.slice (some ⟨x, 0, none⟩) 2 2] w (SignRes neg w) := by
  subst h; exact signs2_c a b x w hx h0 h1
theorem plus1 (Q : Int) (w : World) (q0 : 0 ≤ Q) (q1 : Q ≤ 85070591730234615865843651857942052864) :
    Calls Tryd.prog 35 #[.agg #[.int .u64 (Q / 18446744073709551616), .int .u64 (Q % 18446744073709551616)], .int .u64 1] w fun e w' =>
      e = .returned (.agg #[.int .u64 ((Q + 1) / 18446744073709551616), .int .u64 ((Q + 1) % 18446744073709551616)]) ∧ Below w.heap.size w w' := by
  have := plus_c (Q / 18446744073709551616) (Q % 18446744073709551616) 1 w (by omega) (by omega) (by omega) (by omega) (by omega) (by omega)
  rwa [show Q / 18446744073709551616 + (Q % 18446744073709551616 + 1) / 18446744073709551616 = (Q + 1) / 18446744073709551616 by omega, show (Q % 18446744073709551616 + 1) % 18446744073709551616 = (Q + 1) % 18446744073709551616 by omega] at this
theorem give_is (neg : Bool) (Q n : Int) (p : Nat) (w : World) (hp : p < w.heap.size) (hc : w.cell? ⟨p, 0, none⟩ = some (.bool neg)) (q0 : 0 ≤ Q) (q1 : Q ≤ 85070591730234615865843651857942052865) (hn : Ar.sg neg Q = n) (V : Int) (o : Bool) (hv : Ar.val n = V ∧ Ar.ok n = o) :
    Calls Tryd.prog 40 #[.agg #[.int .u64 (Q / 18446744073709551616), .int .u64 (Q % 18446744073709551616)], .pointer (some ⟨p, 0, none⟩)] w fun e w' =>
      e = .returned (.tuple #[.int .i64 V, .bool o]) ∧ Below w.heap.size w w' := by
  obtain ⟨rfl, rfl⟩ := hv
  subst hn
  have := give_c neg (Q / 18446744073709551616) (Q % 18446744073709551616) p w hp hc (by omega) (by omega) (by omega) (by omega)
  rwa [Ar.words] at this

/-- What MulDiv answers. -/
def Quot (P c : Int) (w : World) (e : Ending) (w' : World) : Prop :=
  (if Ar.ok (P / c) then e = .returned (.tuple #[.int .i64 (P / c), .int .i64 (P % c), .bool true]) else e = .returned (.tuple #[.int .i64 0, .int .i64 0, .bool false])) ∧ Below w.heap.size w w'
theorem ret_iib {j k : IntKind} {a b c d : Int} {x y : Bool} (h : a = b) (h' : c = d) (h'' : x = y) : Ending.returned (.tuple #[.int j a, .int k c, .bool x]) = .returned (.tuple #[.int j b, .int k d, .bool y]) := by rw [h, h', h'']

end Go.Proofs.YtaidijbjpogpeaaDoor
