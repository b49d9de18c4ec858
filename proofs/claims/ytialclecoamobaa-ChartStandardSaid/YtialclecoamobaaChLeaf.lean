/- Package chart: Leaf. -/
import Derived.Test.YtialclecoamobaaChAdd
namespace Go.Proofs.Ytialclecoamobaa.Ch
open Go Go.RowKit Ck Go.Maps
def leafM (M : Int → Option Acc) (k : Int) : Bool := (M k).isSome && decide (((M k).getD Acc.zero).kids = 0)
section
variable {w : World} {c bm n : Nat} {tv : Value} {M : Int → Option Acc} {K : List Int}
set_option maxRecDepth 100000 in
theorem leaf_c (h : At w c bm tv n M K) (k : Int) (hk : I64 k) : Calls Try.prog 19 #[.pointer (some ⟨c, 0, none⟩), .int .i64 k] w fun e w' => e = .returned (.bool (leafM M k)) ∧ Below w.heap.size w w' := by
  have KG := Lib.hid (get_c h k hk)
  unfold GetRes at KG
  unfold leafM
  obtain ⟨x, hx⟩ : ∃ x, x = (M k).getD Acc.zero := ⟨_, rfl⟩
  obtain ⟨q, hq⟩ : ∃ q, q = (M k).isSome := ⟨_, rfl⟩
  rw [← hx, ← hq] at KG ⊢
  clear h hx hq hk
  obtain ⟨xa, xb, xc, xs, xd, xe, xf⟩ := x
  unfold Acc.val at KG
  simp only at KG ⊢
  go_enter Try.func19, Try.ntmps19
  go_wp2_with fail
  refine KG.out.mono ?_
  rintro e u ⟨rfl, hb⟩
  have HB : Hid (Below w.heap.size w (u.alloc (.cells #[.int .i64 xa, .int .i64 xb, .int .u8 xc, .string xs, .bool xd, .int .i64 xe, .int .i64 xf] TAcc))) := hb.alloc hb.size _
  have R : Hid (Rw (u.alloc (.cells #[.int .i64 xa, .int .i64 xb, .int .u8 xc, .string xs, .bool xd, .int .i64 xe, .int .i64 xf] TAcc)) u.heap.size TAcc [.int .i64 xa, .int .i64 xb, .int .u8 xc, .string xs, .bool xd, .int .i64 xe, .int .i64 xf]) := Rw.new u [.int .i64 xa, .int .i64 xb, .int .u8 xc, .string xs, .bool xd, .int .i64 xe, .int .i64 xf] TAcc
  clear hb
  cases q with
  | false =>
    go_wp2_with fail
    go_ret
    exact ⟨rfl, HB.out⟩
  | true =>
    have q2 : (u.alloc (.cells #[.int .i64 xa, .int .i64 xb, .int .u8 xc, .string xs, .bool xd, .int .i64 xe, .int .i64 xf] TAcc)).cell? ⟨u.heap.size, 6, none⟩ = some (.int .i64 xf) := R.out.cell 6
    by_cases h0 : xf = 0
    · subst h0
      go_wp2_with fail
      go_ret
      exact ⟨by simp, HB.out⟩
    · go_wp2_with fail
      go_ret
      exact ⟨by simp [h0], HB.out⟩
end
end Go.Proofs.Ytialclecoamobaa.Ch
