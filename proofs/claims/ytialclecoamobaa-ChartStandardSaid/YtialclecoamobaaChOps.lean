/- Package chart: set; keys, New, Side, valid. -/
import Derived.Test.YtialclecoamobaaChSet2
namespace Go.Proofs.Ytialclecoamobaa.Ch
open Go Go.RowKit Ck Go.Maps
section
variable {w : World} {c bm n : Nat} {tv : Value} {M : Int → Option Acc} {K : List Int}
theorem set_c (h : At w c bm tv n M K) (k : Int) (x : Acc) (hk : I64 k) (hn : n < 1000000) (hK : K.length ≤ 1000000) : Calls Try.prog 28 #[.pointer (some ⟨c, 0, none⟩), .int .i64 k, x.val] w (SetRes c bm n tv M K k x w) := by
  cases hM : (M k).isSome with
  | true => exact set_old h k x hk hn hM
  | false => exact set_new h k x hk hn hK hM
set_option maxRecDepth 100000 in
theorem keys_c (h : At w c bm tv n M K) : Calls Try.prog 33 #[.pointer (some ⟨c, 0, none⟩)] w fun e w' => e = .returned tv ∧ w = w' := by
  have c1 : w.cell? ⟨c, 1, none⟩ = some tv := h.blk.cell 1
  clear h
  go_enter Try.func33, Try.ntmps33
  go_wp2_with fail
  go_ret
  exact ⟨rfl, rfl⟩
end
set_option maxRecDepth 100000 in
theorem new_c (w : World) : Calls Try.prog 6 #[] w fun e w' => ∃ c bm, e = .returned (.pointer (some ⟨c, 0, none⟩)) ∧ At w' c bm (.slice none 0 0) 0 (fun _ => none) [] ∧ Below w.heap.size w w' ∧ ∀ j, Bs c bm (.slice none 0 0) j → w.heap.size ≤ j := by
  have hmm := @run_makeMap Try.prog
  go_enter Try.func6, Try.ntmps6
  go_wp2_with fail
  go_ret
  have hb : Below w.heap.size w ((w.alloc (.map #[] 0)).alloc (.cells #[.map (some w.heap.size), .slice none 0 0] TCh)) := ((Below.refl _ w).alloc (Nat.le_refl _) _).alloc (by simp) _
  have R : Rw ((w.alloc (.map #[] 0)).alloc (.cells #[.map (some w.heap.size), .slice none 0 0] TCh)) (w.heap.size + 1) TCh [.map (some w.heap.size), .slice none 0 0] := by
    have := Rw.new (w.alloc (.map #[] 0)) [.map (some w.heap.size), .slice none 0 0] TCh
    have hs : (w.alloc (.map #[] 0)).heap.size = w.heap.size + 1 := by simp
    rwa [hs] at this
  refine ⟨w.heap.size + 1, w.heap.size, rfl, ⟨R, ⟨_, (World.ownsMap_made w Try.prog TInt accR).alloc _, Ag.empty⟩, World.ownsRow_nil _ _ _ _, Ks.empty⟩, hb, fun j hj => ?_⟩
  rcases hj with rfl | rfl | hj
  · omega
  · exact Nat.le_refl _
  · simp [Value.ownBlock] at hj
def sideM (c : Int) : Int := if c = 1 ∨ c = 4 then 1 else if c = 2 ∨ c = 3 ∨ c = 5 then -1 else 0
set_option maxRecDepth 100000 in
theorem side_c (w : World) (c : Int) : Calls Try.prog 13 #[.int .u8 c] w fun e w' => e = .returned (.int .i64 (sideM c)) ∧ w = w' := by
  unfold sideM
  by_cases h1 : c = 1
  · subst h1
    go_enter Try.func13, Try.ntmps13
    go_wp2_with fail
    go_ret
    exact ⟨rfl, rfl⟩
  by_cases h4 : c = 4
  · subst h4
    go_enter Try.func13, Try.ntmps13
    go_wp2_with fail
    go_ret
    exact ⟨rfl, rfl⟩
  by_cases h2 : c = 2
  · subst h2
    go_enter Try.func13, Try.ntmps13
    go_wp2_with fail
    go_ret
    exact ⟨rfl, rfl⟩
  by_cases h3 : c = 3
  · subst h3
    go_enter Try.func13, Try.ntmps13
    go_wp2_with fail
    go_ret
    exact ⟨rfl, rfl⟩
  by_cases h5 : c = 5
  · subst h5
    go_enter Try.func13, Try.ntmps13
    go_wp2_with fail
    go_ret
    exact ⟨rfl, rfl⟩
  rw [if_neg (by omega), if_neg (by omega)]
  have b1 : (c == 1) = false := beq_eq_false_iff_ne.2 h1
  have b2 : (c == 2) = false := beq_eq_false_iff_ne.2 h2
  have b3 : (c == 3) = false := beq_eq_false_iff_ne.2 h3
  have b4 : (c == 4) = false := beq_eq_false_iff_ne.2 h4
  have b5 : (c == 5) = false := beq_eq_false_iff_ne.2 h5
  clear h1 h2 h3 h4 h5
  go_enter Try.func13, Try.ntmps13
  go_wp2_with fail
  go_ret
  exact ⟨rfl, rfl⟩
end Go.Proofs.Ytialclecoamobaa.Ch
