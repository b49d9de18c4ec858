/- Package drive: Crash. -/
import Derived.Test.YtbbnpcldplmgfaaGreatDoorDwSync
namespace Go.Proofs.YtbbnpcldplmgfaaGreatDoor.Dv
open Go Go.RowKit Rf
theorem sizeU8 : (Tryz.prog.info? 5).map (·.size) = some 1 := by kernel_rfl
theorem take_crash (c : Cr) (P : List (Nat × Sec)) (D : List Sec) (j : Nat) (hj : j < P.length) : crashTo c (P.take (j + 1)) 0 D = (crashTo c (P.take j) 0 D).set P[j].1 (part (c.cut j) P[j].2 ((crashTo c (P.take j) 0 D).getD P[j].1 [])) := by
  rw [List.take_succ_eq_append_getElem hj, crashTo_snoc]
  congr 3
  simp
  omega
theorem crash_take_64 {x : Dr} (hx : x.Ok) (c : Cr) (j : Nat) : ∀ s ∈ crashTo c (x.P.take j) 0 x.D, s.length = 64 := crashTo_64 c _ 0 _ hx.d fun q hq => hx.p q (List.mem_of_mem_take hq)
theorem and1 (m : Int) : bits .and .u64 m 1 = m % 2 := by
  have h1 : (BitVec.ofInt 64 1).toNat = 2 ^ 1 - 1 := by decide
  have key : (BitVec.ofInt 64 m &&& BitVec.ofInt 64 1).toNat = (m % ((2 ^ 64 : Nat) : Int)).toNat % 2 ^ 1 := by
    rw [BitVec.toNat_and, BitVec.toNat_ofInt, h1, Nat.and_two_pow_sub_one_eq_mod]
  show IntKind.u64.wrap ((BitVec.ofInt 64 m &&& BitVec.ofInt 64 1).toNat : Nat) = m % 2
  rw [key, IntKind.wrap_u64]
  omega
theorem bit_is (a j : Nat) : (bits .and .u64 ((a : Int) / 2 ^ (j % 64)) 1 == 1) = decide (a / 2 ^ (j % 64) % 2 = 1) := by
  rw [and1]
  have : ((a : Int) / 2 ^ (j % 64)) = ((a / 2 ^ (j % 64) : Nat) : Int) := by simp
  rw [this, Bool.eq_iff_iff]
  simp
  omega
theorem set_self {DD : List Sec} {k : Nat} : DD.set k (DD.getD k []) = DD := by
  by_cases h : k < DD.length
  · rw [List.getD_eq_getElem?_getD, List.getElem?_eq_getElem h, Option.getD_some, List.set_getElem_self]
  · rw [List.set_eq_of_length_le (by omega)]
/-- What is seen, as what is sure. -/
theorem AtV.seen {w : World} {g bv bd : Nat} {pv fv : Value} {V : List Sec} {x : Dr} (h : AtV w g bv bd pv fv V x) (hV : ∀ s ∈ V, s.length = 64) (hD : ∀ s ∈ x.D, s.length = 64) (hl : V.length = x.D.length) : AtV (w.setCells bv 0 (flat x.D)) g bv bd pv fv x.D x := by
  have K : Keeps (fun j => j = bv) w (w.setCells bv 0 (flat x.D)) := (Keeps.refl _ w).setCells bv 0 _ (.inl rfl)
  have h1 := flat_len hV
  have h2 := flat_len hD
  refine ⟨h.blk.keeps K (h.blk.type h.v (by decide)), ?_, h.d.keeps K (Ne.symm h.ne), own_keeps h.p K (fun j hj e => own_type h.p h.v (by decide) (e ▸ hj)), h.f.keeps K (fun j hj e => ?_), h.ne⟩
  · have := h.v.setCells (flat x.D) 0 (by omega)
    rwa [splice_all _ _ (by omega)] at this
  · subst e
    rcases h.f with ⟨_, rfl⟩ | ⟨b, n, _, rfl, h3⟩
    · cases hj
    · cases hj
      exact h3.type h.v (by decide) rfl
structure Cr.Fits (c : Cr) : Prop where
  keep : c.keep ≤ 18446744073709551615
  torn : -9223372036854775808 ≤ c.torn ∧ c.torn ≤ 9223372036854775807
  at' : -9223372036854775808 ≤ c.at' ∧ c.at' ≤ 9223372036854775807
abbrev Cr.cells (c : Cr) : List Value := [.int .u64 (c.keep : Int), .int .i64 c.torn, .int .i64 c.at']
abbrev Cr.val (c : Cr) : Value := .agg c.cells.toArray
end Go.Proofs.YtbbnpcldplmgfaaGreatDoor.Dv
