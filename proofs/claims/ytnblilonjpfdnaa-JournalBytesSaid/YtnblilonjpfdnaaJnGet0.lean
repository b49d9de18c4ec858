/- Package journal: the steps of Get. -/
import Derived.Test.YtnblilonjpfdnaaJnNum
namespace Go.Proofs.Ytnblilonjpfdnaa.Jn
open Go Go.RowKit Ck
/-- Behind a number; behind an amount. -/
def NumG (lim b1 b4 : Nat) (B pre rest : List UInt8) (Cn : Nat → List UInt8 → Cond) (w : World) (e : Ending) (w' : World) : Prop := ∃ (m : Nat) (i' : Bool) (r' : List UInt8), e = .returned (.int .u64 (m : Int)) ∧ m ≤ lim ∧ r'.length ≤ rest.length ∧ Rw w' b1 TStr [.string (bs r')] ∧ Rw w' b4 TBl [.bool i'] ∧ Keeps (fun j => j = b1 ∨ j = b4) w w' ∧ G B i' (pre ++ Ta.num m) r' (Cn m r')
def AmtG (b1 b4 : Nat) (B pre rest : List UInt8) (Cn : Int → List UInt8 → Cond) (w : World) (e : Ending) (w' : World) : Prop := ∃ (z : Int) (i' : Bool) (r' : List UInt8), e = .returned (.int .i64 z) ∧ I64 z ∧ r'.length ≤ rest.length ∧ Rw w' b1 TStr [.string (bs r')] ∧ Rw w' b4 TBl [.bool i'] ∧ Keeps (fun j => j = b1 ∨ j = b4) w w' ∧ G B i' (pre ++ Ta.num (Tal.zig z)) r' (Cn z r')
section
variable {B pre rest : List UInt8} {is : Bool} {b1 b4 : Nat}
theorem num_g {Cn : Nat → List UInt8 → Cond} (lim : Nat) (hS : G B (is && isN lim (Ta.take 0 rest)) (pre ++ Ta.num (nOf (Ta.take 0 rest))) (rOf (Ta.take 0 rest)) (Cn (nOf (Ta.take 0 rest)) (rOf (Ta.take 0 rest)))) (hne : b1 ≠ b4) (w : World) (h1 : Rw w b1 TStr [.string (bs rest)]) (h4 : Rw w b4 TBl [.bool is]) (hr : rest.length ≤ maxLen) : Calls Try.prog 66 #[.int .u64 (lim : Int), .pointer (some ⟨b1, 0, none⟩), .pointer (some ⟨b4, 0, none⟩)] w (NumG lim b1 b4 B pre rest Cn w) := by
  refine (number_c lim b1 b4 hne rest is w h1 h4 hr).mono ?_
  rintro e w' ⟨he, g1, g4, gk⟩
  obtain ⟨o, ho⟩ : ∃ o, o = Ta.take 0 rest := ⟨_, rfl⟩
  have hl := rOf_len rest
  rw [← ho] at hS he g1 g4 hl
  cases hi : (is && isN lim o) with
  | true =>
    rw [hi] at he g4 hS
    rw [if_pos rfl] at he
    rw [Bool.and_eq_true] at hi
    exact ⟨nOf o, true, rOf o, he, isN_le hi.2, hl, g1, g4, gk, hS⟩
  | false =>
    rw [hi] at he g4 hS
    rw [if_neg (by decide)] at he
    exact ⟨0, false, rOf o, he, Nat.zero_le _, hl, g1, g4, gk, ⟨fun h => (by cases h), hS.no⟩⟩
theorem amt_g {Cn : Int → List UInt8 → Cond} (hS : G B (is && isN 18446744073709551615 (Ta.take 0 rest)) (pre ++ Ta.num (nOf (Ta.take 0 rest))) (rOf (Ta.take 0 rest)) (Cn (Tal.unz (nOf (Ta.take 0 rest))) (rOf (Ta.take 0 rest)))) (hne : b1 ≠ b4) (w : World) (h1 : Rw w b1 TStr [.string (bs rest)]) (h4 : Rw w b4 TBl [.bool is]) (hr : rest.length ≤ maxLen) : Calls Try.prog 68 #[.pointer (some ⟨b1, 0, none⟩), .pointer (some ⟨b4, 0, none⟩)] w (AmtG b1 b4 B pre rest Cn w) := by
  refine (amount_c b1 b4 hne rest is w h1 h4 hr).mono ?_
  rintro e w' ⟨he, g1, g4, gk⟩
  have hl := rOf_len rest
  have hn := nOf_lt rest
  rw [isN_all] at hS
  obtain ⟨o, ho⟩ : ∃ o, o = Ta.take 0 rest := ⟨_, rfl⟩
  rw [← ho] at hS he g1 g4 hl hn
  have hu := Tal.unz_range _ hn
  refine ⟨Tal.unz (nOf o), (is && o.isSome), rOf o, he, ?_, hl, g1, g4, gk, ?_⟩
  · unfold I64; omega
  · rw [Tal.zig_unz]; exact hS
end
/-- What a reader's lines are. -/
def Lr (A : List Ln) : Prop := ∀ x ∈ A, InR x.key
theorem lr_snoc {A : List Ln} {a b c : Nat} {z : Int} (h : Lr A) (ha : a ≤ 9999) (hb : b ≤ 18446744073709551615) (hc : c ≤ 18446744073709551615) : Lr (A ++ [⟨(a : Int), (b : Int), (c : Int), z⟩]) := fun x hx => by
  rcases List.mem_append.1 hx with hx | hx
  · exact h x hx
  · obtain rfl := List.mem_singleton.1 hx
    unfold InR Ln.key
    simp only
    omega
theorem pre_ln {P : List UInt8} {A : List Ln} {a b c : Nat} {z : Int} : P ++ linesB A ++ Ta.num a ++ Ta.num b ++ Ta.num c ++ Ta.num (Tal.zig z) = P ++ linesB (A ++ [⟨(a : Int), (b : Int), (c : Int), z⟩]) := by
  rw [linesB_snoc]
  unfold lnB
  simp only [Int.toNat_natCast, List.append_assoc]
end Go.Proofs.Ytnblilonjpfdnaa.Jn
