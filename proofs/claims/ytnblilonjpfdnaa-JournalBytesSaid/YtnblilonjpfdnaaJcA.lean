/- Joined: ChMap ChMath. -/
import Derived.WalkKit
import Derived.Lib.Hide
import Derived.Maps.OwnSet
section
namespace Go.Proofs.Ytnblilonjpfdnaa.Ch
open Go Go.RowKit Go.Maps Go.ChangeMaps Go.WideElems
/-- An account of a chart, how deep it is, and how many it is the parent of. -/
structure Acc where
  code : Int
  up : Int
  cls : Int
  name : ByteArray
  shut : Bool
  depth : Int
  kids : Int
def Acc.zero : Acc := ⟨0, 0, 0, ⟨#[]⟩, false, 0, 0⟩
def Acc.val (x : Acc) : Value := .agg #[.int .i64 x.code, .int .i64 x.up, .int .u8 x.cls, .string x.name, .bool x.shut, .int .i64 x.depth, .int .i64 x.kids]
def Acc.dat (x : Acc) : DataW Unit := .agg [.lit (.int .i64 x.code), .lit (.int .i64 x.up), .lit (.int .u8 x.cls), .lit (.string x.name.data.toList), .lit (.bool x.shut), .lit (.int .i64 x.depth), .lit (.int .i64 x.kids)]
/-- How an account reads. -/
def accR : Value → Option (DataW Unit × List MemPlace)
  | .agg cs => match cs.toList with
    | [.int .i64 a, .int .i64 b, .int .u8 c, .string s, .bool d, .int .i64 e, .int .i64 f] => some (Acc.dat ⟨a, b, c, s, d, e, f⟩, [])
    | _ => none
  | _ => none
theorem accR_val (x : Acc) : accR x.val = some (x.dat, []) := rfl
theorem dat_inj {x y : Acc} (h : x.dat = y.dat) : x = y := by
  obtain ⟨a, b, c, s, d, e, f⟩ := x
  obtain ⟨a', b', c', s', d', e', f'⟩ := y
  simp [Acc.dat] at h
  obtain ⟨h1, h2, h3, h4, h5, h6, h7⟩ := h
  have hs : s = s' := by
    cases s; cases s'
    congr 1
  subst h1 h2 h3 hs h5 h6 h7
  rfl
theorem accR_inv {v : Value} {x : Acc} {ps : List MemPlace} (h : accR v = some (x.dat, ps)) : v = x.val := by
  cases v <;> simp only [accR] at h <;> try cases h
  rename_i cs
  split at h
  · rename_i a b c s d e f hc
    simp only [Option.some.injEq, Prod.mk.injEq] at h
    obtain ⟨h1, _⟩ := h
    have := dat_inj h1
    subst this
    show Value.agg cs = Value.agg _
    congr 1
    exact Array.toList_inj.1 hc
  · cases h
/-- A map's datum is a function of the codes. -/
structure Ag (D : DataW Unit) (M : Int → Option Acc) : Prop where
  m : IsMap D
  has : ∀ c : Int, Maps.has D (.int .i64 c) = (M c).isSome
  at' : ∀ c : Int, D.atKey (.int .i64 c) Acc.zero.dat = ((M c).getD Acc.zero).dat
theorem Ag.empty : Ag (.map []) (fun _ => none) := ⟨isMap_empty, fun _ => rfl, fun _ => rfl⟩
theorem Ag.put {D : DataW Unit} {M : Int → Option Acc} (h : Ag D M) (k : Int) (x : Acc) : Ag (D.put (.int .i64 k) x.dat) (fun c => if c = k then some x else M c) := by
  have hk : WideAt.IsKeyLit (.int .i64 k) := by trivial
  refine ⟨h.m.put _ _, fun c => ?_, fun c => ?_⟩
  · by_cases hc : c = k
    · subst hc
      rw [if_pos rfl, has_put_same h.m hk]; rfl
    · rw [if_neg hc, has_put_other (fun e => hc (by cases e; rfl))]
      exact h.has c
  · by_cases hc : c = k
    · subst hc
      rw [if_pos rfl, atKey_put_same h.m hk]; rfl
    · rw [if_neg hc, atKey_put_other (fun e => hc (by cases e; rfl))]
      exact h.at' c
end Go.Proofs.Ytnblilonjpfdnaa.Ch
end
section
namespace Go.Proofs.Ytnblilonjpfdnaa.Ch
open Go
def Up (L : List Int) : Prop := L.Pairwise (· < ·)
/-- One code put in at a place. -/
def ins (L : List Int) (at' : Nat) (k : Int) : List Int := L.take at' ++ k :: L.drop at'
theorem ins_len (L : List Int) (a : Nat) (k : Int) : (ins L a k).length = L.length + 1 := by
  unfold ins
  simp
  omega
theorem ins_mem {L : List Int} {a : Nat} {k c : Int} : c ∈ ins L a k ↔ c = k ∨ c ∈ L := by
  unfold ins
  rw [List.mem_append, List.mem_cons]
  constructor
  · rintro (h | h | h)
    · exact .inr (List.mem_of_mem_take h)
    · exact .inl h
    · exact .inr (List.mem_of_mem_drop h)
  · rintro (h | h)
    · exact .inr (.inl h)
    · have := List.take_append_drop a L
      rw [← this] at h
      rcases List.mem_append.1 h with h | h
      · exact .inl h
      · exact .inr (.inr h)
theorem up_ins {L : List Int} {a : Nat} {k : Int} (h : Up L) (h1 : ∀ c ∈ L.take a, c < k) (h2 : ∀ c ∈ L.drop a, k < c) : Up (ins L a k) := by
  unfold Up ins at *
  rw [List.pairwise_append, List.pairwise_cons]
  have ht : (L.take a ++ L.drop a).Pairwise (· < ·) := by rw [List.take_append_drop]; exact h
  rw [List.pairwise_append] at ht
  refine ⟨ht.1, ⟨h2, ht.2.1⟩, fun x hx y hy => ?_⟩
  rcases List.mem_cons.1 hy with rfl | hy
  · exact h1 x hx
  · exact ht.2.2 x hx y hy
theorem up_le {L : List Int} (h : Up L) {i j : Nat} (hi : i < j) (hj : j < L.length) : L[i]'(by omega) < L[j] := List.pairwise_iff_getElem.1 h i j (by omega) hj hi
/-- A chart's accounts by their codes, and the codes in order. -/
structure Ks (M : Int → Option Acc) (K : List Int) : Prop where
  up : Up K
  mem : ∀ c, c ∈ K ↔ (M c).isSome = true
theorem Ks.empty : Ks (fun _ => none) [] := ⟨List.Pairwise.nil, fun c => by simp⟩
def upd (M : Int → Option Acc) (k : Int) (x : Acc) : Int → Option Acc := fun c => if c = k then some x else M c
theorem Ks.old {M : Int → Option Acc} {K : List Int} (h : Ks M K) {k : Int} (hk : (M k).isSome = true) (x : Acc) : Ks (upd M k x) K := ⟨h.up, fun c => by
  rw [h.mem]
  unfold upd
  by_cases hc : c = k
  · subst hc; rw [if_pos rfl]; simp [hk]
  · rw [if_neg hc]⟩
theorem Ks.new {M : Int → Option Acc} {K : List Int} (h : Ks M K) {k : Int} {a : Nat} (x : Acc) (h1 : ∀ c ∈ K.take a, c < k) (h2 : ∀ c ∈ K.drop a, k < c) : Ks (upd M k x) (ins K a k) := ⟨up_ins h.up h1 h2, fun c => by
  rw [ins_mem, h.mem]
  unfold upd
  by_cases hc : c = k
  · subst hc; rw [if_pos rfl]; simp
  · rw [if_neg hc]; simp [hc]⟩
end Go.Proofs.Ytnblilonjpfdnaa.Ch
end
