/- Package chart: codes in ascending order; the mathematics. -/
import Derived.Test.YtialclecoamobaaChMap
namespace Go.Proofs.Ytialclecoamobaa.Ch
open Go
def Up (L : List Int) : Prop := L.Pairwise (· < ·)
/-- One code put in at a place. -/
def ins (L : List Int) (at' : Nat) (k : Int) : List Int := L.take at' ++ k :: L.drop at'
theorem ins_len (L : List Int) (a : Nat) (k : Int) : (ins L a k).length = L.length + 1 := by
  unfold ins
  simp
  omega
theorem ins_mem {L : List Int} {a : Nat} {k c : Int} : c ∈ ins L a k ↔ c = k ∨ c ∈ L := by
  unfold ins
  rw [List.mem_append, List.mem_cons]
  constructor
  · rintro (h | h | h)
    · exact .inr (List.mem_of_mem_take h)
    · exact .inl h
    · exact .inr (List.mem_of_mem_drop h)
  · rintro (h | h)
    · exact .inr (.inl h)
    · have := List.take_append_drop a L
      rw [← this] at h
      rcases List.mem_append.1 h with h | h
      · exact .inl h
      · exact .inr (.inr h)
theorem up_ins {L : List Int} {a : Nat} {k : Int} (h : Up L) (h1 : ∀ c ∈ L.take a, c < k) (h2 : ∀ c ∈ L.drop a, k < c) : Up (ins L a k) := by
  unfold Up ins at *
  rw [List.pairwise_append, List.pairwise_cons]
  have ht : (L.take a ++ L.drop a).Pairwise (· < ·) := by rw [List.take_append_drop]; exact h
  rw [List.pairwise_append] at ht
  refine ⟨ht.1, ⟨h2, ht.2.1⟩, fun x hx y hy => ?_⟩
  rcases List.mem_cons.1 hy with rfl | hy
  · exact h1 x hx
  · exact ht.2.2 x hx y hy
theorem up_le {L : List Int} (h : Up L) {i j : Nat} (hi : i < j) (hj : j < L.length) : L[i]'(by omega) < L[j] := List.pairwise_iff_getElem.1 h i j (by omega) hj hi
/-- A chart's accounts by their codes, and the codes in order. -/
structure Ks (M : Int → Option Acc) (K : List Int) : Prop where
  up : Up K
  mem : ∀ c, c ∈ K ↔ (M c).isSome = true
theorem Ks.empty : Ks (fun _ => none) [] := ⟨List.Pairwise.nil, fun c => by simp⟩
def upd (M : Int → Option Acc) (k : Int) (x : Acc) : Int → Option Acc := fun c => if c = k then some x else M c
theorem Ks.old {M : Int → Option Acc} {K : List Int} (h : Ks M K) {k : Int} (hk : (M k).isSome = true) (x : Acc) : Ks (upd M k x) K := ⟨h.up, fun c => by
  rw [h.mem]
  unfold upd
  by_cases hc : c = k
  · subst hc; rw [if_pos rfl]; simp [hk]
  · rw [if_neg hc]⟩
theorem Ks.new {M : Int → Option Acc} {K : List Int} (h : Ks M K) {k : Int} {a : Nat} (x : Acc) (h1 : ∀ c ∈ K.take a, c < k) (h2 : ∀ c ∈ K.drop a, k < c) : Ks (upd M k x) (ins K a k) := ⟨up_ins h.up h1 h2, fun c => by
  rw [ins_mem, h.mem]
  unfold upd
  by_cases hc : c = k
  · subst hc; rw [if_pos rfl]; simp
  · rw [if_neg hc]; simp [hc]⟩
end Go.Proofs.Ytialclecoamobaa.Ch
