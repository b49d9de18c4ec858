/- Package plans: plans as a map has them; their Ids in ascending order. -/
import Derived.Test.YtakpoabpgdmneaaPlDup
import Derived.Maps.OwnSet
namespace Go.Proofs.Ytakpoabpgdmneaa.Pl
open Go Go.RowKit Go.Maps Go.ChangeMaps Go.WideElems Ck
def adr (g : Option Nat) : Option Addr := g.map fun g => ⟨g, 0, none⟩
def Pn.zero : Pn := ⟨0, ⟨#[]⟩, 0, [], 0⟩
/-- A plan as it is kept: where its row of prices lies, and how much fits there. -/
structure Pv where
  x : Pn
  g : Option Nat
  cap : Nat
def Pv.zero : Pv := ⟨Pn.zero, none, 0⟩
def Pv.sl (p : Pv) : Value := .slice (adr p.g) p.x.ps.length p.cap
def Pv.val (p : Pv) : Value := p.x.val (adr p.g) p.cap
def place (g : Option Nat) : Int := match g with | none => -1 | some g => (g : Int)
theorem place_inj {g g' : Option Nat} (h : place g = place g') : g = g' := by
  cases g with
  | none =>
    cases g' with
    | none => rfl
    | some b => simp only [place] at h; omega
  | some a =>
    cases g' with
    | none => simp only [place] at h; omega
    | some b =>
      simp only [place] at h
      rw [show a = b by omega]
def datOf (id : Int) (name : ByteArray) (every : Int) (g : Option Nat) (n cap : Nat) (ret : Int) : DataW Unit := .agg [.lit (.int .u64 id), .lit (.string name.data.toList), .lit (.int .i64 every), .lit (.int .i64 (place g)), .lit (.int .i64 (n : Int)), .lit (.int .i64 (cap : Int)), .lit (.int .i64 ret)]
def Pv.dat (p : Pv) : DataW Unit := datOf p.x.id p.x.name p.x.every p.g p.x.ps.length p.cap p.x.ret
/-- How a plan reads. -/
def plR : Value → Option (DataW Unit × List MemPlace)
  | .agg cs => match cs.toList with
    | [.int .u64 a, .string s, .int .i64 c, .slice none n cap, .int .i64 f] => some (datOf a s c none n cap f, [])
    | [.int .u64 a, .string s, .int .i64 c, .slice (some ⟨g, 0, none⟩) n cap, .int .i64 f] => some (datOf a s c (some g) n cap f, [])
    | _ => none
  | _ => none
theorem plR_val (p : Pv) : plR p.val = some (p.dat, []) := by
  obtain ⟨x, g, cap⟩ := p
  cases g <;> rfl
theorem dat_inj {id id' ev ev' ret ret' : Int} {name name' : ByteArray} {g g' : Option Nat} {n n' cap cap' : Nat} (h : datOf id name ev g n cap ret = datOf id' name' ev' g' n' cap' ret') : id = id' ∧ name = name' ∧ ev = ev' ∧ g = g' ∧ n = n' ∧ cap = cap' ∧ ret = ret' := by
  simp [datOf] at h
  obtain ⟨h1, h2, h3, h4, h5, h6, h7⟩ := h
  have hs : name = name' := by
    cases name; cases name'
    congr 1
  exact ⟨h1, hs, h3, place_inj h4, by omega, by omega, h7⟩
theorem plR_inv {v : Value} {p : Pv} {ps : List MemPlace} (h : plR v = some (p.dat, ps)) : v = p.val := by
  cases v <;> simp only [plR] at h <;> try cases h
  rename_i cs
  obtain ⟨⟨id, name, every, L, ret⟩, g, cap⟩ := p
  split at h
  · rename_i a s c n cap' f hc
    simp only [Option.some.injEq, Prod.mk.injEq] at h
    obtain ⟨h1, _⟩ := h
    obtain ⟨rfl, rfl, rfl, rfl, rfl, rfl, rfl⟩ := dat_inj h1
    show Value.agg cs = Value.agg _
    congr 1
    exact Array.toList_inj.1 hc
  · rename_i a s c g' n cap' f hc
    simp only [Option.some.injEq, Prod.mk.injEq] at h
    obtain ⟨h1, _⟩ := h
    obtain ⟨rfl, rfl, rfl, rfl, rfl, rfl, rfl⟩ := dat_inj h1
    show Value.agg cs = Value.agg _
    congr 1
    exact Array.toList_inj.1 hc
  · cases h
/-- A map's datum is a function of the Ids. -/
structure Ag (D : DataW Unit) (V : Int → Option Pv) : Prop where
  m : IsMap D
  has : ∀ c : Int, Maps.has D (.int .u64 c) = (V c).isSome
  at' : ∀ c : Int, D.atKey (.int .u64 c) Pv.zero.dat = ((V c).getD Pv.zero).dat
theorem Ag.empty : Ag (.map []) (fun _ => none) := ⟨isMap_empty, fun _ => rfl, fun _ => rfl⟩
def upd {T : Type} (V : Int → Option T) (k : Int) (x : T) : Int → Option T := fun c => if c = k then some x else V c
theorem upd_same {T : Type} (V : Int → Option T) (k : Int) (x : T) : upd V k x k = some x := by unfold upd; rw [if_pos rfl]
theorem upd_other {T : Type} (V : Int → Option T) {k c : Int} (x : T) (h : c ≠ k) : upd V k x c = V c := by unfold upd; rw [if_neg h]
theorem Ag.put {D : DataW Unit} {V : Int → Option Pv} (h : Ag D V) (k : Int) (x : Pv) : Ag (D.put (.int .u64 k) x.dat) (upd V k x) := by
  have hk : WideAt.IsKeyLit (.int .u64 k) := by trivial
  refine ⟨h.m.put _ _, fun c => ?_, fun c => ?_⟩
  · by_cases hc : c = k
    · subst hc
      rw [upd_same, has_put_same h.m hk]; rfl
    · rw [upd_other _ _ hc, has_put_other (fun e => hc (by cases e; rfl))]
      exact h.has c
  · by_cases hc : c = k
    · subst hc
      rw [upd_same, atKey_put_same h.m hk]; rfl
    · rw [upd_other _ _ hc, atKey_put_other (fun e => hc (by cases e; rfl))]
      exact h.at' c
def Up (L : List Int) : Prop := L.Pairwise (· < ·)
/-- One Id put in at a place. -/
def ins (L : List Int) (at' : Nat) (k : Int) : List Int := L.take at' ++ k :: L.drop at'
theorem ins_len (L : List Int) (a : Nat) (k : Int) : (ins L a k).length = L.length + 1 := by
  unfold ins
  simp
  omega
theorem ins_mem {L : List Int} {a : Nat} {k c : Int} : c ∈ ins L a k ↔ c = k ∨ c ∈ L := by
  unfold ins
  rw [List.mem_append, List.mem_cons]
  constructor
  · rintro (h | h | h)
    · exact .inr (List.mem_of_mem_take h)
    · exact .inl h
    · exact .inr (List.mem_of_mem_drop h)
  · rintro (h | h)
    · exact .inr (.inl h)
    · have := List.take_append_drop a L
      rw [← this] at h
      rcases List.mem_append.1 h with h | h
      · exact .inl h
      · exact .inr (.inr h)
theorem up_ins {L : List Int} {a : Nat} {k : Int} (h : Up L) (h1 : ∀ c ∈ L.take a, c < k) (h2 : ∀ c ∈ L.drop a, k < c) : Up (ins L a k) := by
  unfold Up ins at *
  rw [List.pairwise_append, List.pairwise_cons]
  have ht : (L.take a ++ L.drop a).Pairwise (· < ·) := by rw [List.take_append_drop]; exact h
  rw [List.pairwise_append] at ht
  refine ⟨ht.1, ⟨h2, ht.2.1⟩, fun x hx y hy => ?_⟩
  rcases List.mem_cons.1 hy with rfl | hy
  · exact h1 x hx
  · exact ht.2.2 x hx y hy
theorem up_le {L : List Int} (h : Up L) {i j : Nat} (hi : i < j) (hj : j < L.length) : L[i]'(by omega) < L[j] := List.pairwise_iff_getElem.1 h i j (by omega) hj hi
/-- What is kept by Ids, and the Ids in order. -/
structure Ks {T : Type} (M : Int → Option T) (K : List Int) : Prop where
  up : Up K
  mem : ∀ c, c ∈ K ↔ (M c).isSome = true
theorem Ks.empty {T : Type} : Ks (fun _ => (none : Option T)) [] := ⟨List.Pairwise.nil, fun c => by simp⟩
theorem Ks.old {T : Type} {M : Int → Option T} {K : List Int} (h : Ks M K) {k : Int} (hk : (M k).isSome = true) (x : T) : Ks (upd M k x) K := ⟨h.up, fun c => by
  rw [h.mem]
  unfold upd
  by_cases hc : c = k
  · subst hc; rw [if_pos rfl]; simp [hk]
  · rw [if_neg hc]⟩
theorem Ks.new {T : Type} {M : Int → Option T} {K : List Int} (h : Ks M K) {k : Int} {a : Nat} (x : T) (h1 : ∀ c ∈ K.take a, c < k) (h2 : ∀ c ∈ K.drop a, k < c) : Ks (upd M k x) (ins K a k) := ⟨up_ins h.up h1 h2, fun c => by
  rw [ins_mem, h.mem]
  unfold upd
  by_cases hc : c = k
  · subst hc; rw [if_pos rfl]; simp
  · rw [if_neg hc]; simp [hc]⟩
end Go.Proofs.Ytakpoabpgdmneaa.Pl
