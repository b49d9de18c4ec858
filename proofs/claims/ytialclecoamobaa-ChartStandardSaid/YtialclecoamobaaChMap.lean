/- Package chart: accounts, and a map of them by their codes. -/
import Derived.WalkKit
import Derived.Lib.Hide
import Derived.Maps.OwnSet
namespace Go.Proofs.Ytialclecoamobaa.Ch
open Go Go.RowKit Go.Maps Go.ChangeMaps Go.WideElems
/-- An account of a chart, how deep it is, and how many it is the parent of. -/
structure Acc where
  code : Int
  up : Int
  cls : Int
  name : ByteArray
  shut : Bool
  depth : Int
  kids : Int
def Acc.zero : Acc := ⟨0, 0, 0, ⟨#[]⟩, false, 0, 0⟩
def Acc.val (x : Acc) : Value := .agg #[.int .i64 x.code, .int .i64 x.up, .int .u8 x.cls, .string x.name, .bool x.shut, .int .i64 x.depth, .int .i64 x.kids]
def Acc.dat (x : Acc) : DataW Unit := .agg [.lit (.int .i64 x.code), .lit (.int .i64 x.up), .lit (.int .u8 x.cls), .lit (.string x.name.data.toList), .lit (.bool x.shut), .lit (.int .i64 x.depth), .lit (.int .i64 x.kids)]
/-- How an account reads. -/
def accR : Value → Option (DataW Unit × List MemPlace)
  | .agg cs => match cs.toList with
    | [.int .i64 a, .int .i64 b, .int .u8 c, .string s, .bool d, .int .i64 e, .int .i64 f] => some (Acc.dat ⟨a, b, c, s, d, e, f⟩, [])
    | _ => none
  | _ => none
theorem accR_val (x : Acc) : accR x.val = some (x.dat, []) := rfl
theorem dat_inj {x y : Acc} (h : x.dat = y.dat) : x = y := by
  obtain ⟨a, b, c, s, d, e, f⟩ := x
  obtain ⟨a', b', c', s', d', e', f'⟩ := y
  simp [Acc.dat] at h
  obtain ⟨h1, h2, h3, h4, h5, h6, h7⟩ := h
  have hs : s = s' := by
    cases s; cases s'
    congr 1
  subst h1 h2 h3 hs h5 h6 h7
  rfl
theorem accR_inv {v : Value} {x : Acc} {ps : List MemPlace} (h : accR v = some (x.dat, ps)) : v = x.val := by
  cases v <;> simp only [accR] at h <;> try cases h
  rename_i cs
  split at h
  · rename_i a b c s d e f hc
    simp only [Option.some.injEq, Prod.mk.injEq] at h
    obtain ⟨h1, _⟩ := h
    have := dat_inj h1
    subst this
    show Value.agg cs = Value.agg _
    congr 1
    exact Array.toList_inj.1 hc
  · cases h
/-- A map's datum is a function of the codes. -/
structure Ag (D : DataW Unit) (M : Int → Option Acc) : Prop where
  m : IsMap D
  has : ∀ c : Int, Maps.has D (.int .i64 c) = (M c).isSome
  at' : ∀ c : Int, D.atKey (.int .i64 c) Acc.zero.dat = ((M c).getD Acc.zero).dat
theorem Ag.empty : Ag (.map []) (fun _ => none) := ⟨isMap_empty, fun _ => rfl, fun _ => rfl⟩
theorem Ag.put {D : DataW Unit} {M : Int → Option Acc} (h : Ag D M) (k : Int) (x : Acc) : Ag (D.put (.int .i64 k) x.dat) (fun c => if c = k then some x else M c) := by
  have hk : WideAt.IsKeyLit (.int .i64 k) := by trivial
  refine ⟨h.m.put _ _, fun c => ?_, fun c => ?_⟩
  · by_cases hc : c = k
    · subst hc
      rw [if_pos rfl, has_put_same h.m hk]; rfl
    · rw [if_neg hc, has_put_other (fun e => hc (by cases e; rfl))]
      exact h.has c
  · by_cases hc : c = k
    · subst hc
      rw [if_pos rfl, atKey_put_same h.m hk]; rfl
    · rw [if_neg hc, atKey_put_other (fun e => hc (by cases e; rfl))]
      exact h.at' c
end Go.Proofs.Ytialclecoamobaa.Ch
