/- Joined: SfRMany WlRef WlRef2 WlRef3 WlRef4 WlPut WlCom WlSav. -/
import Derived.Test.YtjlncjabiofklaaDoorRgC
import Derived.Test.YtjlncjabiofklaaDoorRgA
import Derived.IntWalk
import Derived.Test.YtjlncjabiofklaaDoorWjA
import Derived.BigQuiet
import Derived.Deep.RegionHeld3
import Derived.Deep.DeepCutAuto
import Derived.Deep.RegionWith
import Derived.Test.YtjlncjabiofklaaDoorRgE
section
namespace Go.Proofs.YtjlncjabiofklaaDoor.Shf
open Go.RowKit Tal
end Go.Proofs.YtjlncjabiofklaaDoor.Shf
end
section
namespace Go.Proofs.YtjlncjabiofklaaDoor.Wl
open Go Go.RowKit Dv Rf Shf Rk
open Tal (Strs bas)
/-- Both halves' sectors, and what can be read of them. -/
structure Lg (base : Nat) (w : World) (vA vB : Value) (A B : List Rk.Sec) : Prop where
  a : Ow base w vA A
  b : Ow base w vB B
structure Rd (n : Nat) (A B : List Rk.Sec) (SA SB : Ld) : Prop where
  a : Loaded A SA
  b : Loaded B SB
  la : A.length = n
  lb : B.length = n
  n9 : n ≤ 1000
  n1 : 1 ≤ n
theorem own_len {base : Nat} {w : World} {v : Value} {L : List Rk.Sec} {n : Nat} (h : Ow base w v L) (e : L.length = n) : ∃ a c, v = .slice a n c := by
  subst e
  exact own_slice h
theorem Lg.later {base : Nat} {w w' : World} {vA vB : Value} {A B : List Rk.Sec} (h : Lg base w vA vB A B) (k : Below w.heap.size w w') : Lg base w' vA vB A B := ⟨h.a.later k, h.b.later k⟩
section
variable {base : Nat} {w : World} {vA vB : Value} {A B : List Rk.Sec} {SA SB : Ld} {n : Nat}
end
end Go.Proofs.YtjlncjabiofklaaDoor.Wl
end
section
namespace Go.Proofs.YtjlncjabiofklaaDoor.Wl
open Go Go.RowKit Dv Rf Shf Rk
open Tal (Strs bas)
/-- The log's sectors, and what they say. -/
def lgL (A B : List Rk.Sec) (SA SB : Ld) : List Rk.Sec := if SA.first < SB.first then B else A
def lgS (SA SB : Ld) : Ld := if SA.first < SB.first then SB else SA
section
variable {base : Nat} {w : World} {vA vB : Value} {A B : List Rk.Sec} {SA SB : Ld} {n : Nat}
theorem Rd.l (hr : Rd n A B SA SB) : Loaded (lgL A B SA SB) (lgS SA SB) := by unfold lgL lgS; split; exact hr.b; exact hr.a
theorem Rd.ll (hr : Rd n A B SA SB) : (lgL A B SA SB).length = n := by unfold lgL; split; exact hr.lb; exact hr.la
end
/-- What a transaction takes. -/
def cost (l : List Rk.Sec) : Nat := Sf.many (Tal.row (bas l)).length
def Small (l : List Rk.Sec) : Prop := l.length ≤ 10 ∧ ∀ p ∈ l, p.length ≤ 400
theorem small_total : ∀ l : List Rk.Sec, (∀ p ∈ l, p.length ≤ 400) → Tal.total (bas l) ≤ l.length * 400 := by
  intro l
  induction l with
  | nil => intro _; simp [Tal.total, bas]
  | cons p m ih =>
    intro h
    have h1 := h p (by simp)
    have h2 := ih fun q hq => h q (by simp [hq])
    have e : Tal.total (bas (p :: m)) = p.length + Tal.total (bas m) := by simp [Tal.total, bas, ByteArray.size]
    rw [e, List.length_cons]
    omega
end Go.Proofs.YtjlncjabiofklaaDoor.Wl
end
section
namespace Go.Proofs.YtjlncjabiofklaaDoor.Wl
open Go Go.RowKit Dv Rf Shf Rk
open Tal (Strs bas)
theorem Small.row {l : List Rk.Sec} (h : Small l) : (Tal.row (bas l)).length ≤ 4200 := by
  obtain ⟨h1, h2⟩ := h
  have h3 := small_total l h2
  have h4 := Tal.txts_len (bas l) fun s hs => by
    obtain ⟨p, hp, rfl⟩ := List.mem_map.1 hs
    have := h2 p hp
    show p.toArray.size < _
    simp; omega
  have h5 := (Ta.num_len (bas l).length (by rw [bas_len]; omega)).1
  rw [bas_len] at h4
  unfold Tal.row
  rw [List.length_append]
  omega
theorem Small.total {l : List Rk.Sec} (h : Small l) : Tal.total (bas l) ≤ 4000 := by
  have h3 := small_total l h.2
  have := h.1
  omega
theorem trow_c {l : List Rk.Sec} (h : Small l) {w : World} {a : Option Addr} (c : Nat) (hs : Strs w a (bas l)) :
    Calls Tryd.prog 38 #[.slice a l.length c] w (Tal.PutRes (Tal.row (bas l)) w) := by
  have := Tal.row_c w a c (bas l) hs (by rw [bas_len]; have := h.1; omega) (by have := h.total; omega)
  rwa [bas_len] at this
end Go.Proofs.YtjlncjabiofklaaDoor.Wl
end
section
namespace Go.Proofs.YtjlncjabiofklaaDoor.Wl
open Go Go.RowKit Dv Rf Shf Rk
open Tal (Strs bas)
theorem top_lt (L : List Rk.Sec) : Sf.top L < 18446744073709551616 := by
  have : Sf.top L ≤ 18446744073709551615 := top_le fun x _ => by
    unfold Lf.ends
    split
    · rename_i h
      have := Lf.num_lt8 (x.take 8) (by simp; omega)
      show Lf.num (x.take 8) ≤ _
      omega
    · exact Nat.zero_le _
  omega
/-- May pieces be? -/
def mayM (T : Nat) : Int := if 9223372036854775807 ≤ T then 6 else 0
end Go.Proofs.YtjlncjabiofklaaDoor.Wl
end
section
namespace Go.Proofs.YtjlncjabiofklaaDoor.Wl
open Go Go.RowKit Dv Rf Shf Rk
open Tal (Strs bas)
/-- What a put leaves of the document's log. -/
def RlRes (base : Nat) (P : Nat → Prop) (A B : List Rk.Sec) (z : Int) (w : World) (e : Ending) (w' : World) : Prop := ∃ vA vB, e = .returned (.tuple #[.agg #[vA, vB], .int .i64 z]) ∧ Lg base w' vA vB A B ∧ (∀ j, vA.ownBlock = some j ∨ vB.ownBlock = some j → P j ∨ w.heap.size ≤ j) ∧ Below w.heap.size w w'
/-- The half that is put to. -/
def pick (b : Bool) (A B : List Rk.Sec) : List Rk.Sec := if b then B else A
end Go.Proofs.YtjlncjabiofklaaDoor.Wl
end
section
namespace Go.Proofs.YtjlncjabiofklaaDoor.Wl
open Go Go.RowKit Dv Rf Shf Rk
open Tal (Strs bas)
end Go.Proofs.YtjlncjabiofklaaDoor.Wl
end
section
namespace Go.Proofs.YtjlncjabiofklaaDoor.Wl
open Go Go.RowKit Dv Rf Shf Rk
open Tal (Strs bas)
section
variable {base : Nat} {P : Nat → Prop} {w u u' : World} {a b vA vB : Value} {A B : List Rk.Sec} {l10 l11 l13 : Bool}
end
end Go.Proofs.YtjlncjabiofklaaDoor.Wl
end
