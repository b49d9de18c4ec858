/- Package drive: drives with the blocks that are theirs. -/
import Derived.Test.YtjlncjabiofklaaDoorDwHead
namespace Go.Proofs.YtjlncjabiofklaaDoor.Dv
open Go Go.RowKit Rf
/-- A drive whose blocks are some. -/
def Os (S : Nat → Prop) (w : World) (g : Nat) (x : Dr) : Prop := ∃ bv bd pv fv, At w g bv bd pv fv x ∧ ∀ j, Bs g bv bd pv fv j → S j
/-- What an operation leaves. -/
def After (S : Nat → Prop) (w : World) (g : Nat) (y : Dr) (w' : World) : Prop := Os (fun j => S j ∨ w.heap.size ≤ j) w' g y ∧ Keeps S w w'
section
variable {S T : Nat → Prop} {w w' : World} {g : Nat} {x y : Dr}
theorem after_left {bv bd : Nat} {pv fv : Value} (hS : ∀ j, Bs g bv bd pv fv j → S j) (h : Left g bv bd pv fv y w w') : After S w g y w' := by
  obtain ⟨pv', fv', h1, h2, h3⟩ := h
  exact ⟨⟨bv, bd, pv', fv', h1, fun j hj => (h3 j hj).imp (hS j) id⟩, h2.mono fun j hj => .inl (hS j hj)⟩
theorem Os.keep (h : Os S w g x) (k : Keeps T w w') (hd : ∀ j, S j → ¬ T j) : Os S w' g x := by
  obtain ⟨bv, bd, pv, fv, h1, h2⟩ := h
  exact ⟨bv, bd, pv, fv, h1.keeps k fun j hj => hd j (h2 j hj), h2⟩
theorem Os.later (h : Os S w g x) (k : Below w.heap.size w w') : Os S w' g x := h.keep (Keeps.of (fun _ => False) k) fun _ _ h => h
theorem Os.mono (h : Os S w g x) (hS : ∀ j, S j → T j) : Os T w g x := by
  obtain ⟨bv, bd, pv, fv, h1, h2⟩ := h
  exact ⟨bv, bd, pv, fv, h1, fun j hj => hS j (h2 j hj)⟩
theorem Os.lt (h : Os S w g x) : Os (fun j => S j ∧ j < w.heap.size) w g x := by
  obtain ⟨bv, bd, pv, fv, h1, h2⟩ := h
  exact ⟨bv, bd, pv, fv, h1, fun j hj => ⟨h2 j hj, h1.lt j hj⟩⟩
theorem os_write (h : Os S w g x) (hx : x.Ok) (hP : x.P.length ≤ 100000) (n : Int) (s : ByteArray) (hs : s.size ≤ 9223372036854775807) (z : Int) (hz : x.write n s.data.toList = (y, z)) : Calls Tryd.prog 55 #[.pointer (some ⟨g, 0, Option.none⟩), .int .i64 n, .string s] w fun e w' => e = .returned (.int .i64 z) ∧ After S w g y w' := by
  obtain ⟨bv, bd, pv, fv, h1, h2⟩ := h
  refine (write_c g bv bd pv fv x n s w h1 hx hP hs).mono fun e w' hr => ?_
  unfold WrRes at hr
  rw [hz] at hr
  exact ⟨hr.1, after_left h2 hr.2⟩
theorem os_sync (h : Os S w g x) (hx : x.Ok) (hP : x.P.length ≤ 100000) (z : Int) (hz : x.sync = (y, z)) : Calls Tryd.prog 40 #[.pointer (some ⟨g, 0, Option.none⟩)] w fun e w' => e = .returned (.int .i64 z) ∧ After S w g y w' := by
  obtain ⟨bv, bd, pv, fv, h1, h2⟩ := h
  refine (sync_c g bv bd pv fv x w h1 hx hP).mono fun e w' hr => ?_
  rw [hz] at hr
  exact ⟨hr.1, after_left h2 hr.2⟩
theorem os_fuse (h : Os S w g x) (hx : x.Ok) (n : Int) : Calls Tryd.prog 9 #[.pointer (some ⟨g, 0, Option.none⟩), .int .i64 n] w fun e w' => e = .returned (.tuple #[]) ∧ After S w g (x.fuse n) w' := by
  obtain ⟨bv, bd, pv, fv, h1, h2⟩ := h
  exact (fuse_c g bv bd pv fv x n w h1 hx).mono fun e w' hr => ⟨hr.1, after_left h2 hr.2⟩
theorem os_crash (h : Os S w g x) (hx : x.Ok) (hP : x.P.length ≤ 100000) (c : Cr) (hc : c.Fits) : Calls Tryd.prog 13 #[.pointer (some ⟨g, 0, Option.none⟩), c.val] w fun e w' => e = .returned (.tuple #[]) ∧ After S w g (x.crash c) w' := by
  obtain ⟨bv, bd, pv, fv, h1, h2⟩ := h
  exact (crash_c g bv bd pv fv x c w h1 hx hP hc).mono fun e w' hr => ⟨hr.1, after_left h2 hr.2⟩
def NewOs (x : Dr) (w : World) (e : Ending) (w' : World) : Prop := ∃ g, e = .returned (.tuple #[.pointer (some ⟨g, 0, none⟩), .int .i64 0]) ∧ Os (fun j => w.heap.size ≤ j) w' g x ∧ Below w.heap.size w w'
def CopyOs (x : Dr) (w : World) (e : Ending) (w' : World) : Prop := ∃ g, e = .returned (.pointer (some ⟨g, 0, none⟩)) ∧ Os (fun j => w.heap.size ≤ j) w' g x ∧ Below w.heap.size w w'
theorem os_new (n : Nat) (h1 : 8 ≤ n) (h2 : n ≤ 4096) (w : World) : Calls Tryd.prog 4 #[.int .i64 (n : Int)] w (NewOs (Dr.new n) w) :=
  (new_yes n w h1 h2).mono fun e w' hr => by
    obtain ⟨g, bv, bd, pv, fv, he, h1, h2, h3⟩ := hr
    exact ⟨g, he, ⟨bv, bd, pv, fv, h1, h3⟩, h2⟩
theorem os_copy (h : Os S w g x) (hx : x.Ok) (hP : x.P.length ≤ 100000) : Calls Tryd.prog 14 #[.pointer (some ⟨g, 0, Option.none⟩)] w (CopyOs x w) := by
  obtain ⟨bv, bd, pv, fv, h1, h2⟩ := h
  exact (copy_c g bv bd pv fv x w h1 hx hP).mono fun e w' hr => by
    obtain ⟨g', bv', bd', pv', fv', he, h1, h2, h3⟩ := hr
    exact ⟨g', he, ⟨bv', bd', pv', fv', h1, h3⟩, h2⟩
end
def e0 : Dr := Dr.new 8
def e1 : Dr := ⟨e0.D, [(0, pad [97, 98])], none⟩
def e2 : Dr := ⟨e1.V, [], none⟩
def e3 : Dr := ⟨e2.D, [(0, pad [99, 100])], none⟩
def c0 : Cr := ⟨0, -1, 0⟩
def c1 : Cr := ⟨1, -1, 0⟩
def c2 : Cr := ⟨0, 0, 1⟩
def ez : Dr := (e3.crash c2).fuse 1
def ez1 : Dr := ⟨ez.D, [(1, pad [120])], some 0⟩
theorem w1e : e0.write 0 [97, 98] = (e1, 0) := rfl
theorem s1e : e1.sync = (e2, 0) := rfl
theorem w2e : e2.write 0 [99, 100] = (e3, 0) := rfl
theorem w3e : ez.write 1 [120] = (ez1, 0) := rfl
theorem s2e : ez1.sync = (ez1, 30) := rfl
theorem ok0 : e0.Ok := Dr.new_ok 8 (by decide) (by decide)
theorem ok1 : e1.Ok := by have := ok0.write 0 [97, 98]; rwa [w1e] at this
theorem ok2 : e2.Ok := by have := ok1.sync; rwa [s1e] at this
theorem ok3 : e3.Ok := by have := ok2.write 0 [99, 100]; rwa [w2e] at this
theorem okz : ez.Ok := (ok3.crash c2).fuse 1 (by decide)
theorem okz1 : ez1.Ok := by have := okz.write 1 [120]; rwa [w3e] at this
theorem fit0 : c0.Fits := ⟨by decide, by decide, by decide⟩
theorem fit1 : c1.Fits := ⟨by decide, by decide, by decide⟩
theorem fit2 : c2.Fits := ⟨by decide, by decide, by decide⟩
theorem rx : ([97, 98] : List UInt8) = ((e3.crash c0).V.getD 0 []).take 2 := by decide
theorem ry : ([99, 100] : List UInt8) = ((e3.crash c1).V.getD 0 []).take 2 := by decide
theorem rz : ([99, 98] : List UInt8) = (ez1.V.getD 0 []).take 2 := by decide
end Go.Proofs.YtjlncjabiofklaaDoor.Dv
