/- Package sheaf: Put. -/
import Derived.Test.YtjlncjabiofklaaDoorSfMany
import Derived.Test.YtjlncjabiofklaaDoorRgD
import Derived.Test.YtjlncjabiofklaaDoorRgB
import Derived.Test.YtjlncjabiofklaaDoorRgA
import Derived.Test.YtjlncjabiofklaaDoorRgE
import Derived.Shelf.Abstract
import Derived.Shelf.RegionOpen
import Derived.OwnWalkIn
import Derived.TacticsInMore
import Derived.LoopNIn
import Derived.LoopIn
namespace Go.Proofs.YtjlncjabiofklaaDoor.Shf
open Go.RowKit Go.Shelf Rf
attribute [local go_sem] Oper.semAt_some
def sv (x : List UInt8) : Value := .string ⟨x.toArray⟩
theorem mk_fn : ∀ (fn : Fn) (first cap : Array Value) (w : World), (Instr.makeFunc fn first cap).run Tryd.prog w = .ok (.func fn first cap) w := fun _ _ _ _ => rfl
theorem put_leaf (n : Nat) (x : List UInt8) (w : World) (h0 : n ≠ 0) (hn : n < 18446744073709551616) (hx : x.length ≤ 48) :
    Calls Tryd.prog 66 #[.int .u64 n, .string ⟨x.toArray⟩] w fun e w' => e = .returned (.tuple #[.string ⟨(Lf.leaf n x).toArray⟩, .int .i64 0]) ∧ Below w.heap.size w w' := by
  refine (Le.put_c n ⟨x.toArray⟩ w hn (by show x.length ≤ _; omega)).mono ?_
  rintro e w' ⟨rfl, b⟩
  obtain ⟨h1, h2⟩ := Le.put_ok n x h0 hx
  refine ⟨?_, b⟩
  show Ending.returned (.tuple #[.string ⟨(Le.putS n x).toArray⟩, .int .i64 (Le.putE n x)]) = _
  rw [h1, h2]
theorem pieces_c (s : ByteArray) (w : World) :
    Calls Tryd.prog 64 #[.string s] w fun e w' => e = .returned (.func (.func 79) #[] #[.pointer (some ⟨w.heap.size, 0, none⟩)]) ∧ w' = w.alloc (.cells #[.string s] 9) := by
  have hmf := mk_fn
  go_enter Tryd.func64, Tryd.ntmps64
  go_wp2_with fail
  go_ret
  exact ⟨rfl, rfl⟩
/-- What the loop's body leaves as it was. -/
def Kp (b : Nat) (W W' : World) : Prop := W'.heap[b]? = W.heap[b]?
theorem Kp.cell {b : Nat} {W W' : World} (h : Kp b W W') : W'.cell? ⟨b, 0, none⟩ = W.cell? ⟨b, 0, none⟩ := World.cell?_of_block (a := ⟨b, 0, none⟩) (w := W) h
theorem Kp.frozen {b : Nat} {W W' : World} (h : Kp b W W') : W'.frozen? ⟨b, 0, none⟩ = W.frozen? ⟨b, 0, none⟩ := World.frozen?_of_block (a := ⟨b, 0, none⟩) (w := W) h
/-- The box of an iteration, in a state. -/
structure Bxp (b : Nat) (s : ByteArray) (w : World) : Prop where
  c0 : w.cell? ⟨b, 0, none⟩ = some (.string s)
  f0 : w.frozen? ⟨b, 0, none⟩ = false
def sizeOf' : Value → Nat
  | .string s => s.size
  | _ => 0
def leftP (b : Nat) (w : World) : Nat := sizeOf' ((w.cell? ⟨b, 0, none⟩).getD undef)
theorem leftP_is {b : Nat} {s : ByteArray} {w : World} (h : Bxp b s w) : leftP b w = s.size := by unfold leftP; rw [h.c0]; rfl
theorem rest_size (s : ByteArray) : (s.extract 48 s.size).size = s.size - 48 := by simp
set_option maxRecDepth 100000 in
set_option maxHeartbeats 2000000 in
theorem pieces_yields (B : List UInt8) (s0 : ByteArray) (hs0 : s0.data.toList = B) (hsl : s0.size ≤ 1099511627776) (b : Nat) (W0 : World) (hb : b < W0.heap.size) (h0 : Bxp b s0 W0) :
    Rf.Yields Tryd.prog 79 #[.pointer (some ⟨b, 0, none⟩)] (fun y : List UInt8 => #[.string ⟨y.toArray⟩]) (fun k => k = b) (Kp b) (fun xs => xs = Sf.chunks B) (fun _ => True) (fun pre y => ∃ r, Sf.chunks B = pre ++ y :: r) W0 := fun l J Jx W hW sJ sJx hY hJ0 => by
  refine callsIn_of_wp Tryd.func79 rfl trivial ?_ rfl
  simp only [Tryd.ntmps79, List.size_toArray, List.length_cons, List.length_nil, Nat.reduceAdd, Nat.reduceSub, Array.replicate_succ, Array.replicate_zero, List.push_toArray, List.append_toArray, List.nil_append, List.cons_append]
  have hBx : Bxp b s0 W := ⟨(hW.cell (by simpa using hb)).trans h0.c0, (hW.frozen (by simpa using hb)).trans h0.f0⟩
  gi_wp2_with fail
  gi_loopw [3, 4, 5, 6, 7, 8, 9, 10, 11, 12] (fun _ _ _ _ _ _ _ _ _ _ wr => ∃ (pre : List (List UInt8)) (s : ByteArray), Sf.chunks B = pre ++ Sf.chunks s.data.toList ∧ Bxp b s wr ∧ J pre wr ∧ s.size ≤ 1099511627776) (fun _ _ _ _ _ _ _ _ _ _ wr => leftP b wr)
  case atStart => exact ⟨[], s0, by rw [hs0]; rfl, hBx, hJ0, hsl⟩
  case round =>
    obtain ⟨pre, s, hR, hB, hJs, hsz⟩ := hrel
    have hmx : Tryd.prog.follows .mixedOrders = true := by kernel_rfl
    have HB := Lib.hid hB
    obtain ⟨c0, f0⟩ := hB
    clear h0 hBx hJ0 hsl hs0
    by_cases hle : s.size ≤ 48
    · have hc1 : Sf.chunks s.data.toList = [s.data.toList] := Sf.chunks_one (by simpa using hle)
      rw [hc1] at hR
      have HR := Lib.hid hR
      obtain ⟨fn, tmps, assign, body, hy, hRd⟩ := hY pre s.data.toList wr hJs ⟨[], hR⟩
      clear hc1 hR
      have q1 : ¬ (48 : Int) < (s.size : Int) := by omega
      have q2 : (s.size : Int) ≤ 48 := by omega
      gi_wp2_with fail
      refine hRd.mono ?_
      rintro e W3 (⟨rfl, hJ3, hk3⟩ | ⟨rfl, hx3⟩)
      · gi_wp2
        go_end0
        exact ⟨⟨_, rfl⟩, .inl ⟨_, HR.out.symm, hJ3⟩⟩
      · gi_wp2
        go_end0
        exact ⟨⟨_, rfl⟩, .inr ⟨_, trivial, hx3⟩⟩
    · have hc1 : Sf.chunks s.data.toList = s.data.toList.take 48 :: Sf.chunks (s.data.toList.drop 48) := Sf.chunks_more (by simpa using hle)
      rw [hc1] at hR
      have e1 : (⟨(s.data.toList.take 48).toArray⟩ : ByteArray) = s.extract 0 48 := (Le.ext_take s 48).symm
      have e2 : (s.extract 48 s.size).data.toList = s.data.toList.drop 48 := by rw [Le.ext_drop]
      have hrs := rest_size s
      have HR := Lib.hid hR
      obtain ⟨fn, tmps, assign, body, hy, hRd⟩ := hY pre (s.data.toList.take 48) wr hJs ⟨_, hR⟩
      rw [e1] at hy
      have E2 := Lib.hid e2
      have HRS := Lib.hid hrs
      have q1 : (48 : Int) < (s.size : Int) := by omega
      have q2 : (48 : Int) ≤ (s.size : Int) := by omega
      have q3 : 48 ≤ s.size := by omega
      clear hc1 hR e1 e2 hrs
      gi_wp2_with fail
      refine hRd.mono ?_
      rintro e W3 (⟨rfl, hJ3, hk3⟩ | ⟨rfl, hx3⟩)
      · have d0 : W3.cell? ⟨b, 0, none⟩ = some (.string s) := hk3.cell.trans HB.out.c0
        have d1 : W3.frozen? ⟨b, 0, none⟩ = false := hk3.frozen.trans HB.out.f0
        gi_wp2
        have nb : Bxp b (s.extract 48 s.size) (W3.setCell ⟨b, 0, none⟩ (.string (s.extract 48 s.size))) := ⟨World.cell?_setCell_same' _ _ _ (by rw [d0]; rfl), by rw [World.frozen?_setCell]; exact d1⟩
        go_roundw
        case rel => exact ⟨pre ++ [s.data.toList.take 48], s.extract 48 s.size, by rw [E2.out, HR.out]; simp, nb, sJ.put _ _ _ _ rfl hJ3, by rw [HRS.out]; omega⟩
        case measure => rw [leftP_is HB.out, leftP_is nb, HRS.out]; omega
      · gi_wp2
        refine bodyPost_ret (results_none rfl _ _ _) rfl ?_
        exact ⟨⟨_, rfl⟩, .inr ⟨_, trivial, hx3⟩⟩
end Go.Proofs.YtjlncjabiofklaaDoor.Shf
