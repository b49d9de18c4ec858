/- Package prorate: what 'touched' yields. -/
import Derived.Test.YtlmhifdilmnlnaaDoorPrRef
import Derived.Test.YtlmhifdilmnlnaaDoorRfLaw
import Derived.Shelf.Abstract
import Derived.Shelf.RegionOpen
import Derived.OwnWalkIn
import Derived.TacticsInMore
import Derived.LoopNIn
import Derived.LoopIn
namespace Go.Proofs.YtlmhifdilmnlnaaDoor.Pr
open Go.RowKit Go.Shelf Rf Cw
attribute [local go_sem] Oper.semAt_some
theorem of_in {k day : Int} (h : In k day) (w : World) (hw : Tab w) :
    Calls Tryd.prog 56 #[.int .i64 day] w fun e w' => e = .returned (.tuple #[.int .i64 k, .int .i64 0]) ∧ w = w' := by
  have := of_is day (Yk k) (Mk k) w hw h.date
  rwa [In.k_eq] at this
theorem days_in (k : Int) (w : World) (hw : Tab w) (h1 : 1 ≤ k) (h2 : k ≤ 119988) :
    Calls Tryd.prog 50 #[.int .i64 k] w fun e w' => e = .returned (.tuple #[.int .i64 (B k + 1), .int .i64 (E k), .int .i64 0]) ∧ w = w' :=
  Cw.days_yes k w hw h1 h2
/-- What is left of a term: all of it has come, or the months from f on are still to come. -/
def Rest (L pre : List (Int × Int)) (f x : Int) : Prop :=
  (f = x ∧ L = pre) ∨ (∃ (n : Nat) (k : Int), f < x ∧ In k f ∧ x - f ≤ n ∧ L = pre ++ tm n k f x)
/-- What the loop's body leaves as it was. -/
def Kp (n b : Nat) (W W' : World) : Prop := ∀ k, k < n ∨ k = b ∨ k = b + 1 → W'.heap[k]? = W.heap[k]?
theorem Kp.cell {n b : Nat} {W W' : World} (h : Kp n b W W') (k o : Nat) (hk : k < n ∨ k = b ∨ k = b + 1) : W'.cell? ⟨k, o, none⟩ = W.cell? ⟨k, o, none⟩ := World.cell?_of_block (w := W) (h k hk)
theorem Kp.frozen {n b : Nat} {W W' : World} (h : Kp n b W W') (k o : Nat) (hk : k < n ∨ k = b ∨ k = b + 1) : W'.frozen? ⟨k, o, none⟩ = W.frozen? ⟨k, o, none⟩ := World.frozen?_of_block (w := W) (h k hk)
theorem touched_c (f x : Int) (w : World) :
    Calls Tryd.prog 42 #[.int .i64 f, .int .i64 x] w fun e w' => e = .returned (.func (.func 63) #[] #[.pointer (some ⟨w.heap.size, 0, none⟩), .pointer (some ⟨w.heap.size + 1, 0, none⟩)]) ∧ w' = (w.alloc (.cells #[.int .i64 f] 3)).alloc (.cells #[.int .i64 x] 3) := by
  have hmf := mk_fn
  go_enter Tryd.func42, Tryd.ntmps42
  go_wp2_with fail
  go_ret
  exact ⟨rfl, rfl⟩
/-- The boxes of an iteration, in a state. -/
structure Bx (b : Nat) (f x : Int) (w : World) : Prop where
  c0 : w.cell? ⟨b, 0, none⟩ = some (.int .i64 f)
  f0 : w.frozen? ⟨b, 0, none⟩ = false
  c1 : w.cell? ⟨b + 1, 0, none⟩ = some (.int .i64 x)
  t : Tab w
theorem tab_pos {w : World} (h : Tab w) : 0 < w.heap.size := World.block_lt_of_cell? w ⟨0, _, none⟩ (h 1 (by omega) (by omega))
theorem tab_kept {n b : Nat} {W W' : World} (h : Tab W) (hk : Kp n b W W') (hn : 0 < n) : Tab W' := fun m h1 h2 => (hk.cell 0 _ (Or.inl hn)).trans (h m h1 h2)
theorem tab_later {w w' : World} (h : Tab w) (hb : Below w.heap.size w w') : Tab w' := fun m h1 h2 => (hb.cell (p := ⟨0, _, none⟩) (tab_pos h)).trans (h m h1 h2)
theorem tab_set {b : Nat} {W : World} (h : Tab W) (v : Value) (hb : b ≠ 0) : Tab (W.setCell ⟨b, 0, none⟩ v) := fun m h1 h2 => (World.cell?_setCell_other _ _ _ _ (by intro e; injection e with e; exact hb e)).trans (h m h1 h2)
def leftB (b : Nat) (x : Int) (w : World) : Nat := (x - intOf ((w.cell? ⟨b, 0, none⟩).getD undef)).toNat
theorem leftB_is {b : Nat} {f x : Int} {w : World} (h : Bx b f x w) : leftB b x w = (x - f).toNat := by unfold leftB; rw [h.c0]; rfl
set_option maxRecDepth 100000 in
set_option maxHeartbeats 2000000 in
theorem touched_yields (L : List (Int × Int)) (f x : Int) (n b : Nat) (W0 : World) (hb : b + 1 < W0.heap.size) (hn : 0 < n) (hn2 : n ≤ b) (h0 : Bx b f x W0) (hx : x ≤ 3652060) (hL : Rest L [] f x) :
    Rf.Yields Tryd.prog 63 #[.pointer (some ⟨b, 0, none⟩), .pointer (some ⟨b + 1, 0, none⟩)] (fun y : Int × Int => #[.int .i64 y.1, .int .i64 y.2]) (fun k => k = b) (Kp n b) (fun xs => xs = L) (fun _ => True) (fun pre y => ∃ r, L = pre ++ y :: r) W0 := fun l J Jx W hW sJ sJx hY hJ0 => by
  refine callsIn_of_wp Tryd.func63 rfl trivial ?_ rfl
  simp only [Tryd.ntmps63, List.size_toArray, List.length_cons, List.length_nil, Nat.reduceAdd, Nat.reduceSub, Array.replicate_succ, Array.replicate_zero, List.push_toArray, List.append_toArray, List.nil_append, List.cons_append]
  have hBx : Bx b f x W := ⟨(hW.cell (by simp; omega)).trans h0.c0, (hW.frozen (by simp; omega)).trans h0.f0, (hW.cell (by simp; omega)).trans h0.c1, tab_later h0.t hW⟩
  gi_wp2_with fail
  gi_loopw [4, 5, 6, 7, 8, 9] (fun _ _ _ _ _ _ wr => ∃ (pre : List (Int × Int)) (g : Int), Rest L pre g x ∧ Bx b g x wr ∧ J pre wr ∧ b + 1 < wr.heap.size) (fun _ _ _ _ _ _ wr => leftB b x wr)
  case atStart => exact ⟨[], f, hL, hBx, hJ0, by have := hW.size; omega⟩
  case round =>
    obtain ⟨pre, g, hR, hB, hJs, hsz⟩ := hrel
    have hmx : Tryd.prog.follows .mixedOrders = true := by kernel_rfl
    rcases hR with ⟨rfl, rfl⟩ | ⟨m, k, hlt, hin, hm, rfl⟩
    · obtain ⟨c0, f0, c1, ht⟩ := hB
      have HT := Lib.hid ht
      clear ht
      gi_wp2_with fail
      go_end0
      exact ⟨⟨_, rfl⟩, .inl ⟨L, rfl, hJs⟩⟩
    · have HB := Lib.hid hB
      obtain ⟨c0, f0, c1, ht⟩ := hB
      have HT := Lib.hid ht
      have k1 := hin.lo
      have k2 := hin.hi
      have hE := hin.b
      have hgA := hin.a
      have hE2 := E_hi k k2
      have hB1 := B_lo k k1
      have hBE := BE k
      clear ht h0 hBx hL hJ0
      by_cases hmin : E k + 1 < x
      · obtain ⟨m', hm', e1, hm2⟩ := tm_more m k g x hin hlt hm hmin
        have HE1 := Lib.hid e1
        have HN := Lib.hid (hin.next hmin hx)
        clear e1 hm'
        obtain ⟨fn, tmps, assign, body, hy, hRd⟩ := hY pre (k, (E k + 1) - g) wr hJs ⟨_, by rw [HE1.out]⟩
        dsimp only at hy
        have hge : ¬ x ≤ E k + 1 := by omega
        gi_wp2_with (first | (refine ⟨trivial, ?_⟩; gi_at_call 56; refine (callsIn_wide.2 (of_in hin _ HT.out)).mono ?_; rintro e w' ⟨rfl, rfl⟩) | (refine ⟨trivial, ?_⟩; gi_at_call 50; refine (callsIn_wide.2 (days_in k _ HT.out k1 k2)).mono ?_; rintro e w' ⟨rfl, rfl⟩))
        refine hRd.mono ?_
        rintro e W3 (⟨rfl, hJ3, hk3⟩ | ⟨rfl, hx3⟩)
        · have d0 : W3.cell? ⟨b, 0, none⟩ = some (.int .i64 g) := (hk3.cell b 0 (by omega)).trans c0
          have d1 : W3.frozen? ⟨b, 0, none⟩ = false := (hk3.frozen b 0 (by omega)).trans f0
          have d2 : W3.cell? ⟨b + 1, 0, none⟩ = some (.int .i64 x) := (hk3.cell (b + 1) 0 (by omega)).trans c1
          have hlW : b + 1 < W3.heap.size := World.block_lt_of_cell? W3 ⟨b + 1, 0, none⟩ d2
          have D2 := Lib.hid d2
          clear d2
          gi_wp2
          go_roundw
          case rel => exact ⟨pre ++ [(k, (E k + 1) - g)], (E k + 1), Or.inr ⟨m', k + 1, hmin, HN.out, hm2, by rw [HE1.out]; simp⟩, (Bx.mk (World.cell?_setCell_same' _ _ _ (by rw [d0]; rfl)) (by rw [World.frozen?_setCell]; exact d1) ((World.cell?_setCell_other _ _ _ _ (by simp)).trans D2.out) (tab_set (tab_kept HT.out hk3 hn) _ (by omega))), sJ.put _ _ _ _ rfl hJ3, by simpa [World.setCell] using hlW⟩
          case measure => rw [leftB_is HB.out, leftB_is (Bx.mk (World.cell?_setCell_same' _ _ _ (by rw [d0]; rfl)) (by rw [World.frozen?_setCell]; exact d1) ((World.cell?_setCell_other _ _ _ _ (by simp)).trans D2.out) (tab_set (tab_kept HT.out hk3 hn) _ (by omega)))]; omega
        · gi_wp2
          refine bodyPost_ret (results_none rfl _ _ _) rfl ?_
          exact ⟨⟨_, rfl⟩, .inr ⟨_, trivial, hx3⟩⟩
      · by_cases hlt3 : x < E k + 1
        · have HE1 := Lib.hid (tm_last m k g x hlt hm (by omega))
          obtain ⟨fn, tmps, assign, body, hy, hRd⟩ := hY pre (k, x - g) wr hJs ⟨[], by rw [HE1.out]⟩
          dsimp only at hy
          have hge : x < E k + 1 := hlt3
          have hge2 : ¬ E k + 1 ≤ x := by omega
          have hge3 : ¬ E k + 1 < x := by omega
          have hge4 : x ≤ E k + 1 := by omega
          gi_wp2_with (first | (refine ⟨trivial, ?_⟩; gi_at_call 56; refine (callsIn_wide.2 (of_in hin _ HT.out)).mono ?_; rintro e w' ⟨rfl, rfl⟩) | (refine ⟨trivial, ?_⟩; gi_at_call 50; refine (callsIn_wide.2 (days_in k _ HT.out k1 k2)).mono ?_; rintro e w' ⟨rfl, rfl⟩))
          refine hRd.mono ?_
          rintro e W3 (⟨rfl, hJ3, hk3⟩ | ⟨rfl, hx3⟩)
          · have d0 : W3.cell? ⟨b, 0, none⟩ = some (.int .i64 g) := (hk3.cell b 0 (by omega)).trans c0
            have d1 : W3.frozen? ⟨b, 0, none⟩ = false := (hk3.frozen b 0 (by omega)).trans f0
            have d2 : W3.cell? ⟨b + 1, 0, none⟩ = some (.int .i64 x) := (hk3.cell (b + 1) 0 (by omega)).trans c1
            have hlW : b + 1 < W3.heap.size := World.block_lt_of_cell? W3 ⟨b + 1, 0, none⟩ d2
            have D2 := Lib.hid d2
            clear d2
            gi_wp2
            go_roundw
            case rel => exact ⟨pre ++ [(k, x - g)], x, Or.inl ⟨rfl, by rw [HE1.out]⟩, (Bx.mk (World.cell?_setCell_same' _ _ _ (by rw [d0]; rfl)) (by rw [World.frozen?_setCell]; exact d1) ((World.cell?_setCell_other _ _ _ _ (by simp)).trans D2.out) (tab_set (tab_kept HT.out hk3 hn) _ (by omega))), sJ.put _ _ _ _ rfl hJ3, by simpa [World.setCell] using hlW⟩
            case measure => rw [leftB_is HB.out, leftB_is (Bx.mk (World.cell?_setCell_same' _ _ _ (by rw [d0]; rfl)) (by rw [World.frozen?_setCell]; exact d1) ((World.cell?_setCell_other _ _ _ _ (by simp)).trans D2.out) (tab_set (tab_kept HT.out hk3 hn) _ (by omega)))]; omega
          · gi_wp2
            refine bodyPost_ret (results_none rfl _ _ _) rfl ?_
            exact ⟨⟨_, rfl⟩, .inr ⟨_, trivial, hx3⟩⟩
        · obtain rfl : x = E k + 1 := by omega
          clear hmin hlt3
          have HE1 := Lib.hid (tm_last m k g (E k + 1) hlt hm (by omega))
          obtain ⟨fn, tmps, assign, body, hy, hRd⟩ := hY pre (k, E k + 1 - g) wr hJs ⟨[], by rw [HE1.out]⟩
          dsimp only at hy
          gi_wp2_with (first | (refine ⟨trivial, ?_⟩; gi_at_call 56; refine (callsIn_wide.2 (of_in hin _ HT.out)).mono ?_; rintro e w' ⟨rfl, rfl⟩) | (refine ⟨trivial, ?_⟩; gi_at_call 50; refine (callsIn_wide.2 (days_in k _ HT.out k1 k2)).mono ?_; rintro e w' ⟨rfl, rfl⟩))
          refine hRd.mono ?_
          rintro e W3 (⟨rfl, hJ3, hk3⟩ | ⟨rfl, hx3⟩)
          · have d0 : W3.cell? ⟨b, 0, none⟩ = some (.int .i64 g) := (hk3.cell b 0 (by omega)).trans c0
            have d1 : W3.frozen? ⟨b, 0, none⟩ = false := (hk3.frozen b 0 (by omega)).trans f0
            have d2 : W3.cell? ⟨b + 1, 0, none⟩ = some (.int .i64 (E k + 1)) := (hk3.cell (b + 1) 0 (by omega)).trans c1
            have hlW : b + 1 < W3.heap.size := World.block_lt_of_cell? W3 ⟨b + 1, 0, none⟩ d2
            have D2 := Lib.hid d2
            clear d2
            gi_wp2
            go_roundw
            case rel => exact ⟨pre ++ [(k, E k + 1 - g)], E k + 1, Or.inl ⟨rfl, by rw [HE1.out]⟩, (Bx.mk (World.cell?_setCell_same' _ _ _ (by rw [d0]; rfl)) (by rw [World.frozen?_setCell]; exact d1) ((World.cell?_setCell_other _ _ _ _ (by simp)).trans D2.out) (tab_set (tab_kept HT.out hk3 hn) _ (by omega))), sJ.put _ _ _ _ rfl hJ3, by simpa [World.setCell] using hlW⟩
            case measure => rw [leftB_is HB.out, leftB_is (Bx.mk (World.cell?_setCell_same' _ _ _ (by rw [d0]; rfl)) (by rw [World.frozen?_setCell]; exact d1) ((World.cell?_setCell_other _ _ _ _ (by simp)).trans D2.out) (tab_set (tab_kept HT.out hk3 hn) _ (by omega)))]; omega
          · gi_wp2
            refine bodyPost_ret (results_none rfl _ _ _) rfl ?_
            exact ⟨⟨_, rfl⟩, .inr ⟨_, trivial, hx3⟩⟩
end Go.Proofs.YtlmhifdilmnlnaaDoor.Pr
