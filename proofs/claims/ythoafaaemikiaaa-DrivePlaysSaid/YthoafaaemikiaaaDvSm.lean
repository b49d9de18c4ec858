/- Package drive: same. -/
import Derived.Test.YthoafaaemikiaaaDvRn
import Derived.Deep.QuietTactic
import Derived.BigQuiet
namespace Go.Proofs.Ythoafaaemikiaaa.Dv
open Go Go.RowKit Rf
theorem Below.drewN (w : World) (n : Nat) : Below w.heap.size w (w.drewN n) := ⟨rfl, rfl, rfl, Nat.le_refl _, fun _ _ => rfl⟩
theorem strs_getD (L : List Sec) (j : Nat) (hj : j < L.length) : (strs L)[j]? = some (.string (bs (L.getD j []))) := by rw [strs_at L j hj, List.getD_eq_getElem?_getD, List.getElem?_eq_getElem hj]; rfl
theorem os_size {S : Nat → Prop} {w : World} {g : Nat} {x : Dr} (h : Os S w g x) (hx : x.Ok) : Calls Try.prog 28 #[.pointer (some ⟨g, 0, none⟩)] w fun e w' => e = .returned (.int .i64 (x.n : Int)) ∧ w = w' := by
  obtain ⟨bv, bd, pv, fv, h1, _⟩ := h
  exact size_c g bv bd pv fv x w h1 hx
set_option maxRecDepth 100000 in
set_option maxHeartbeats 4000000 in
theorem same_c (S1 S2 : Nat → Prop) (g q : Nat) (x : Dr) (w : World) (h1 : Os S1 w g x) (h2 : Rs S2 w q x) (hx : x.Ok) (_hP : x.P.length ≤ 100000) :
    Calls Try.prog 17 #[.pointer (some ⟨g, 0, Option.none⟩), .pointer (some ⟨q, 0, Option.none⟩)] w fun e w' => e = .returned (.bool true) ∧ Below w.heap.size w w' := by
  obtain ⟨nv, sv, av, ov, R, _⟩ := h2
  have hvl := Dr.vlen x
  have hm1 : x.D.length ≤ 4096 := hx.n2
  have hm0 : 1 ≤ x.D.length := hx.n1
  have KS : ∀ u, Below w.heap.size w u → Calls Try.prog 28 #[.pointer (some ⟨g, 0, none⟩)] u fun e w' => e = .returned (.int .i64 (x.D.length : Int)) ∧ u = w' := fun u hb => os_size (h1.later hb) hx
  have KP : ∀ u, Below w.heap.size w u → Calls Try.prog 19 #[.pointer (some ⟨g, 0, none⟩)] u fun e w' => e = .returned (.int .i64 (x.P.length : Int)) ∧ u = w' := fun u hb => os_pending (h1.later hb) hx
  obtain ⟨m, hm⟩ : ∃ m, x.D.length = m := ⟨_, rfl⟩
  obtain ⟨n, hn⟩ : ∃ n, x.P.length = n := ⟨_, rfl⟩
  have hnO : (x.P.map Prod.snd).length = n := by rw [List.length_map, hn]
  rw [hm] at hvl hm1 hm0 KS
  rw [hn] at KP
  obtain ⟨bn, cn, rfl⟩ := own_formN R.now hvl hm0
  obtain ⟨op, co, rfl⟩ := own_sliceN R.op hnO
  have KR := Lib.hid (show ∀ u, Below w.heap.size w u → ∀ j, j < m → Calls Try.prog 18 #[.pointer (some ⟨g, 0, Option.none⟩), .int .i64 (j : Int)] u fun e w' => e = .returned (.tuple #[.string (bs (x.V.getD j [])), .int .i64 0]) ∧ Below u.heap.size u w' from
    fun u hb j h => os_read (h1.later hb) hx j (by rw [hm]; exact h) (bs (x.V.getD j [])) (by unfold bs; simp))
  have KS := Lib.hid KS
  have KP := Lib.hid KP
  have HR := Lib.hid R
  have c0 : w.cell? ⟨q, 0, none⟩ = some (.slice (some ⟨bn, 0, none⟩) m cn) := R.blk.cell 0
  have c3 : w.cell? ⟨q, 3, none⟩ = some (.slice op n co) := R.blk.cell 3
  have HVL := Lib.hid hvl
  clear h1 hx hnO hm hn R hvl
  go_enter Try.func17, Try.ntmps17
  go_wp2_with fail
  go_quiet (first | (go_at_call 28; exact Calls.quiet_of_same ((KS.out _ (Below.drewN _ _)).mono fun _ _ h => ⟨h.1, h.2.symm⟩)) | (go_at_call 19; exact Calls.quiet_of_same ((KP.out _ (Below.drewN _ _)).mono fun _ _ h => ⟨h.1, h.2.symm⟩)))
  have HB0 := Lib.hid (Below.drewN w nq)
  have A0 := Lib.hid (HR.out.later HB0.out)
  clear c0 c3 KS KP HR
  go_wp2_with fail
  go_loopw [5] (fun i wr => ∃ j : Nat, j ≤ m ∧ i = .int .i64 j ∧ RDv wr q (.slice (some ⟨bn, 0, none⟩) m cn) sv av (.slice op n co) x.V x.D (x.P.map Prod.fst) (x.P.map Prod.snd) x.F ∧ Below w.heap.size w wr) (fun i _ => m - (intOf i).toNat)
  case atStart => exact ⟨0, by omega, rfl, A0.out, HB0.out⟩
  case round =>
    obtain ⟨j, hj, rfl, hA, hb⟩ := hrel
    have A1 := Lib.hid hA
    have B1 := Lib.hid hb
    clear hA hb A0 HB0
    have c0 : wr.cell? ⟨q, 0, none⟩ = some (.slice (some ⟨bn, 0, none⟩) m cn) := A1.out.blk.cell 0
    by_cases hlt : j < m
    · have hju : (j : Int) < (m : Int) := by omega
      have hj0 : (0 : Int) ≤ (j : Int) := by omega
      go_wp2_with fail
      refine (KR.out wr B1.out j hlt).mono ?_
      rintro e w2 ⟨rfl, b2⟩
      have A2 := Lib.hid (A1.out.later b2)
      have B2 := Lib.hid (B1.out.trans (b2.mono B1.out.size))
      clear A1 B1 c0 b2
      have c0 : w2.cell? ⟨q, 0, none⟩ = some (.slice (some ⟨bn, 0, none⟩) m cn) := A2.out.blk.cell 0
      have cb : w2.cell? ⟨bn, j, none⟩ = some (.string (bs (x.V.getD j []))) := by
        have h := A2.out.now
        rw [HVL.out] at h
        exact (h.cellAt j (by rw [Nat.mul_one]; exact hlt)).trans (strs_getD x.V j (by rw [HVL.out]; exact hlt))
      obtain ⟨t, ht⟩ : ∃ t, t = bs (x.V.getD j []) := ⟨_, rfl⟩
      rw [← ht] at cb ⊢
      clear ht
      go_wp2_with fail
      exact ⟨⟨j + 1, by omega, by go_num, A2.out, B2.out⟩, by simp [intOf]; omega⟩
    · obtain rfl : m = j := by omega
      go_wp2_with fail
      go_ret
      exact ⟨rfl, B1.out⟩
end Go.Proofs.Ythoafaaemikiaaa.Dv
