/- Package quittanceref12: Same. -/
import Derived.Test.YtialjglgkfcdmaaOrFit
import Derived.Laws.StructEq
import Derived.Deep.RegionWith
import Derived.Deep.Draws
import Derived.RegionTactic
namespace Go.Proofs.Ytialjglgkfcdmaa.Or
open Go.RowKit
instance : DecidableEq Fd := fun a b => by
  cases a; cases b
  rw [Fd.mk.injEq]
  exact inferInstance
theorem str_beq {s t : ByteArray} (h : s ≠ t) : (s.toList == t.toList) = false := by
  rw [ByteArray.toList_eq, ByteArray.toList_eq]
  simp only [beq_eq_false_iff_ne, ne_eq]
  exact fun e => h (ByteArray.ext (Array.ext' e))
theorem str_beq_same {s t : ByteArray} (h : s = t) : (s.toList == t.toList) = true := by subst h; simp
/-- Where two fields differ first. -/
theorem fd_ne {f g : Fd} (h : f ≠ g) : ((f.n == g.n) = false ∧ f.n ≠ g.n) ∨ ((f.n == g.n) = true ∧ (f.i == g.i) = false ∧ f.n = g.n ∧ f.i ≠ g.i) ∨ ((f.n == g.n) = true ∧ (f.i == g.i) = true ∧ (f.s.toList == g.s.toList) = false ∧ f.n = g.n ∧ f.i = g.i ∧ f.s ≠ g.s) := by
  by_cases h1 : f.n = g.n
  · by_cases h2 : f.i = g.i
    · have h3 : f.s ≠ g.s := fun e => h (by cases f; cases g; simp_all)
      exact .inr (.inr ⟨beq_iff_eq.2 h1, beq_iff_eq.2 h2, str_beq h3, h1, h2, h3⟩)
    · exact .inr (.inl ⟨beq_iff_eq.2 h1, beq_eq_false_iff_ne.2 h2, h1, h2⟩)
  · exact .inl ⟨beq_eq_false_iff_ne.2 h1, h1⟩
theorem below_drewN {B : Nat} {w0 w : World} (h : Below B w0 w) (m : Nat) : Below B w0 (w.drewN m) := ⟨h.os, h.tape, h.output, h.size, h.block⟩
set_option maxRecDepth 100000 in
set_option maxHeartbeats 1600000 in
theorem same_c (w : World) (a b : Option Addr) (ca cb : Nat) (L M : List Fd) (hL : Fds w a L) (hM : Fds w b M) (hl : L.length ≤ 1000000) (hm : M.length ≤ 1000000) :
    Calls Try.prog 15 #[.slice a L.length ca, .slice b M.length cb] w fun e w' => e = .returned (.bool (decide (L = M))) ∧ Below w.heap.size w w' := by
  have HLS := Lib.hid hL
  have HMS := Lib.hid hM
  clear hL hM
  by_cases hlen : L.length = M.length
  · have HLEN := Lib.hid hlen
    rw [hlen]
    clear hlen
    go_enter Try.func15, Try.ntmps15
    go_wp2_with fail
    go_loopw [5] (fun i wr => ∃ k : Nat, k ≤ M.length ∧ i = .int .i64 k ∧ L.take k = M.take k ∧ Below w.heap.size w wr) (fun i _ => M.length - (intOf i).toNat)
    case atStart => exact ⟨0, by omega, rfl, rfl, Below.refl _ _⟩
    case round =>
      obtain ⟨k, hk, rfl, ht, hB⟩ := hrel
      have HB := Lib.hid hB
      have HTK := Lib.hid ht
      clear hB ht
      by_cases hlt2 : k < M.length
      · have hlt : k < L.length := by rw [HLEN.out]; exact hlt2
        have e1 := List.take_succ_eq_append_getElem hlt
        have e2 := List.take_succ_eq_append_getElem hlt2
        obtain ⟨g1, o1, rfl, hb1, c1, c2, c3⟩ := HLS.out.later HB.out k hlt
        obtain ⟨g2, o2, rfl, hb2, c4, c5, c6⟩ := HMS.out.later HB.out k hlt2
        obtain ⟨s, hs⟩ : ∃ s, L[k] = s := ⟨_, rfl⟩
        obtain ⟨t, ht⟩ : ∃ t, M[k] = t := ⟨_, rfl⟩
        have HS := Lib.hid hs
        have HT := Lib.hid ht
        rw [hs] at c1 c2 c3 e1
        rw [ht] at c4 c5 c6 e2
        have E1 := Lib.hid e1
        have E2 := Lib.hid e2
        have q0 : (0 : Int) ≤ (k : Int) := by omega
        have q2 : (k : Int) < (M.length : Int) := by omega
        clear hb1 hb2 hs ht e1 e2
        by_cases hst : s = t
        · subst hst
          go_wp2_with fail
          go_region_with (fail)
          all_goals go_wp2_with fail
          all_goals exact ⟨⟨k + 1, by omega, by simp, by rw [E1.out, E2.out, HTK.out], HB.out.drew⟩, by simp [intOf]; omega⟩
        · have hne : L ≠ M := by
            intro h
            subst h
            exact hst (HS.out.symm.trans HT.out)
          have HNE := Lib.hid hne
          clear hne
          rcases fd_ne hst with ⟨b1, -⟩ | ⟨b1, b2, -⟩ | ⟨b1, b2, b3, -⟩
          all_goals clear hst
          all_goals go_wp2_with fail
          all_goals go_region_with (fail)
          all_goals go_wp2_with fail
          all_goals go_ret
          all_goals exact ⟨by simp [HNE.out], HB.out.drew⟩
      · obtain rfl : k = M.length := by omega
        go_wp2_with fail
        go_ret
        have e : L = M := by
          have := HTK.out
          rw [← HLEN.out, List.take_length, HLEN.out, List.take_length] at this
          exact this
        exact ⟨by simp [e], HB.out⟩
  · have hz : ((L.length : Int) != (M.length : Int)) = true := by simp; omega
    have hne : L ≠ M := fun h => hlen (congrArg _ h)
    go_enter Try.func15, Try.ntmps15
    go_wp2_with fail
    go_ret
    exact ⟨by simp [hne], Below.refl _ _⟩
end Go.Proofs.Ytialjglgkfcdmaa.Or
