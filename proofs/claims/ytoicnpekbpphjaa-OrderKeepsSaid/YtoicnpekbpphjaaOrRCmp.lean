/- Package quittanceref12: Compare. -/
import Derived.Test.YtoicnpekbpphjaaOrCmp
namespace Go.Proofs.Ytoicnpekbpphjaa.Or
open Go.RowKit
set_option maxRecDepth 100000 in
set_option maxHeartbeats 3200000 in
theorem rcompare_c (w : World) (a b : Option Addr) (ca cb : Nat) (L M : List Fd) (hL : Fds w a L) (hM : Fds w b M) (hl : L.length ≤ 1000000) (hm : M.length ≤ 1000000) :
    Calls Try.prog 20 #[.slice a L.length ca, .slice b M.length cb] w fun e w' => e = .returned (.int .i64 (cmpF L M)) ∧ Below w.heap.size w w' := by
  have HLS := Lib.hid hL
  have HMS := Lib.hid hM
  clear hL hM
  go_enter Try.func20, Try.ntmps20
  go_wp2_with fail
  go_loopw [5] (fun i wr => ∃ k : Nat, k ≤ L.length ∧ k ≤ M.length ∧ i = .int .i64 k ∧ L.take k = M.take k ∧ Below w.heap.size w wr) (fun i _ => L.length - (intOf i).toNat)
  case atStart => exact ⟨0, by omega, by omega, rfl, rfl, Below.refl _ _⟩
  case round =>
    obtain ⟨k, hk, hk2, rfl, htk, hB⟩ := hrel
    have HB := Lib.hid hB
    have HTK := Lib.hid htk
    clear hB htk
    by_cases hlt0 : k < L.length ∧ k < M.length
    · have hlt : k < L.length := by omega
      have hlt2 : k < M.length := by omega
      have e1 := List.take_succ_eq_append_getElem hlt
      have e2 := List.take_succ_eq_append_getElem hlt2
      obtain ⟨g1, o1, rfl, hb1, c1, c2, c3⟩ := HLS.out.later HB.out k hlt
      obtain ⟨g2, o2, rfl, hb2, c4, c5, c6⟩ := HMS.out.later HB.out k hlt2
      have hne := cmp_at HTK.out hlt hlt2
      obtain ⟨s, hs⟩ : ∃ s, L[k] = s := ⟨_, rfl⟩
      obtain ⟨t, ht⟩ : ∃ t, M[k] = t := ⟨_, rfl⟩
      rw [hs] at c1 c2 c3 e1 hne
      rw [ht] at c4 c5 c6 e2 hne
      have E1 := Lib.hid e1
      have E2 := Lib.hid e2
      have q0 : (0 : Int) ≤ (k : Int) := by omega
      have q1 : (k : Int) < (L.length : Int) := by omega
      have q2 : (k : Int) < (M.length : Int) := by omega
      clear hs ht e1 e2
      by_cases hst : s = t
      · subst hst
        clear hne
        have z1 : (s.n == s.n) = true := by simp
        have z2 : (s.i == s.i) = true := by simp
        have z3 : (s.s.toList == s.s.toList) = true := by simp
        go_wp2_with fail
        go_quiet (fail)
        go_wp2_with fail
        go_quiet (fail)
        go_wp2_with fail
        go_quiet (fail)
        go_wp2_with fail
        exact ⟨⟨k + 1, by omega, by omega, by simp, by rw [E1.out, E2.out, HTK.out], below_drewN HB.out _⟩, by simp [intOf]; omega⟩
      · have HV := Lib.hid (hne hst)
        clear hne
        rcases fd_cases hst with ⟨b1, b2, hv⟩ | ⟨b1, b2, hv⟩ | ⟨b1, b2, b3, b4, hv⟩ | ⟨b1, b2, b3, b4, hv⟩ | ⟨b1, b2, b3, b4, b5, b6, hv⟩ | ⟨b1, b2, b3, b4, b5, b6, hv⟩
        · have HC := Lib.hid (show cmpF L M = -1 by rw [HV.out, if_pos hv])
          clear hst hv HV
          go_wp2_with fail
          go_quiet (fail)
          go_wp2_with fail
          go_region_with (first | (go_at_call 33; refine (side_t _).mono ?_; rintro e w2 ⟨rfl, rfl⟩))
          all_goals go_wp2_with fail
          all_goals go_ret
          all_goals exact ⟨by rw [HC.out]; rfl, (below_drewN HB.out _).drew⟩
        · have HC := Lib.hid (show cmpF L M = 1 by rw [HV.out, if_neg hv])
          clear hst hv HV
          have d9 : decide (s.n < t.n) = false := decide_eq_false b2
          go_wp2_with fail
          go_quiet (fail)
          go_wp2_with fail
          go_region_with (first | (go_at_call 33; refine (side_f _).mono ?_; rintro e w2 ⟨rfl, rfl⟩))
          all_goals go_wp2_with fail
          all_goals go_ret
          all_goals exact ⟨by rw [HC.out]; rfl, (below_drewN HB.out _).drew⟩
        · have HC := Lib.hid (show cmpF L M = -1 by rw [HV.out, if_pos hv])
          clear hst hv HV
          go_wp2_with fail
          go_quiet (fail)
          go_wp2_with fail
          go_quiet (fail)
          go_wp2_with fail
          go_region_with (first | (go_at_call 33; refine (side_t _).mono ?_; rintro e w2 ⟨rfl, rfl⟩))
          all_goals go_wp2_with fail
          all_goals go_ret
          all_goals exact ⟨by rw [HC.out]; rfl, (below_drewN HB.out _).drew⟩
        · have HC := Lib.hid (show cmpF L M = 1 by rw [HV.out, if_neg hv])
          clear hst hv HV
          have d9 : decide (s.i < t.i) = false := decide_eq_false b4
          go_wp2_with fail
          go_quiet (fail)
          go_wp2_with fail
          go_quiet (fail)
          go_wp2_with fail
          go_region_with (first | (go_at_call 33; refine (side_f _).mono ?_; rintro e w2 ⟨rfl, rfl⟩))
          all_goals go_wp2_with fail
          all_goals go_ret
          all_goals exact ⟨by rw [HC.out]; rfl, (below_drewN HB.out _).drew⟩
        · have HC := Lib.hid (show cmpF L M = -1 by rw [HV.out, if_pos hv])
          clear hst hv HV
          go_wp2_with fail
          go_quiet (fail)
          go_wp2_with fail
          go_quiet (fail)
          go_wp2_with fail
          go_quiet (fail)
          go_wp2_with fail
          go_region_with (first | (go_at_call 33; refine (side_t _).mono ?_; rintro e w2 ⟨rfl, rfl⟩))
          all_goals go_wp2_with fail
          all_goals go_ret
          all_goals exact ⟨by rw [HC.out]; rfl, (below_drewN HB.out _).drew⟩
        · have HC := Lib.hid (show cmpF L M = 1 by rw [HV.out, if_neg hv])
          clear hst hv HV
          go_wp2_with fail
          go_quiet (fail)
          go_wp2_with fail
          go_quiet (fail)
          go_wp2_with fail
          go_quiet (fail)
          go_wp2_with fail
          go_region_with (first | (go_at_call 33; refine (side_f _).mono ?_; rintro e w2 ⟨rfl, rfl⟩))
          all_goals go_wp2_with fail
          all_goals go_ret
          all_goals exact ⟨by rw [HC.out]; rfl, (below_drewN HB.out _).drew⟩
    · have HE := cmp_end HTK.out hk hk2 (by omega)
      rcases Nat.lt_trichotomy L.length M.length with he | he | he
      · rw [if_neg (by omega), if_pos he] at HE
        have HC := Lib.hid HE
        obtain rfl : k = L.length := by omega
        have q1 : ¬ (L.length : Int) < (L.length : Int) := by omega
        have q3 : ((L.length : Int) == (M.length : Int)) = false := beq_eq_false_iff_ne.2 (by omega)
        have q4 : (L.length : Int) < (M.length : Int) := by omega
        clear HE he
        go_wp2_with fail
        refine (side_t _).mono ?_
        rintro e w2 ⟨rfl, rfl⟩
        go_wp2_with fail
        go_ret
        exact ⟨by rw [HC.out]; rfl, HB.out⟩
      · rw [if_pos he] at HE
        have HC := Lib.hid HE
        obtain rfl : k = L.length := by omega
        have q1 : ¬ (L.length : Int) < (L.length : Int) := by omega
        have q3 : ((L.length : Int) == (M.length : Int)) = true := beq_iff_eq.2 (by omega)
        clear HE he
        go_wp2_with fail
        go_ret
        exact ⟨by rw [HC.out]; rfl, HB.out⟩
      · rw [if_neg (by omega), if_neg (by omega)] at HE
        have HC := Lib.hid HE
        obtain rfl : k = M.length := by omega
        have q1 : ¬ (M.length : Int) < (M.length : Int) := by omega
        have q2 : (M.length : Int) < (L.length : Int) := by omega
        have q3 : ((L.length : Int) == (M.length : Int)) = false := beq_eq_false_iff_ne.2 (by omega)
        have q4 : ¬ (L.length : Int) < (M.length : Int) := by omega
        clear HE he
        go_wp2_with fail
        refine (side_f _).mono ?_
        rintro e w2 ⟨rfl, rfl⟩
        go_wp2_with fail
        go_ret
        exact ⟨by rw [HC.out]; rfl, HB.out⟩
end Go.Proofs.Ytoicnpekbpphjaa.Or
