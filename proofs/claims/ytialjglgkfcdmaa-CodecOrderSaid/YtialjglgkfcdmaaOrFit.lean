/- Package quittanceref12: Fit. -/
import Derived.Test.YtialjglgkfcdmaaOrFits
import Derived.Deep.RegionWith
import Derived.RegionTactic
namespace Go.Proofs.Ytialjglgkfcdmaa.Or
open Go.RowKit
/-- A slice of fields: its cells. -/
def Fds (w : World) (a : Option Addr) (L : List Fd) : Prop :=
  ∀ j (h : j < L.length), ∃ b off, a = some ⟨b, off, none⟩ ∧ b < w.heap.size ∧ w.cell? ⟨b, off + j * 3, none⟩ = some (.int .u64 L[j].n) ∧ w.cell? ⟨b, off + j * 3 + 1, none⟩ = some (.int .i64 L[j].i) ∧ w.cell? ⟨b, off + j * 3 + 2, none⟩ = some (.string L[j].s)
theorem Fds.later {w w' : World} {a : Option Addr} {L : List Fd} (h : Fds w a L) (hb : Below w.heap.size w w') : Fds w' a L := by
  intro j hj
  obtain ⟨b, off, ha, hlt, c1, c2, c3⟩ := h j hj
  exact ⟨b, off, ha, Nat.lt_of_lt_of_le hlt hb.size, by rw [hb.cell (by simpa using hlt)]; exact c1, by rw [hb.cell (by simpa using hlt)]; exact c2, by rw [hb.cell (by simpa using hlt)]; exact c3⟩
def fitB (K : List UInt8) (L : List Fd) : Bool := kindsB K && decide (L.length ≤ K.length) && (List.range L.length).all fun j => match K[j]?, L[j]? with | some c, some f => fitsB c f | _, _ => false
theorem fit_kinds {K : List UInt8} {L : List Fd} (h : kindsB K = false) : fitB K L = false := by unfold fitB; rw [h]; rfl
theorem fit_long {K : List UInt8} {L : List Fd} (h : K.length < L.length) : fitB K L = false := by unfold fitB; rw [decide_eq_false (by omega)]; simp
theorem fit_no {K : List UInt8} {L : List Fd} (j : Nat) (hj : j < L.length) (hk : j < K.length) (h : fitsB K[j] L[j] = false) : fitB K L = false := by
  unfold fitB
  have : ((List.range L.length).all fun j => match K[j]?, L[j]? with | some c, some f => fitsB c f | _, _ => false) = false := by
    rw [← Bool.not_eq_true, List.all_eq_true]
    intro hall
    have := hall j (List.mem_range.2 hj)
    simp [hj, hk, h] at this
  rw [this, Bool.and_false]
theorem fit_yes {K : List UInt8} {L : List Fd} (h : kindsB K = true) (hl : L.length ≤ K.length) (hall : ∀ j (hj : j < L.length), fitsB (K[j]'(by omega)) L[j] = true) : fitB K L = true := by
  unfold fitB
  rw [h, decide_eq_true hl, Bool.and_self, Bool.true_and, List.all_eq_true]
  intro j hj
  have hj' := List.mem_range.1 hj
  have hk' : j < K.length := by omega
  simp [hj', hk', hall j hj']
set_option maxRecDepth 100000 in
set_option maxHeartbeats 1600000 in
theorem rfit_c (s : ByteArray) (w : World) (a : Option Addr) (cap : Nat) (L : List Fd) (hL : Fds w a L) (hs : s.size ≤ 1000000) (hl : L.length ≤ 1000000) :
    Calls Try.prog 37 #[.string s, .slice a L.length cap] w fun e w' => e = .returned (.bool (fitB s.data.toList L)) ∧ Below w.heap.size w w' := by
  have HL := Lib.hid hL
  have KK := Lib.hid (fun w => rkinds_c s w (by omega))
  have hsz : s.data.toList.length = s.size := by simp
  have HSZ := Lib.hid hsz
  clear hL hsz
  cases hk : kindsB s.data.toList with
  | false =>
    have HR := Lib.hid (fit_kinds (L := L) hk)
    rw [hk] at KK
    clear hk
    go_enter Try.func37, Try.ntmps37
    go_wp2_with fail
    refine (KK.out _).mono ?_
    rintro e w' ⟨rfl, rfl⟩
    go_wp2_with fail
    go_ret
    exact ⟨by rw [HR.out]; rfl, Below.refl _ _⟩
  | true =>
    have HK := Lib.hid hk
    rw [hk] at KK
    clear hk
    by_cases hlen : s.size < L.length
    · have HR := Lib.hid (fit_long (K := s.data.toList) (L := L) (by rw [HSZ.out]; exact hlen))
      have q1 : (s.size : Int) < (L.length : Int) := by omega
      go_enter Try.func37, Try.ntmps37
      go_wp2_with fail
      refine (KK.out _).mono ?_
      rintro e w' ⟨rfl, rfl⟩
      go_wp2_with fail
      go_ret
      exact ⟨by rw [HR.out]; rfl, Below.refl _ _⟩
    · have q1 : (L.length : Int) ≤ (s.size : Int) := by omega
      go_enter Try.func37, Try.ntmps37
      go_wp2_with fail
      refine (KK.out _).mono ?_
      rintro e w' ⟨rfl, rfl⟩
      go_wp2_with fail
      go_loopw [5] (fun i wr => ∃ k : Nat, k ≤ L.length ∧ i = .int .i64 k ∧ (∀ j (hj : j < L.length) (hk : j < s.data.toList.length), j < k → fitsB s.data.toList[j] L[j] = true) ∧ Below w.heap.size w wr) (fun i _ => L.length - (intOf i).toNat)
      case atStart => exact ⟨0, by omega, rfl, fun j _ _ h => by omega, Below.refl _ _⟩
      case round =>
        obtain ⟨k, hk, rfl, hall, hB⟩ := hrel
        have HALL := Lib.hid hall
        have HB := Lib.hid hB
        clear hall hB
        by_cases hlt : k < L.length
        · obtain ⟨b, off, rfl, hbl, c0, c1, c2⟩ := HL.out.later HB.out k hlt
          have hks : k < s.size := by omega
          have hks2 : k < s.data.toList.length := by rw [HSZ.out]; exact hks
          have HBY := Lib.hid (byte_at s k hks)
          obtain ⟨f, hf⟩ : ∃ f, L[k] = f := ⟨_, rfl⟩
          have HF := Lib.hid hf
          rw [hf] at c0 c1 c2
          have KF := Lib.hid (fun w => fits_c s[k] f w)
          unfold Fd.val at KF
          have p0 : (0 : Int) ≤ (k : Int) := by omega
          have p1 : (k : Int) < (L.length : Int) := by omega
          have p2 : (k : Int) < (s.size : Int) := by omega
          clear hf
          cases hfb : fitsB s[k] f with
          | true =>
            rw [hfb] at KF
            have HN := Lib.hid (show ∀ j (hj : j < L.length) (hk : j < s.data.toList.length), j < k + 1 → fitsB s.data.toList[j] L[j] = true by
              intro j hj hk' h
              by_cases h' : j = k
              · subst h'; rw [HBY.out, HF.out]; exact hfb
              · exact HALL.out j hj hk' (by omega))
            clear hfb
            go_wp2_with fail
            go_region_with (first | (go_at_call 56; refine (KF.out _).mono ?_; rintro e w2 ⟨rfl, b2⟩))
            all_goals have B2 := Lib.hid (HB.out.trans ((((Below.refl wr.heap.size wr).drew).trans b2).mono HB.out.size))
            all_goals clear b2
            all_goals go_wp2_with fail
            all_goals exact ⟨⟨k + 1, by omega, by simp, HN.out, B2.out⟩, by simp [intOf]; omega⟩
          | false =>
            rw [hfb] at KF
            have HR := Lib.hid (fit_no (K := s.data.toList) (L := L) k hlt hks2 (by rw [HBY.out, HF.out]; exact hfb))
            clear hfb
            go_wp2_with fail
            go_region_with (first | (go_at_call 56; refine (KF.out _).mono ?_; rintro e w2 ⟨rfl, b2⟩))
            all_goals have B2 := Lib.hid (HB.out.trans ((((Below.refl wr.heap.size wr).drew).trans b2).mono HB.out.size))
            all_goals clear b2
            all_goals go_wp2_with fail
            all_goals go_ret
            all_goals exact ⟨by rw [HR.out]; rfl, B2.out⟩
        · have HR := Lib.hid (fit_yes (K := s.data.toList) (L := L) HK.out (by rw [HSZ.out]; omega) (fun j hj => HALL.out j hj (by rw [HSZ.out]; omega) (by omega)))
          have p1 : ¬ (k : Int) < (L.length : Int) := by omega
          go_wp2_with fail
          go_ret
          exact ⟨by rw [HR.out]; rfl, HB.out⟩
end Go.Proofs.Ytialjglgkfcdmaa.Or
