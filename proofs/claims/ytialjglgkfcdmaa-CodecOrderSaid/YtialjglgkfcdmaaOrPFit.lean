/- Package order: Fit. -/
import Derived.Test.YtialjglgkfcdmaaOrSame
namespace Go.Proofs.Ytialjglgkfcdmaa.Or
open Go.RowKit
theorem size_nil {s : ByteArray} (h : s.size = 0) : s = ⟨#[]⟩ := by
  apply ByteArray.ext
  apply Array.ext'
  have e : s.data.toList.length = 0 := by simpa using h
  rw [List.length_eq_zero_iff.1 e]
theorem only_fits (c : UInt8) (f : Fd) : fitsB c f = true ↔ f = f.only c := by
  obtain ⟨n, i, s⟩ := f
  unfold fitsB Fd.only
  split
  · simp only [Bool.and_eq_true, decide_eq_true_eq, Fd.mk.injEq, true_and]
    exact ⟨fun h => ⟨h.1, size_nil h.2⟩, fun h => ⟨h.1, by rw [h.2]; rfl⟩⟩
  · split
    · simp only [Bool.and_eq_true, decide_eq_true_eq, Fd.mk.injEq, true_and]
      exact ⟨fun h => ⟨h.1, size_nil h.2⟩, fun h => ⟨h.1, by rw [h.2]; rfl⟩⟩
    · simp
theorem new_fd (w : World) (f : Fd) (t : TypeId := 59) : (w.alloc (.cells #[.int .u64 f.n, .int .i64 f.i, .string f.s] t)).cell? ⟨w.heap.size, 0, none⟩ = some (.int .u64 f.n) ∧ (w.alloc (.cells #[.int .u64 f.n, .int .i64 f.i, .string f.s] t)).cell? ⟨w.heap.size, 1, none⟩ = some (.int .i64 f.i) ∧ (w.alloc (.cells #[.int .u64 f.n, .int .i64 f.i, .string f.s] t)).cell? ⟨w.heap.size, 2, none⟩ = some (.string f.s) := by
  refine ⟨?_, ?_, ?_⟩ <;> rw [World.cell?_alloc_at _ _ _ _ rfl] <;> rfl
set_option maxRecDepth 100000 in
set_option maxHeartbeats 1600000 in
theorem pfit_c (s : ByteArray) (w : World) (a : Option Addr) (cap : Nat) (L : List Fd) (hL : Fds w a L) (hs : s.size ≤ 1000000) (hl : L.length ≤ 1000000) :
    Calls Try.prog 53 #[.string s, .slice a L.length cap] w fun e w' => e = .returned (.bool (fitB s.data.toList L)) ∧ Below w.heap.size w w' := by
  have HL := Lib.hid hL
  have KK := Lib.hid (fun w => kinds_c s w (by omega))
  have hsz : s.data.toList.length = s.size := by simp
  have HSZ := Lib.hid hsz
  clear hL hsz
  cases hk : kindsB s.data.toList with
  | false =>
    have HR := Lib.hid (fit_kinds (L := L) hk)
    rw [hk] at KK
    clear hk
    go_enter Try.func53, Try.ntmps53
    go_wp2_with fail
    refine (KK.out _).mono ?_
    rintro e w' ⟨rfl, rfl⟩
    go_wp2_with fail
    go_ret
    exact ⟨by rw [HR.out]; rfl, Below.refl _ _⟩
  | true =>
    have HK := Lib.hid hk
    rw [hk] at KK
    clear hk
    by_cases hlen : s.size < L.length
    · have HR := Lib.hid (fit_long (K := s.data.toList) (L := L) (by rw [HSZ.out]; exact hlen))
      have q1 : (s.size : Int) < (L.length : Int) := by omega
      go_enter Try.func53, Try.ntmps53
      go_wp2_with fail
      refine (KK.out _).mono ?_
      rintro e w' ⟨rfl, rfl⟩
      go_wp2_with fail
      go_ret
      exact ⟨by rw [HR.out]; rfl, Below.refl _ _⟩
    · have q1 : (L.length : Int) ≤ (s.size : Int) := by omega
      go_enter Try.func53, Try.ntmps53
      go_wp2_with fail
      refine (KK.out _).mono ?_
      rintro e w' ⟨rfl, rfl⟩
      go_wp2_with fail
      go_loopw [5, 6, 19] (fun _ _ i wr => ∃ k : Nat, k ≤ L.length ∧ i = .int .i64 k ∧ (∀ j (hj : j < L.length) (hk : j < s.data.toList.length), j < k → fitsB s.data.toList[j] L[j] = true) ∧ Below w.heap.size w wr) (fun _ _ i _ => L.length - (intOf i).toNat)
      case atStart => exact ⟨0, by omega, rfl, fun j _ _ h => by omega, Below.refl _ _⟩
      case round =>
        obtain ⟨k, hk, rfl, hall, hB⟩ := hrel
        have HALL := Lib.hid hall
        have HB := Lib.hid hB
        clear hall hB
        by_cases hlt : k < L.length
        · obtain ⟨b, off, rfl, hbl, c0, c1, c2⟩ := HL.out.later HB.out k hlt
          have hks : k < s.size := by omega
          have hks2 : k < s.data.toList.length := by rw [HSZ.out]; exact hks
          have HBY := Lib.hid (byte_at s k hks)
          obtain ⟨f, hf⟩ : ∃ f, L[k] = f := ⟨_, rfl⟩
          have HF := Lib.hid hf
          rw [hf] at c0 c1 c2
          have KF := Lib.hid (fun w => only_c s[k] f w)
          unfold Fd.val at KF
          have p0 : (0 : Int) ≤ (k : Int) := by omega
          have p1 : (k : Int) < (L.length : Int) := by omega
          have p2 : (k : Int) < (s.size : Int) := by omega
          clear hf
          cases hfb : fitsB s[k] f with
          | true =>
            rw [← (only_fits _ _).1 hfb] at KF
            have HN := Lib.hid (show ∀ j (hj : j < L.length) (hk : j < s.data.toList.length), j < k + 1 → fitsB s.data.toList[j] L[j] = true by
              intro j hj hk' h
              by_cases h' : j = k
              · subst h'; rw [HBY.out, HF.out]; exact hfb
              · exact HALL.out j hj hk' (by omega))
            clear hfb
            go_wp2_with fail
            have d := new_fd wr f
            have B2 := HB.out.alloc HB.out.size (.cells #[.int .u64 f.n, .int .i64 f.i, .string f.s] 59)
            have hlt3 : wr.heap.size < (wr.alloc (.cells #[.int .u64 f.n, .int .i64 f.i, .string f.s] 59)).heap.size := by simp
            generalize wr.alloc (.cells #[.int .u64 f.n, .int .i64 f.i, .string f.s] 59) = W2 at d B2 hlt3 ⊢
            obtain ⟨Bf, hBf⟩ : ∃ Bf, wr.heap.size = Bf := ⟨_, rfl⟩
            rw [hBf] at d hlt3 ⊢
            have HD := Lib.hid d
            have HB2 := Lib.hid B2
            obtain ⟨d0, d1, d2⟩ := d
            clear B2 hBf c0 c1 c2
            go_region_with (first | (go_at_call 71; refine (KF.out _).mono ?_; rintro e w2 ⟨rfl, b2⟩; have e0 := (b2.cell (p := ⟨Bf, 0, none⟩) hlt3).trans d0; have e1 := (b2.cell (p := ⟨Bf, 1, none⟩) hlt3).trans d1; have e2 := (b2.cell (p := ⟨Bf, 2, none⟩) hlt3).trans d2))
            all_goals have B3 := Lib.hid (HB2.out.trans ((((Below.refl W2.heap.size W2).drew).trans b2).mono HB2.out.size))
            all_goals clear b2 e0 e1 e2
            all_goals go_wp2_with fail
            all_goals exact ⟨⟨k + 1, by omega, by simp, HN.out, B3.out⟩, by simp [intOf]; omega⟩
          | false =>
            have HR := Lib.hid (fit_no (K := s.data.toList) (L := L) k hlt hks2 (by rw [HBY.out, HF.out]; exact hfb))
            have hne : f ≠ f.only s[k] := fun e => by rw [(only_fits _ _).2 e] at hfb; cases hfb
            generalize f.only s[k] = g at KF hne
            clear hfb
            rcases fd_ne hne with ⟨b1, -⟩ | ⟨b1, b2, -⟩ | ⟨b1, b2, b3, -⟩
            · clear hne
              go_wp2_with fail
              have d := new_fd wr f
              have B2 := HB.out.alloc HB.out.size (.cells #[.int .u64 f.n, .int .i64 f.i, .string f.s] 59)
              have hlt3 : wr.heap.size < (wr.alloc (.cells #[.int .u64 f.n, .int .i64 f.i, .string f.s] 59)).heap.size := by simp
              generalize wr.alloc (.cells #[.int .u64 f.n, .int .i64 f.i, .string f.s] 59) = W2 at d B2 hlt3 ⊢
              obtain ⟨Bf, hBf⟩ : ∃ Bf, wr.heap.size = Bf := ⟨_, rfl⟩
              rw [hBf] at d hlt3 ⊢
              have HD := Lib.hid d
              have HB2 := Lib.hid B2
              obtain ⟨d0, d1, d2⟩ := d
              clear B2 hBf c0 c1 c2
              go_region_with (first | (go_at_call 71; refine (KF.out _).mono ?_; rintro e w2 ⟨rfl, bw⟩; have e0 := (bw.cell (p := ⟨Bf, 0, none⟩) hlt3).trans d0; have e1 := (bw.cell (p := ⟨Bf, 1, none⟩) hlt3).trans d1; have e2 := (bw.cell (p := ⟨Bf, 2, none⟩) hlt3).trans d2))
              all_goals have B3 := Lib.hid (HB2.out.trans ((((Below.refl W2.heap.size W2).drew).trans bw).mono HB2.out.size))
              all_goals clear bw e0 e1 e2
              all_goals go_wp2_with fail
              all_goals go_ret
              all_goals exact ⟨by rw [HR.out]; rfl, B3.out⟩
            · clear hne
              go_wp2_with fail
              have d := new_fd wr f
              have B2 := HB.out.alloc HB.out.size (.cells #[.int .u64 f.n, .int .i64 f.i, .string f.s] 59)
              have hlt3 : wr.heap.size < (wr.alloc (.cells #[.int .u64 f.n, .int .i64 f.i, .string f.s] 59)).heap.size := by simp
              generalize wr.alloc (.cells #[.int .u64 f.n, .int .i64 f.i, .string f.s] 59) = W2 at d B2 hlt3 ⊢
              obtain ⟨Bf, hBf⟩ : ∃ Bf, wr.heap.size = Bf := ⟨_, rfl⟩
              rw [hBf] at d hlt3 ⊢
              have HD := Lib.hid d
              have HB2 := Lib.hid B2
              obtain ⟨d0, d1, d2⟩ := d
              clear B2 hBf c0 c1 c2
              go_region_with (first | (go_at_call 71; refine (KF.out _).mono ?_; rintro e w2 ⟨rfl, bw⟩; have e0 := (bw.cell (p := ⟨Bf, 0, none⟩) hlt3).trans d0; have e1 := (bw.cell (p := ⟨Bf, 1, none⟩) hlt3).trans d1; have e2 := (bw.cell (p := ⟨Bf, 2, none⟩) hlt3).trans d2))
              all_goals have B3 := Lib.hid (HB2.out.trans ((((Below.refl W2.heap.size W2).drew).trans bw).mono HB2.out.size))
              all_goals clear bw e0 e1 e2
              all_goals go_wp2_with fail
              all_goals go_ret
              all_goals exact ⟨by rw [HR.out]; rfl, B3.out⟩
            · clear hne
              go_wp2_with fail
              have d := new_fd wr f
              have B2 := HB.out.alloc HB.out.size (.cells #[.int .u64 f.n, .int .i64 f.i, .string f.s] 59)
              have hlt3 : wr.heap.size < (wr.alloc (.cells #[.int .u64 f.n, .int .i64 f.i, .string f.s] 59)).heap.size := by simp
              generalize wr.alloc (.cells #[.int .u64 f.n, .int .i64 f.i, .string f.s] 59) = W2 at d B2 hlt3 ⊢
              obtain ⟨Bf, hBf⟩ : ∃ Bf, wr.heap.size = Bf := ⟨_, rfl⟩
              rw [hBf] at d hlt3 ⊢
              have HD := Lib.hid d
              have HB2 := Lib.hid B2
              obtain ⟨d0, d1, d2⟩ := d
              clear B2 hBf c0 c1 c2
              go_region_with (first | (go_at_call 71; refine (KF.out _).mono ?_; rintro e w2 ⟨rfl, bw⟩; have e0 := (bw.cell (p := ⟨Bf, 0, none⟩) hlt3).trans d0; have e1 := (bw.cell (p := ⟨Bf, 1, none⟩) hlt3).trans d1; have e2 := (bw.cell (p := ⟨Bf, 2, none⟩) hlt3).trans d2))
              all_goals have B3 := Lib.hid (HB2.out.trans ((((Below.refl W2.heap.size W2).drew).trans bw).mono HB2.out.size))
              all_goals clear bw e0 e1 e2
              all_goals go_wp2_with fail
              all_goals go_ret
              all_goals exact ⟨by rw [HR.out]; rfl, B3.out⟩
        · have HR := Lib.hid (fit_yes (K := s.data.toList) (L := L) HK.out (by rw [HSZ.out]; omega) (fun j hj => HALL.out j hj (by rw [HSZ.out]; omega) (by omega)))
          have p1 : ¬ (k : Int) < (L.length : Int) := by omega
          go_wp2_with fail
          go_ret
          exact ⟨by rw [HR.out]; rfl, HB.out⟩
end Go.Proofs.Ytialjglgkfcdmaa.Or
