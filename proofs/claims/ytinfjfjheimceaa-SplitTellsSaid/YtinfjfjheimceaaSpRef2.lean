/- The document's slices: Split. -/
import Derived.Test.YtinfjfjheimceaaSpRef
namespace Go.Proofs.Ytinfjfjheimceaa.Sp
open Go Go.RowKit Go.Lib Go.Proofs.Ytinfjfjheimceaa.So Rf Cm
set_option maxRecDepth 100000 in
set_option maxHeartbeats 1600000 in
theorem rsplit_no (T : Int) (a : Option Addr) (cap : Nat) (l : List Int) (w : World) (hI : Ints w a l) (hr : ∀ x ∈ l, -9223372036854775808 ≤ x ∧ x ≤ 9223372036854775807) (hlen : l.length ≤ 9223372036854775807) (h : good l = false ∨ T < 0 ∨ 4611686018427387904 ≤ T) :
    Calls Try.prog 10 #[.int .i64 T, .slice a l.length cap] w fun e w' => e = .returned (.tuple #[.slice none 0 0, .int .i64 2]) ∧ Below w.heap.size w w' := by
  have K := Lib.hid (rall_c a cap l w hI hr hlen)
  clear hI hr
  cases hg : good l with
  | false =>
    have HG := Lib.hid hg
    clear hg h
    go_enter Try.func10, Try.ntmps10
    go_wp2_with fail
    refine K.out.mono ?_
    rintro e w1 ⟨v, rfl, hv, hb⟩
    rw [HG.out]
    clear hv
    go_wp2_with fail
    go_ret2
    exact ⟨rfl, hb⟩
  | true =>
    have HG := Lib.hid hg
    have h2 : T < 0 ∨ 4611686018427387904 ≤ T := by
      rcases h with h | h
      · rw [hg] at h; cases h
      · exact h
    clear hg h
    rcases h2 with h | h
    · go_enter Try.func10, Try.ntmps10
      go_wp2_with fail
      refine K.out.mono ?_
      rintro e w1 ⟨v, rfl, hv, hb⟩
      rw [HG.out]
      clear hv
      go_wp2_with fail
      go_ret2
      exact ⟨rfl, hb⟩
    · have h' : ¬ T < 0 := by omega
      have h3 : decide (T < 0) = false := decide_eq_false h'
      go_enter Try.func10, Try.ntmps10
      go_wp2_with fail
      refine K.out.mono ?_
      rintro e w1 ⟨v, rfl, hv, hb⟩
      rw [HG.out]
      clear hv
      go_wp2_with fail
      go_ret2
      exact ⟨rfl, hb⟩
/-- Behind t units. -/
structure US (T A : Int) (l : List Int) (w : World) (g1 g2 t : Nat) (wr : World) : Prop where
  o : RowAt wr g1 (orow T A l t)
  r : RowAt wr g2 (rrow T A l t)
  below : Below w.heap.size w wr
def RRes (T : Int) (l : List Int) (w : World) (e : Ending) (w' : World) : Prop := ∃ g c, e = .returned (.tuple #[.slice (some ⟨g, 0, none⟩) l.length c, .int .i64 0]) ∧ Ints w' (some ⟨g, 0, none⟩) (outl T l.sum l) ∧ Below w.heap.size w w'
set_option maxRecDepth 100000 in
set_option maxHeartbeats 4000000 in
theorem rsplit_ok (T : Int) (a : Option Addr) (cap : Nat) (l : List Int) (w : World) (hI : Ints w a l) (hr : ∀ x ∈ l, -9223372036854775808 ≤ x ∧ x ≤ 9223372036854775807) (hg : good l = true) (h0 : 0 ≤ T) (h1 : T < 4611686018427387904) (d : Array Sh) (hS : Sorted T l.sum l d) :
    Calls Try.prog 10 #[.int .i64 T, .slice a l.length cap] w (RRes T l w) := by
  have FI := Lib.hid (fine_of hg h0 h1)
  have hn2 : l.length ≤ 4096 := ((good_iff l).1 hg).1
  have K := Lib.hid (rall_c a cap l w hI hr (by omega))
  obtain ⟨A, hA⟩ : ∃ A, A = l.sum := ⟨_, rfl⟩
  rw [← hA] at FI hS
  have K2 := Lib.hid (fun w h => rshares_c T A a cap l w h hr hg FI.out)
  have HA := Lib.hid hA
  have HG := Lib.hid hg
  have HI := Lib.hid hI
  have HS := Lib.hid hS
  have hn1 : 1 ≤ l.length := by
    rcases Nat.eq_zero_or_pos l.length with e | e
    · have e1 := FI.out.a0; have e2 := FI.out.sum; rw [List.length_eq_zero_iff.1 e] at e2; simp at e2; omega
    · exact e
  obtain ⟨n, hn⟩ : ∃ n, n = l.length := ⟨_, rfl⟩
  rw [← hn] at K K2 hn1 hn2 ⊢
  have HN := Lib.hid hn
  have d1 : decide (T < 0) = false := decide_eq_false (by omega)
  have d2 : decide (4611686018427387904 ≤ T) = false := decide_eq_false (by omega)
  clear hI hr hg hS hn hA
  go_enter Try.func10, Try.ntmps10
  go_wp2_with fail
  refine K.out.mono ?_
  rintro e w1 ⟨v, rfl, hv, hb⟩
  clear hv
  rw [HG.out]
  have HB := Lib.hid hb
  clear hb K
  go_wp2_with fail
  refine (K2.out _ (HI.out.later HB.out)).mono ?_
  rintro e w2 ⟨g1, c1, g2, c2, rfl, hne, hg1, hg2, R1, R2, b2⟩
  rw [← HN.out]
  have hs1 := HB.out.size
  have U0 : Hid (US T A l w g1 g2 0 w2) := ⟨by rw [orow_zero]; exact R1, by rw [rrow_zero]; exact R2, HB.out.trans (b2.mono hs1)⟩
  have hw1 : w.heap.size ≤ g1 := by omega
  have hw2 : w.heap.size ≤ g2 := by omega
  clear R1 R2 b2 HB hs1 hg1 hg2 K2 HI
  go_wp2_with fail
  go_loop [10, 11] (fun s10 s11 => ∃ k : Nat, s10 = .int .i64 (T - sm (fun i => T * l.getD i 0 / A) k) ∧ s11 = .int .i64 (k : Int) ∧ k ≤ n) (fun _ s11 => n - (intOf s11).toNat)
  case atStart => exact ⟨0, by simp [sm], rfl, Nat.zero_le _⟩
  case round =>
    obtain ⟨k, rfl, rfl, hk⟩ := hrel
    by_cases hlt : k < n
    · have hkz : (k : Int) < (n : Int) := by omega
      have hkl : k < l.length := by rw [← HN.out]; exact hlt
      have ck := row_at U0.out.o (Below.refl _ _) (orow_at 0 k hkl)
      rw [if_neg (by omega), Int.add_zero] at ck
      have p0 := FI.out.part k (by omega)
      have p1 := FI.out.part (k + 1) (by omega)
      have hsm : sm (fun i => T * l.getD i 0 / A) (k + 1) = sm (fun i => T * l.getD i 0 / A) k + T * l.getD k 0 / A := rfl
      rw [hsm] at p1
      have HSM := Lib.hid hsm
      clear hsm
      obtain ⟨p0, p0'⟩ := p0
      obtain ⟨p1, p1'⟩ := p1
      generalize T * l.getD k 0 / A = q at *
      generalize sm (fun i => T * l.getD i 0 / A) k = s0 at *
      go_wp2_with fail
      go_round
      case rel => exact ⟨k + 1, by rw [HSM.out]; congr 1; omega, by go_num, by omega⟩
      case measure => simp [intOf]; omega
    · have hkz : ¬ (k : Int) < (n : Int) := by omega
      obtain rfl : n = k := by omega
      obtain ⟨L, hL⟩ : ∃ L, L = Sp.left T A l := ⟨_, rfl⟩
      have eL : T - sm (fun i => T * l.getD i 0 / A) n = L := by rw [hL]; unfold Sp.left; rw [HN.out]
      have hL0 : 0 ≤ L := by rw [hL]; exact FI.out.left_bd.1
      have hL1 : L ≤ (n : Int) := by rw [hL]; have := FI.out.left_le; have := HN.out; omega
      have HL := Lib.hid hL
      rw [eL]
      clear eL hL
      go_wp2_with fail
      go_loopw [10] (fun s10 wr => ∃ t : Nat, s10 = .int .i64 (L - (t : Int)) ∧ (t : Int) ≤ L ∧ Hid (US T A l w g1 g2 t wr)) (fun s10 _ => (intOf s10).toNat)
      case atStart => exact ⟨0, by simp, by simpa using hL0, U0⟩
      case round =>
        clear U0
        obtain ⟨t, rfl, ht, HU⟩ := hrel
        by_cases hlt : (t : Int) < L
        · have hz : 0 < L - (t : Int) := by omega
          have htl : t < l.length := by rw [← HN.out]; omega
          obtain ⟨wq, hwq⟩ : ∃ u : World, u = wr := ⟨_, rfl⟩
          rw [← hwq] at HU ⊢
          clear hwq
          go_wp2_with fail
          go_loopw [12, 13] (fun s12 s13 wr => ∃ b i : Nat, s12 = .int .i64 (b : Int) ∧ s13 = .int .i64 (i : Int) ∧ b < i ∧ i ≤ n ∧ Hid (∀ j, j < i → rr T A l t j ≤ rr T A l t b) ∧ Hid (∀ j, j < b → rr T A l t j < rr T A l t b) ∧ Hid (Below wq.heap.size wq wr)) (fun _ s13 _ => n - (intOf s13).toNat)
          case atStart => exact ⟨0, 1, rfl, rfl, by omega, hn1, Lib.hid (fun j hj => (show j = 0 by omega) ▸ Int.le_refl _), Lib.hid (fun j hj => absurd hj (by omega)), Lib.hid (Below.refl _ _)⟩
          case round =>
            obtain ⟨b, i, rfl, rfl, hbi, hin, H1, H2, HB⟩ := hrel
            have hbl : b < l.length := by have := HN.out; omega
            by_cases hil : i < n
            · have hiz : (i : Int) < (n : Int) := by omega
              have hill : i < l.length := by rw [← HN.out]; exact hil
              have cb := row_at HU.out.r HB.out (rrow_at t b hbl)
              have ci := row_at HU.out.r HB.out (rrow_at t i hill)
              obtain ⟨x, hx⟩ : ∃ x, x = rr T A l t b := ⟨_, rfl⟩
              obtain ⟨y, hy⟩ : ∃ y, y = rr T A l t i := ⟨_, rfl⟩
              rw [← hx] at cb
              rw [← hy] at ci
              have HX := Lib.hid (And.intro hx hy)
              clear hx hy
              by_cases hxy : x < y
              · have e1 : decide (x < y) = true := decide_eq_true hxy
                have HXY := Lib.hid hxy
                go_wp2_with fail
                go_quiet (fail)
                go_wp2_with fail
                refine ⟨⟨i, i + 1, rfl, by go_num, by omega, by omega, fun j hj => ?_, fun j hj => ?_, Lib.hid (drew_below HB.out)⟩, by simp [intOf]; omega⟩
                · by_cases e : j = i
                  · rw [e]; exact Int.le_refl _
                  · have := H1.out j (by omega)
                    have h3 := HXY.out
                    rw [HX.out.1, HX.out.2] at h3
                    omega
                · have := H1.out j hj
                  have h3 := HXY.out
                  rw [HX.out.1, HX.out.2] at h3
                  omega
              · have e1 : decide (x < y) = false := decide_eq_false hxy
                have HXY := Lib.hid hxy
                go_wp2_with fail
                go_quiet (fail)
                go_wp2_with fail
                refine ⟨⟨b, i + 1, rfl, by go_num, by omega, by omega, fun j hj => ?_, H2.out, Lib.hid (drew_below HB.out)⟩, by simp [intOf]; omega⟩
                by_cases e : j = i
                · have h3 := HXY.out
                  rw [HX.out.1, HX.out.2] at h3
                  rw [e]; omega
                · exact H1.out j (by omega)
            · have hiz : ¬ (i : Int) < (n : Int) := by omega
              have hcb := best_is HS.out FI.out htl hbl (fun j hj => H1.out j (by have := HN.out; omega)) H2.out
              have HC := Lib.hid hcb
              clear hcb H1 H2
              have UB : Hid (US T A l w g1 g2 t wr) := ⟨HU.out.o.later HB.out, HU.out.r.later HB.out, HU.out.below.trans (HB.out.mono HU.out.below.size)⟩
              clear HB HU
              have co := row_at UB.out.o (Below.refl _ _) (orow_at t b hbl)
              have fo := UB.out.o.free b (by rw [orow_len]; exact hbl)
              have cr := row_at UB.out.r (Below.refl _ _) (rrow_at t b hbl)
              have fr := UB.out.r.free b (by rw [rrow_len]; exact hbl)
              have l1 := UB.out.o.lt
              have l2 := UB.out.r.lt
              rw [HC.out, if_neg (by omega), Int.add_zero] at co
              obtain ⟨q0, q1, -, -⟩ := FI.out.q b hbl
              have hbn : b < n := by omega
              generalize rr T A l t b = x at cr
              obtain ⟨q, hq⟩ : ∃ q, q = T * l.getD b 0 / A := ⟨_, rfl⟩
              rw [← hq] at co q0 q1
              have HQ := Lib.hid hq
              clear hq
              go_wp2_with fail
              refine ⟨⟨t + 1, by congr 1; omega, by omega, ?_⟩, by simp [intOf]; omega⟩
              refine Lib.hid ⟨?_, ?_, (UB.out.below.setCell (by simpa using hw1) _).setCell (by simpa using hw2) _⟩
              · exact (orow_set hbl HC.out (q + 1) (by rw [HQ.out]) ▸ UB.out.o.set b _).other _ _ (by simp; omega)
              · exact rrow_set hbl HC.out ▸ (UB.out.r.other ⟨g1, b, none⟩ _ (by simp; omega)).set b _
        · have hz : ¬ 0 < L - (t : Int) := by omega
          have htL : (t : Int) = L := by omega
          have HTL := Lib.hid htL
          clear htL
          go_wp2_with fail
          go_ret2
          refine ⟨g1, c1, by rw [← HN.out]; rfl, ?_, HU.out.below⟩
          rw [← HA.out]
          have := HU.out.o
          rw [orow_all FI.out (by rw [HTL.out]; exact HL.out)] at this
          exact ints_row this
end Go.Proofs.Ytinfjfjheimceaa.Sp
