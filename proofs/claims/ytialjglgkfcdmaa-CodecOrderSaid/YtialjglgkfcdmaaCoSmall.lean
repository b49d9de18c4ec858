/- Package quittanceref15: Small, SmallFields. -/
import Derived.Test.YtialjglgkfcdmaaCoCheck
import Derived.Test.YtialjglgkfcdmaaOrPut
namespace Go.Proofs.Ytialjglgkfcdmaa.Or
open Go.RowKit
def smallSB (S : Sch) : Bool := (S.idx.all fun z => decide (z.length ≤ 20)) && decide (S.name.size ≤ 60) && decide (S.kinds.size ≤ 40) && decide (S.idx.length ≤ 12)
theorem smallS_of {S : Sch} (h : smallSB S = true) : SmallS S := by
  unfold smallSB at h
  simp only [Bool.and_eq_true, decide_eq_true_eq, List.all_eq_true] at h
  exact ⟨h.1.1.2, h.1.2, h.2, h.1.1.1⟩
theorem smallS_at {S : Sch} {k : Nat} (hk : k < S.idx.length) (h : 20 < S.idx[k].length) : smallSB S = false := by
  rw [← Bool.not_eq_true]
  intro h2
  have := (smallS_of h2).each _ (List.getElem_mem hk)
  omega
theorem smallS_end {S : Sch} (h : ∀ k (hk : k < S.idx.length), ¬ 20 < S.idx[k].length) : smallSB S = (decide (S.name.size ≤ 60) && decide (S.kinds.size ≤ 40) && decide (S.idx.length ≤ 12)) := by
  unfold smallSB
  have : (S.idx.all fun z => decide (z.length ≤ 20)) = true := List.all_eq_true.2 fun z hz => by
    obtain ⟨k, hk, rfl⟩ := List.getElem_of_mem hz
    exact decide_eq_true (by have := h k hk; omega)
  rw [this, Bool.true_and]
set_option maxRecDepth 100000 in
set_option maxHeartbeats 1600000 in
theorem small_c (S : Sch) (w : World) (a : Option Addr) (cap : Nat) (hM : Mat w a S.idx) (hn : S.name.size ≤ maxLen) (hk : S.kinds.size ≤ maxLen) (hi : S.idx.length ≤ maxLen) :
    Calls Try.prog 16 #[S.val a cap] w fun e w' => e = .returned (.bool (smallSB S)) ∧ Below w.heap.size w w' := by
  have SB := Lib.hid (sb_new w S a cap hM 40)
  unfold maxLen at hn hk hi
  unfold Sch.val
  clear hM
  obtain ⟨y0, y1, y2, y3, -, -, -⟩ := SB.out
  go_enter Try.func16, Try.ntmps16
  go_wp2_with fail
  generalize w.alloc (.cells #[.string S.name, .string S.kinds, .int .i64 S.key, .slice a S.idx.length cap] 40) = W0 at SB y0 y1 y2 y3 ⊢
  go_loopw [3] (fun i wr => ∃ k : Nat, k ≤ S.idx.length ∧ i = .int .i64 k ∧ (∀ j (hj : j < S.idx.length), j < k → ¬ 20 < S.idx[j].length) ∧ W0 = wr) (fun i _ => S.idx.length - (intOf i).toNat)
  case atStart => exact ⟨0, by omega, rfl, fun j _ h => by omega, rfl⟩
  case round =>
    obtain ⟨k, hkk, rfl, hall, rfl⟩ := hrel
    have HA := Lib.hid hall
    clear hall
    by_cases hlt : k < S.idx.length
    · have HAT := Lib.hid (smallS_at hlt)
      obtain ⟨b, off, aj, cj, rfl, hb, c, hcj, hi9⟩ := SB.out.mat k hlt
      obtain ⟨z, hz⟩ : ∃ z, S.idx[k] = z := ⟨_, rfl⟩
      have HZ := Lib.hid hz
      rw [hz] at c HAT
      have q0 : (0 : Int) ≤ (k : Int) := by omega
      have q1 : (k : Int) < (S.idx.length : Int) := by omega
      clear hz hi9 hcj
      by_cases h1 : 20 < z.length
      · have HR := Lib.hid (HAT.out h1)
        have q2 : (20 : Int) < (z.length : Int) := by omega
        clear h1
        go_wp2_with fail
        go_ret
        exact ⟨by rw [HR.out]; rfl, SB.out.below⟩
      · have q2 : ¬ (20 : Int) < (z.length : Int) := by omega
        have HN := Lib.hid (show ∀ j (hj : j < S.idx.length), j < k + 1 → ¬ 20 < S.idx[j].length by
          intro j hj h
          rcases Nat.lt_or_ge j k with h3 | h3
          · exact HA.out j hj h3
          · obtain rfl : j = k := by omega
            rw [HZ.out]; exact h1)
        clear h1
        go_wp2_with fail
        exact ⟨⟨k + 1, by omega, by simp, HN.out, trivial⟩, by simp [intOf]; omega⟩
    · obtain rfl : k = S.idx.length := by omega
      have HR := Lib.hid (smallS_end (fun j hj => HA.out j hj hj))
      have q1 : ¬ (S.idx.length : Int) < (S.idx.length : Int) := by omega
      by_cases h1 : S.name.size ≤ 60
      · have d1 : (S.name.size : Int) ≤ 60 := by omega
        have D1 := Lib.hid (decide_eq_true h1)
        by_cases h2 : S.kinds.size ≤ 40
        · have d2 : (S.kinds.size : Int) ≤ 40 := by omega
          have D2 := Lib.hid (decide_eq_true h2)
          by_cases h3 : S.idx.length ≤ 12
          · have d3 : (S.idx.length : Int) ≤ 12 := by omega
            have D3 := Lib.hid (decide_eq_true h3)
            clear h1 h2 h3
            go_wp2_with fail
            go_ret
            exact ⟨by rw [HR.out, D1.out, D2.out, D3.out]; rfl, SB.out.below⟩
          · have d3 : ¬ (S.idx.length : Int) ≤ 12 := by omega
            have D3 := Lib.hid (decide_eq_false h3)
            clear h1 h2 h3
            go_wp2_with fail
            go_ret
            exact ⟨by rw [HR.out, D1.out, D2.out, D3.out]; rfl, SB.out.below⟩
        · have d2 : ¬ (S.kinds.size : Int) ≤ 40 := by omega
          have D2 := Lib.hid (decide_eq_false h2)
          clear h1 h2
          go_wp2_with fail
          go_ret
          exact ⟨by rw [HR.out, D1.out, D2.out]; rfl, SB.out.below⟩
      · have d1 : ¬ (S.name.size : Int) ≤ 60 := by omega
        have D1 := Lib.hid (decide_eq_false h1)
        clear h1
        go_wp2_with fail
        go_ret
        exact ⟨by rw [HR.out, D1.out]; rfl, SB.out.below⟩
def sumS (L : List Fd) : Nat := (L.map fun f => f.s.size).sum
def smallFB (L : List Fd) : Bool := ((L.take 40).all fun f => decide (f.s.size ≤ 9000)) && decide (L.length ≤ 40) && decide (sumS (L.take 40) ≤ 20000)
theorem smallF_of {L : List Fd} (h : smallFB L = true) : L.length ≤ 40 ∧ (∀ f ∈ L, f.s.size ≤ 9000) := by
  unfold smallFB at h
  simp only [Bool.and_eq_true, decide_eq_true_eq, List.all_eq_true] at h
  refine ⟨h.1.2, ?_⟩
  have := h.1.1
  rwa [List.take_of_length_le h.1.2] at this
theorem smallF_at {L : List Fd} {k : Nat} (hk : k < L.length) (_h40 : k < 40) (h : 9000 < L[k].s.size) : smallFB L = false := by
  rw [← Bool.not_eq_true]
  intro h2
  have := (smallF_of h2).2 _ (List.getElem_mem hk)
  omega
theorem smallF_end {L : List Fd} {k : Nat} (hk : k ≤ L.length) (h40 : k ≤ 40) (he : k = L.length ∨ k = 40) (h : ∀ j (hj : j < L.length), j < k → ¬ 9000 < L[j].s.size) : smallFB L = (decide (L.length ≤ 40) && decide (sumS (L.take k) ≤ 20000)) := by
  have e : L.take 40 = L.take k := by
    rcases he with rfl | rfl
    · rw [List.take_of_length_le h40, List.take_length]
    · rfl
  unfold smallFB
  rw [e]
  have : ((L.take k).all fun f => decide (f.s.size ≤ 9000)) = true := List.all_eq_true.2 fun f hf => by
    obtain ⟨j, hj, rfl⟩ := List.getElem_of_mem hf
    rw [List.length_take] at hj
    rw [List.getElem_take]
    exact decide_eq_true (by have := h j (by omega) (by omega); omega)
  rw [this, Bool.true_and]
theorem sumS_next {L : List Fd} {k : Nat} (h : k < L.length) : sumS (L.take (k + 1)) = sumS (L.take k) + L[k].s.size := by
  unfold sumS
  rw [List.take_succ_eq_append_getElem h, List.map_append, List.sum_append]
  simp
set_option maxRecDepth 100000 in
set_option maxHeartbeats 1600000 in
theorem smallF_c (w : World) (a : Option Addr) (cap : Nat) (L : List Fd) (hL : Fds w a L) (hl : L.length ≤ maxLen) (hz : ∀ f ∈ L, f.s.size ≤ maxLen) :
    Calls Try.prog 9 #[.slice a L.length cap] w fun e w' => e = .returned (.bool (smallFB L)) ∧ Below w.heap.size w w' := by
  have HLS := Lib.hid hL
  have HZ := Lib.hid hz
  unfold maxLen at hl
  clear hL hz
  go_enter Try.func9, Try.ntmps9
  go_wp2_with fail
  go_loopw [3, 4] (fun n i wr => ∃ k : Nat, k ≤ L.length ∧ k ≤ 40 ∧ n = .int .i64 (sumS (L.take k) : Int) ∧ i = .int .i64 k ∧ (∀ j (hj : j < L.length), j < k → ¬ 9000 < L[j].s.size) ∧ sumS (L.take k) ≤ 9000 * k ∧ w = wr) (fun _ i _ => 40 - (intOf i).toNat)
  case atStart => exact ⟨0, by omega, by omega, rfl, rfl, fun j _ h => by omega, by simp [sumS], rfl⟩
  case round =>
    obtain ⟨k, hk, hk40, rfl, rfl, hall, hsum, rfl⟩ := hrel
    have HA := Lib.hid hall
    clear hall
    by_cases hlt : k < L.length
    · by_cases h40 : k < 40
      · have HAT := Lib.hid (smallF_at hlt h40)
        obtain ⟨b, off, rfl, hb, c0, c1, c2⟩ := HLS.out k hlt
        have HNX := Lib.hid (sumS_next hlt)
        have hsz := HZ.out _ (List.getElem_mem hlt)
        unfold maxLen at hsz
        obtain ⟨f, hf⟩ : ∃ f, L[k] = f := ⟨_, rfl⟩
        have HF := Lib.hid hf
        rw [hf] at c0 c1 c2 HAT HNX hsz
        have q0 : (0 : Int) ≤ (k : Int) := by omega
        have q1 : (k : Int) < (L.length : Int) := by omega
        have q2 : (k : Int) < 40 := by omega
        clear hf
        by_cases h1 : 9000 < f.s.size
        · have HR := Lib.hid (HAT.out h1)
          have q3 : (9000 : Int) < (f.s.size : Int) := by omega
          clear h1
          go_wp2_with fail
          go_ret
          exact ⟨by rw [HR.out]; rfl, Below.refl _ _⟩
        · have q3 : ¬ (9000 : Int) < (f.s.size : Int) := by omega
          have HN := Lib.hid (show ∀ j (hj : j < L.length), j < k + 1 → ¬ 9000 < L[j].s.size by
            intro j hj h
            rcases Nat.lt_or_ge j k with h3 | h3
            · exact HA.out j hj h3
            · obtain rfl : j = k := by omega
              rw [HF.out]; exact h1)
          have HS9 := Lib.hid (show sumS (L.take (k + 1)) ≤ 9000 * (k + 1) by rw [HNX.out]; omega)
          generalize hs : sumS (L.take k) = m at hsum HNX ⊢
          have HNX2 := Lib.hid (show ((sumS (L.take (k + 1)) : Nat) : Int) = (m : Int) + (f.s.size : Int) by rw [HNX.out]; simp)
          clear h1 hs
          go_wp2_with fail
          exact ⟨⟨k + 1, by omega, by omega, by rw [HNX2.out], by simp, HN.out, HS9.out, trivial⟩, by simp [intOf]; omega⟩
      · obtain rfl : k = 40 := by omega
        have HR := Lib.hid (smallF_end (k := 40) hk (Nat.le_refl _) (.inr rfl) HA.out)
        have q1 : ((40 : Nat) : Int) < (L.length : Int) := by omega
        have D1 := Lib.hid (show decide (L.length ≤ 40) = false from decide_eq_false (by omega))
        have q3 : ¬ (L.length : Int) ≤ 40 := by omega
        have q5 : (40 : Int) < (L.length : Int) := by omega
        go_wp2_with fail
        go_ret
        exact ⟨by rw [HR.out, D1.out]; rfl, Below.refl _ _⟩
    · obtain rfl : k = L.length := by omega
      have HR := Lib.hid (smallF_end (k := L.length) (Nat.le_refl _) hk40 (.inl rfl) HA.out)
      have D1 := Lib.hid (show decide (L.length ≤ 40) = true from decide_eq_true hk40)
      have q1 : ¬ (L.length : Int) < (L.length : Int) := by omega
      have q3 : (L.length : Int) ≤ 40 := by omega
      generalize sumS (L.take L.length) = m at hsum HR ⊢
      by_cases h1 : m ≤ 20000
      · have d1 : (m : Int) ≤ 20000 := by omega
        have D2 := Lib.hid (decide_eq_true h1)
        clear h1
        go_wp2_with fail
        go_ret
        exact ⟨by rw [HR.out, D1.out, D2.out]; rfl, Below.refl _ _⟩
      · have d1 : ¬ (m : Int) ≤ 20000 := by omega
        have D2 := Lib.hid (decide_eq_false h1)
        clear h1
        go_wp2_with fail
        go_ret
        exact ⟨by rw [HR.out, D1.out, D2.out]; rfl, Below.refl _ _⟩
end Go.Proofs.Ytialjglgkfcdmaa.Or
