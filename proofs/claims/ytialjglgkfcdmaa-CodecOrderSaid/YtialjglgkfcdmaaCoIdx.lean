/- Package codec: which places an index may have. -/
import Derived.Test.YtialjglgkfcdmaaRows
import Derived.WalkKit
import Derived.WalkSpells
import Derived.WalkLawsBesides
import Derived.Lib.Hide
import Derived.BigQuiet
import Derived.Deep.QuietTactic
import Derived.IntWalk
import Derived.Below
import Derived.Laws.Cover1
namespace Go.Proofs.Ytialjglgkfcdmaa.Or
open Go.RowKit
/-- A slice of ints: its cells. -/
def Ints (w : World) (a : Option Addr) (zs : List Int) : Prop :=
  ∀ j (h : j < zs.length), ∃ b off, a = some ⟨b, off, none⟩ ∧ b < w.heap.size ∧ w.cell? ⟨b, off + j, none⟩ = some (.int .i64 zs[j])
theorem Ints.later {w w' : World} {a : Option Addr} {zs : List Int} (h : Ints w a zs) (hb : Below w.heap.size w w') : Ints w' a zs := by
  intro j hj
  obtain ⟨b, off, ha, hlt, c⟩ := h j hj
  exact ⟨b, off, ha, Nat.lt_of_lt_of_le hlt hb.size, by rw [hb.cell (by simpa using hlt)]; exact c⟩
theorem Ints.take {w : World} {a : Option Addr} {zs : List Int} (h : Ints w a zs) (n : Nat) : Ints w a (zs.take n) := by
  intro j hj
  have hj' : j < zs.length := by rw [List.length_take] at hj; omega
  obtain ⟨b, off, ha, hlt, c⟩ := h j hj'
  exact ⟨b, off, ha, hlt, by rw [List.getElem_take]; exact c⟩
set_option maxRecDepth 100000 in
theorem index_c (w : World) (a : Option Addr) (cap : Nat) (zs : List Int) (v : Int) (hz : Ints w a zs) (hl : zs.length ≤ 1000000) :
    Calls Try.prog 72 #[.slice a zs.length cap, .int .i64 v] w fun e w' => ∃ z : Int, e = .returned (.int .i64 z) ∧ decide (0 ≤ z) = decide (v ∈ zs) ∧ w = w' := by
  have HZ := Lib.hid hz
  clear hz
  go_enter Try.func72, Try.ntmps72
  go_wp2_with fail
  go_loop [5, 8] (fun _ i => ∃ k : Nat, k ≤ zs.length ∧ i = .int .i64 k ∧ v ∉ zs.take k) (fun _ i => zs.length - (intOf i).toNat)
  case atStart => exact ⟨0, by omega, rfl, by simp⟩
  case round =>
    obtain ⟨k, hk, rfl, hno⟩ := hrel
    by_cases hlt : k < zs.length
    · obtain ⟨b, off, rfl, hb, c⟩ := HZ.out k hlt
      have q0 : (0 : Int) ≤ (k : Int) := by omega
      have q1 : (k : Int) < (zs.length : Int) := by omega
      have e1 := List.take_succ_eq_append_getElem hlt
      have hin : zs[k] ∈ zs := List.getElem_mem hlt
      obtain ⟨y, hy⟩ : ∃ y, zs[k] = y := ⟨_, rfl⟩
      rw [hy] at c e1 hin
      by_cases hv : v = y
      · have d : (v == y) = true := beq_iff_eq.2 hv
        have HI := Lib.hid (show v ∈ zs by rw [hv]; exact hin)
        clear hno e1 hin hv
        go_wp2_with fail
        go_ret
        exact ⟨_, rfl, by simp [HI.out], rfl⟩
      · have d : (v == y) = false := beq_eq_false_iff_ne.2 hv
        have HN := Lib.hid (show v ∉ zs.take (k + 1) by
          rw [e1, List.mem_append, List.mem_singleton]
          rintro (h | h)
          · exact hno h
          · exact hv h)
        clear hno e1 hin hv
        go_wp2_with fail
        exact ⟨⟨k + 1, by omega, by simp, HN.out⟩, by simp [intOf]; omega⟩
    · obtain rfl : k = zs.length := by omega
      rw [List.take_length] at hno
      have HN := Lib.hid hno
      clear hno
      go_wp2_with fail
      go_ret
      exact ⟨_, rfl, by simp [HN.out], rfl⟩
set_option maxRecDepth 100000 in
theorem contains_c (w : World) (a : Option Addr) (cap : Nat) (zs : List Int) (v : Int) (hz : Ints w a zs) (hl : zs.length ≤ 1000000) :
    Calls Try.prog 66 #[.slice a zs.length cap, .int .i64 v] w fun e w' => e = .returned (.bool (decide (v ∈ zs))) ∧ w = w' := by
  have K := Lib.hid (index_c w a cap zs v hz hl)
  clear hz
  go_enter Try.func66, Try.ntmps66
  go_wp2_with fail
  refine K.out.mono ?_
  rintro e w1 ⟨z, rfl, hz, rfl⟩
  have HZ := Lib.hid hz
  clear hz
  go_wp2_with fail
  go_ret
  exact ⟨by rw [← HZ.out]; rfl, rfl⟩
def okAt (zs : List Int) (n : Int) (j : Nat) : Bool := match zs[j]? with
  | some p => decide (0 ≤ p) && decide (p < n) && !decide (p ∈ zs.take j)
  | none => false
/-- May an index of so many letters have these places? -/
def placedB (zs : List Int) (n : Int) : Bool := (List.range zs.length).all (okAt zs n) && decide (0 < zs.length)
theorem okAt_at {zs : List Int} {n : Int} {j : Nat} (h : j < zs.length) : okAt zs n j = (decide (0 ≤ zs[j]) && decide (zs[j] < n) && !decide (zs[j] ∈ zs.take j)) := by
  unfold okAt; simp [h]
theorem placed_no {zs : List Int} {n : Int} {j : Nat} (h : j < zs.length) (hn : okAt zs n j = false) : placedB zs n = false := by
  unfold placedB
  have : (List.range zs.length).all (okAt zs n) = false := by
    rw [← Bool.not_eq_true, List.all_eq_true]
    intro hall
    have := hall j (List.mem_range.2 h)
    rw [hn] at this; cases this
  rw [this, Bool.false_and]
theorem placed_all {zs : List Int} {n : Int} (h : ∀ j, j < zs.length → okAt zs n j = true) : placedB zs n = decide (0 < zs.length) := by
  unfold placedB
  have : (List.range zs.length).all (okAt zs n) = true := List.all_eq_true.2 fun j hj => h j (List.mem_range.1 hj)
  rw [this, Bool.true_and]
set_option maxRecDepth 100000 in
set_option maxHeartbeats 800000 in
theorem placed_c (w : World) (a : Option Addr) (cap : Nat) (zs : List Int) (n : Int) (hz : Ints w a zs) (hl : zs.length ≤ 1000000) (hcap : zs.length ≤ cap) :
    Calls Try.prog 47 #[.slice a zs.length cap, .int .i64 n] w fun e w' => e = .returned (.bool (placedB zs n)) ∧ w = w' := by
  have HZ := Lib.hid hz
  clear hz
  go_enter Try.func47, Try.ntmps47
  go_wp2_with fail
  go_loop [5, 6, 9] (fun _ _ i => ∃ k : Nat, k ≤ zs.length ∧ i = .int .i64 k ∧ ∀ j, j < k → okAt zs n j = true) (fun _ _ i => zs.length - (intOf i).toNat)
  case atStart => exact ⟨0, by omega, rfl, fun j h => by omega⟩
  case round =>
    obtain ⟨k, hk, rfl, hall⟩ := hrel
    have HA := Lib.hid hall
    clear hall
    by_cases hlt : k < zs.length
    · have hok := okAt_at (n := n) hlt
      have HK := Lib.hid (fun v => contains_c w a cap (zs.take k) v (HZ.out.take k) (by rw [List.length_take]; omega))
      rw [show (zs.take k).length = k by rw [List.length_take]; omega] at HK
      obtain ⟨b, off, rfl, hb, c⟩ := HZ.out k hlt
      have q0 : (0 : Int) ≤ (k : Int) := by omega
      have q1 : (k : Int) < (zs.length : Int) := by omega
      have q2 : (k : Int) ≤ (cap : Int) := by omega
      obtain ⟨y, hy⟩ : ∃ y, zs[k] = y := ⟨_, rfl⟩
      rw [hy] at c hok
      by_cases h0 : y < 0
      · have HR := Lib.hid (placed_no (n := n) hlt (by rw [hok, decide_eq_false (by omega)]; rfl))
        clear hok
        go_wp2_with fail
        go_ret
        exact ⟨by rw [HR.out]; rfl, rfl⟩
      · by_cases h1 : n ≤ y
        · have HR := Lib.hid (placed_no (n := n) hlt (by rw [hok, decide_eq_false (show ¬ y < n by omega), Bool.and_false]; rfl))
          clear hok
          go_wp2_with fail
          go_ret
          exact ⟨by rw [HR.out]; rfl, rfl⟩
        · by_cases hin : y ∈ zs.take k
          · have HR := Lib.hid (placed_no (n := n) hlt (by rw [hok, decide_eq_true hin]; simp))
            have KC := Lib.hid (HK.out y)
            rw [decide_eq_true hin] at KC
            clear hok hin
            go_wp2_with fail
            refine KC.out.mono ?_
            rintro e w1 ⟨rfl, rfl⟩
            go_wp2_with fail
            go_ret
            exact ⟨by rw [HR.out]; rfl, rfl⟩
          · have HR := Lib.hid (show okAt zs n k = true by rw [hok, decide_eq_true (by omega), decide_eq_true (show y < n by omega), decide_eq_false hin]; rfl)
            have KC := Lib.hid (HK.out y)
            rw [decide_eq_false hin] at KC
            clear hok hin
            go_wp2_with fail
            refine KC.out.mono ?_
            rintro e w1 ⟨rfl, rfl⟩
            go_wp2_with fail
            exact ⟨⟨k + 1, by omega, by simp, fun j hj => by
              rcases Nat.lt_or_ge j k with h | h
              · exact HA.out j h
              · obtain rfl : j = k := by omega
                exact HR.out⟩, by simp [intOf]; omega⟩
    · obtain rfl : k = zs.length := by omega
      have HR := Lib.hid (placed_all HA.out)
      have q1 : ¬ (zs.length : Int) < (zs.length : Int) := by omega
      by_cases hp : 0 < zs.length
      · have q2 : (0 : Int) < (zs.length : Int) := by omega
        have HD := Lib.hid (decide_eq_true hp)
        clear hp
        go_wp2_with fail
        go_ret
        exact ⟨by rw [HR.out, HD.out]; rfl, rfl⟩
      · have q2 : ¬ (0 : Int) < (zs.length : Int) := by omega
        have HD := Lib.hid (decide_eq_false hp)
        clear hp
        go_wp2_with fail
        go_ret
        exact ⟨by rw [HR.out, HD.out]; rfl, rfl⟩
theorem okAt_end {zs : List Int} {n : Int} {j : Nat} (h : j < zs.length) (h0 : ¬ zs[j] < 0) (h1 : ¬ n ≤ zs[j]) (h2 : ∀ k (hk : k < zs.length), k < j → zs[k] ≠ zs[j]) : okAt zs n j = true := by
  rw [okAt_at h, decide_eq_true (by omega), decide_eq_true (show zs[j] < n by omega), decide_eq_false]
  · rfl
  · intro hm
    obtain ⟨k, hk, he⟩ := List.getElem_of_mem hm
    rw [List.length_take] at hk
    rw [List.getElem_take] at he
    exact h2 k (by omega) (by omega) he
theorem okAt_dup {zs : List Int} {n : Int} {j k : Nat} (h : j < zs.length) (hk : k < j) (he : zs[k] = zs[j]) : okAt zs n j = false := by
  rw [okAt_at h, decide_eq_true (show zs[j] ∈ zs.take j by rw [← he]; exact List.mem_take_iff_getElem.2 ⟨k, by omega, rfl⟩)]
  simp
set_option maxRecDepth 100000 in
set_option maxHeartbeats 1600000 in
theorem rindex_c (w : World) (a : Option Addr) (cap : Nat) (zs : List Int) (n : Int) (hz : Ints w a zs) (hl : zs.length ≤ 1000000) :
    Calls Try.prog 48 #[.slice a zs.length cap, .int .i64 n] w fun e w' => e = .returned (.bool (placedB zs n)) ∧ Below w.heap.size w w' := by
  have HZ := Lib.hid hz
  clear hz
  go_enter Try.func48, Try.ntmps48
  go_wp2_with fail
  go_loopw [5, 6] (fun i _ wr => ∃ k : Nat, k ≤ zs.length ∧ i = .int .i64 k ∧ (∀ j, j < k → okAt zs n j = true) ∧ Below w.heap.size w wr) (fun i _ _ => zs.length - (intOf i).toNat)
  case atStart => exact ⟨0, by omega, rfl, fun j h => by omega, Below.refl _ _⟩
  case round =>
    obtain ⟨k, hk, rfl, hall, hB⟩ := hrel
    have HA := Lib.hid hall
    have HB := Lib.hid hB
    clear hall hB
    by_cases hlt : k < zs.length
    · have hok := okAt_at (n := n) hlt
      obtain ⟨b, off, rfl, hb, c⟩ := HZ.out.later HB.out k hlt
      have q0 : (0 : Int) ≤ (k : Int) := by omega
      have q1 : (k : Int) < (zs.length : Int) := by omega
      have HE := Lib.hid (okAt_end (n := n) hlt)
      have HD := Lib.hid (fun j h1 h2 => okAt_dup (n := n) (k := j) hlt h1 h2)
      obtain ⟨y, hy⟩ : ∃ y, zs[k] = y := ⟨_, rfl⟩
      have HY := Lib.hid hy
      rw [hy] at c hok HE HD
      by_cases h0 : y < 0
      · have HR := Lib.hid (placed_no (n := n) hlt (by rw [hok, decide_eq_false (by omega)]; rfl))
        clear hok hy
        go_wp2_with fail
        go_ret
        exact ⟨by rw [HR.out]; rfl, HB.out⟩
      · by_cases h1 : n ≤ y
        · have HR := Lib.hid (placed_no (n := n) hlt (by rw [hok, decide_eq_false (show ¬ y < n by omega), Bool.and_false]; rfl))
          clear hok hy
          go_wp2_with fail
          go_ret
          exact ⟨by rw [HR.out]; rfl, HB.out⟩
        · have HE2 := Lib.hid (HE.out h0 h1)
          clear hok hy
          go_wp2_with fail
          go_loopw [6] (fun i wq => ∃ j : Nat, j ≤ k ∧ i = .int .i64 j ∧ (∀ m (hm : m < zs.length), m < j → zs[m] ≠ y) ∧ Below w.heap.size w wq) (fun i _ => k - (intOf i).toNat)
          case atStart => exact ⟨0, by omega, rfl, fun m _ h => by omega, HB.out⟩
          case round =>
            obtain ⟨j, hj, rfl, hne, hB2⟩ := hrel
            have HN := Lib.hid hne
            have HB2 := Lib.hid hB2
            clear hne hB2
            by_cases hjk : j < k
            · have hjl : j < zs.length := by omega
              obtain ⟨b2, off2, hab, hb2, c2⟩ := HZ.out.later HB2.out j hjl
              simp only [Option.some.injEq, Addr.mk.injEq, and_true] at hab
              obtain ⟨rfl, rfl⟩ := hab
              obtain ⟨b3, off3, hab, hb3, c3⟩ := HZ.out.later HB2.out k hlt
              simp only [Option.some.injEq, Addr.mk.injEq, and_true] at hab
              obtain ⟨rfl, rfl⟩ := hab
              rw [HY.out] at c3
              have p0 : (0 : Int) ≤ (j : Int) := by omega
              have p1 : (j : Int) < (zs.length : Int) := by omega
              have p2 : (j : Int) < (k : Int) := by omega
              obtain ⟨x, hx⟩ : ∃ x, zs[j] = x := ⟨_, rfl⟩
              have HX := Lib.hid hx
              rw [hx] at c2
              clear hx
              by_cases hxy : x = y
              · have d : (x == y) = true := beq_iff_eq.2 hxy
                have HR := Lib.hid (placed_no hlt (HD.out j hjk (by rw [HX.out]; exact hxy)))
                clear hxy
                go_wp2_with fail
                go_quiet (fail)
                go_wp2_with fail
                go_ret
                exact ⟨by rw [HR.out]; rfl, ⟨HB2.out.os, HB2.out.tape, HB2.out.output, HB2.out.size, HB2.out.block⟩⟩
              · have d : (x == y) = false := beq_eq_false_iff_ne.2 hxy
                have HN2 := Lib.hid (show ∀ m (hm : m < zs.length), m < j + 1 → zs[m] ≠ y by
                  intro m hm h
                  rcases Nat.lt_or_ge m j with h2 | h2
                  · exact HN.out m hm h2
                  · obtain rfl : m = j := by omega
                    rw [HX.out]; exact hxy)
                clear hxy
                go_wp2_with fail
                go_quiet (fail)
                go_wp2_with fail
                exact ⟨⟨j + 1, by omega, by simp, HN2.out, ⟨HB2.out.os, HB2.out.tape, HB2.out.output, HB2.out.size, HB2.out.block⟩⟩, by simp [intOf]; omega⟩
            · obtain rfl : j = k := by omega
              have HK := Lib.hid (HE2.out (fun m hm h => HN.out m hm h))
              have p2 : ¬ (j : Int) < (j : Int) := by omega
              go_wp2_with fail
              exact ⟨⟨j + 1, by omega, by simp, fun m hm => by
                rcases Nat.lt_or_ge m j with h | h
                · exact HA.out m h
                · obtain rfl : m = j := by omega
                  exact HK.out, HB2.out⟩, by simp [intOf]; omega⟩
    · obtain rfl : k = zs.length := by omega
      have HR := Lib.hid (placed_all HA.out)
      have q1 : ¬ (zs.length : Int) < (zs.length : Int) := by omega
      by_cases hp : 0 < zs.length
      · have q2 : (0 : Int) < (zs.length : Int) := by omega
        have HD := Lib.hid (decide_eq_true hp)
        clear hp
        go_wp2_with fail
        go_ret
        exact ⟨by rw [HR.out, HD.out]; rfl, HB.out⟩
      · have q2 : ¬ (0 : Int) < (zs.length : Int) := by omega
        have HD := Lib.hid (decide_eq_false hp)
        clear hp
        go_wp2_with fail
        go_ret
        exact ⟨by rw [HR.out, HD.out]; rfl, HB.out⟩
end Go.Proofs.Ytialjglgkfcdmaa.Or
