/- Package tally's laws of items: what they look at. -/
import Derived.Test.YtehofpmkplkaaaaTaHead
import Derived.Test.YtehofpmkplkaaaaTaMath5
namespace Go.Proofs.Ytehofpmkplkaaaa.Tal
open Go.RowKit
def isLong (L : List ByteArray) : Bool := L.any (fun s => decide (300 < s.size)) || decide (300 < L.length)
theorem isLong_at (L : List ByteArray) (k : Nat) (h : k < L.length) (hs : 300 < L[k].size) : isLong L = true := by
  unfold isLong
  rw [Bool.or_eq_true]
  exact .inl (List.any_eq_true.2 ⟨L[k], List.getElem_mem h, by simpa using hs⟩)
theorem isLong_not (L : List ByteArray) (h : ∀ k (hk : k < L.length), L[k].size ≤ 300) : isLong L = decide (300 < L.length) := by
  unfold isLong
  have : L.any (fun s => decide (300 < s.size)) = false := by
    rw [List.any_eq_false]
    intro x hx
    obtain ⟨k, hk, rfl⟩ := List.mem_iff_getElem.1 hx
    have := h k hk
    simpa using this
  rw [this, Bool.false_or]
theorem notLong {L : List ByteArray} (h : isLong L = false) : L.length ≤ 300 ∧ ∀ s ∈ L, s.size ≤ 300 := by
  unfold isLong at h
  rw [Bool.or_eq_false_iff] at h
  refine ⟨by simpa using h.2, fun s hs => ?_⟩
  have := List.any_eq_false.1 h.1 s hs
  simpa using this
theorem ret_gt (n : Nat) : Ending.returned (.bool (decide ((300 : Int) < (n : Int)))) = .returned (.bool (decide (300 < n))) := by
  have : ((300 : Int) < (n : Int)) ↔ 300 < n := by omega
  simp only [this]
set_option maxRecDepth 100000 in
theorem islong_c (w : World) (a : Option Addr) (cap : Nat) (L : List ByteArray) (hL : Strs w a L) (hl : L.length ≤ 9223372036854775807) (hz : ∀ s ∈ L, s.size ≤ maxLen) :
    Calls Try.prog 14 #[.slice a L.length cap] w fun e w' => e = .returned (.bool (isLong L)) ∧ Below w.heap.size w w' := by
  have HLS := Lib.hid hL
  have HZ := Lib.hid hz
  clear hL hz
  go_enter Try.func14, Try.ntmps14
  go_wp2_with fail
  go_loop [3] (fun s => ∃ k : Nat, k ≤ L.length ∧ s = .int .i64 k ∧ ∀ j (hj : j < L.length), j < k → L[j].size ≤ 300) (fun s => L.length - (intOf s).toNat)
  case atStart => exact ⟨0, by omega, rfl, fun j _ h => absurd h (by omega)⟩
  case round =>
    obtain ⟨k, hk, rfl, hj0⟩ := hrel
    have HJ := Lib.hid hj0
    clear hj0
    by_cases hlt : k < L.length
    · obtain ⟨b, off, rfl, hb, hcell⟩ := HLS.out k hlt
      have hsz : L[k].size ≤ 9223372036854775807 := by have := HZ.out L[k] (by simp); unfold maxLen at this; omega
      by_cases hs : (300 : Int) < (L[k].size : Int)
      · have HI := Lib.hid (isLong_at L k hlt (by omega))
        go_wp2_with fail
        go_ret
        rw [HI.out]
        exact ⟨rfl, Below.refl _ _⟩
      · have HS := Lib.hid (show L[k].size ≤ 300 by omega)
        go_wp2_with fail
        exact ⟨⟨k + 1, by omega, by simp, fun j hj hjk => by
          rcases Nat.lt_or_eq_of_le (Nat.le_of_lt_succ hjk) with h | rfl
          · exact HJ.out j hj h
          · exact HS.out⟩, by simp [intOf]; omega⟩
    · obtain rfl : k = L.length := by omega
      have HI := Lib.hid (isLong_not L (fun j hj => HJ.out j hj hj))
      go_wp2_with fail
      go_ret
      rw [HI.out]
      exact ⟨ret_gt _, Below.refl _ _⟩
set_option maxRecDepth 100000 in
theorem same_c (w : World) (a a' : Option Addr) (cap cap' : Nat) (L : List ByteArray) (hL : Strs w a L) (hL' : Strs w a' L) (hl : L.length ≤ 9223372036854775807) :
    Calls Try.prog 33 #[.slice a L.length cap, .slice a' L.length cap'] w fun e w' => e = .returned (.bool true) ∧ Below w.heap.size w w' := by
  have H1 := Lib.hid hL
  have H2 := Lib.hid hL'
  clear hL hL'
  go_enter Try.func33, Try.ntmps33
  go_wp2_with fail
  go_loopw [5] (fun s wr => ∃ k : Nat, k ≤ L.length ∧ s = .int .i64 k ∧ Below w.heap.size w wr) (fun s _ => L.length - (intOf s).toNat)
  case atStart => exact ⟨0, by omega, rfl, Below.refl _ _⟩
  case round =>
    obtain ⟨k, hk, rfl, hB⟩ := hrel
    have HB := Lib.hid hB
    clear hB
    by_cases hlt : k < L.length
    · obtain ⟨b, off, rfl, hb, hcell⟩ := H1.out.later HB.out k hlt
      obtain ⟨b', off', rfl, hb', hcell'⟩ := H2.out.later HB.out k hlt
      go_wp2_with fail
      go_quiet (fail)
      go_wp2_with fail
      exact ⟨⟨k + 1, by omega, by simp, HB.out.trans ⟨rfl, rfl, rfl, Nat.le_refl _, fun _ _ => rfl⟩⟩, by simp [intOf]; omega⟩
    · obtain rfl : k = L.length := by omega
      go_wp2_with fail
      go_ret
      exact ⟨rfl, HB.out⟩
/-- An item. -/
def item (n : Nat) (i : Int) (s : ByteArray) (a : Option Addr) (len cap : Nat) (t : ByteArray) : Value := .agg #[.int .u64 n, .int .i64 i, .string s, .slice a len cap, .string t]
def isGreat (s t : ByteArray) (L : List ByteArray) : Bool := decide (3000 < s.size) || decide (3000 < t.size) || isLong L
set_option maxRecDepth 100000 in
theorem great_c (n : Nat) (i : Int) (s t : ByteArray) (w : World) (a : Option Addr) (cap : Nat) (L : List ByteArray) (hL : Strs w a L) (hl : L.length ≤ 9223372036854775807) (hz : ∀ s ∈ L, s.size ≤ maxLen) (hs : s.size ≤ maxLen) (ht : t.size ≤ maxLen) :
    Calls Try.prog 34 #[.agg #[.int .u64 n, .int .i64 i, .string s, .slice a L.length cap, .string t]] w fun e w' => e = .returned (.bool (isGreat s t L)) ∧ Below w.heap.size w w' := by
  have K := Lib.hid (islong_c (w.alloc (.cells #[.int .u64 n, .int .i64 i, .string s, .slice a L.length cap, .string t] 25)) a cap L (hL.later ((Below.refl _ w).alloc (Nat.le_refl _) _)) hl hz)
  unfold maxLen at hs ht
  clear hL hz
  have HG := Lib.hid (show isGreat s t L = (decide (3000 < s.size) || decide (3000 < t.size) || isLong L) from rfl)
  by_cases h1 : (3000 : Int) < (s.size : Int)
  · have HG1 := Lib.hid (show isGreat s t L = true by rw [HG.out, decide_eq_true (show 3000 < s.size by omega)]; simp)
    go_enter Try.func34, Try.ntmps34
    go_wp2_with fail
    go_ret
    rw [HG1.out]
    exact ⟨rfl, (Below.refl _ _).alloc (Nat.le_refl _) _⟩
  · by_cases h2 : (3000 : Int) < (t.size : Int)
    · have HG1 := Lib.hid (show isGreat s t L = true by rw [HG.out, decide_eq_true (show 3000 < t.size by omega)]; simp)
      go_enter Try.func34, Try.ntmps34
      go_wp2_with fail
      go_ret
      rw [HG1.out]
      exact ⟨rfl, (Below.refl _ _).alloc (Nat.le_refl _) _⟩
    · have HG1 := Lib.hid (show isGreat s t L = isLong L by rw [HG.out, decide_eq_false (show ¬ 3000 < s.size by omega), decide_eq_false (show ¬ 3000 < t.size by omega)]; simp)
      go_enter Try.func34, Try.ntmps34
      go_wp2_with fail
      refine K.out.mono ?_
      rintro e w1 ⟨rfl, b1⟩
      go_wp2_with fail
      go_ret
      rw [HG1.out]
      exact ⟨rfl, then_below ((Below.refl _ w).alloc (Nat.le_refl _) _) b1⟩
end Go.Proofs.Ytehofpmkplkaaaa.Tal
