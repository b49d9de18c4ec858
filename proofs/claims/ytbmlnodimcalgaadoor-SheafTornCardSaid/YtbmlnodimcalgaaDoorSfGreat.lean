/- Package quittancelaw04: sectors that are more than a statement looks at. -/
import Derived.Test.YtbmlnodimcalgaaDoorTsRow
import Derived.IntWalk
namespace Go.Proofs.YtbmlnodimcalgaaDoor.Shf
open Go.RowKit Tal
set_option maxRecDepth 100000 in
set_option maxHeartbeats 1600000 in
theorem great_c (w : World) (a : Option Addr) (ca : Nat) (L : List ByteArray) (hL : Strs w a L) (hl : L.length ≤ 9223372036854775807) (hs9 : ∀ s ∈ L, s.size ≤ 9223372036854775807) :
    Calls Tryd.prog 13 #[.slice a L.length ca] w fun e w' => ∃ b : Bool, e = .returned (.bool b) ∧ (b = false → L.length ≤ 40 ∧ ∀ s ∈ L, s.size ≤ 100) ∧ Below w.heap.size w w' := by
  have HLS := Lib.hid hL
  have HS9 := Lib.hid hs9
  clear hL hs9
  go_enter Tryd.func13, Tryd.ntmps13
  go_wp2_with fail
  go_loopw [3] (fun i wr => ∃ k : Nat, k ≤ L.length ∧ i = .int .i64 k ∧ (∀ s ∈ L.take k, s.size ≤ 100) ∧ Below w.heap.size w wr) (fun i _ => L.length - (intOf i).toNat)
  case atStart => exact ⟨0, by omega, rfl, by simp, Below.refl _ _⟩
  case round =>
    obtain ⟨k, hk, rfl, ht, hB⟩ := hrel
    have HB := Lib.hid hB
    have HTK := Lib.hid ht
    clear hB ht
    by_cases hlt : k < L.length
    · obtain ⟨g1, o1, rfl, hb1, hc1⟩ := HLS.out.later HB.out k hlt
      have e1 := List.take_succ_eq_append_getElem hlt
      have h9 := HS9.out L[k] (List.getElem_mem hlt)
      obtain ⟨s, hs⟩ : ∃ s, L[k] = s := ⟨_, rfl⟩
      rw [hs] at hc1 e1 h9
      have E1 := Lib.hid e1
      have q0 : (0 : Int) ≤ (k : Int) := by omega
      have q1 : (k : Int) < (L.length : Int) := by omega
      clear hb1 hs e1
      by_cases h100 : 100 < s.size
      · have h100' : (100 : Int) < (s.size : Int) := by omega
        go_wp2_with fail
        go_ret
        exact ⟨true, rfl, by simp, HB.out⟩
      · have h100' : (s.size : Int) ≤ 100 := by omega
        go_wp2_with fail
        exact ⟨⟨k + 1, by omega, by simp, fun x hx => by rw [E1.out] at hx; rcases List.mem_append.1 hx with h | h; exact HTK.out x h; rw [List.mem_singleton.1 h]; omega, HB.out⟩, by simp [intOf]; omega⟩
    · obtain rfl : k = L.length := by omega
      go_wp2_with fail
      go_ret
      refine ⟨_, rfl, fun h => ⟨by simp at h; omega, fun s hs => HTK.out s (by rw [List.take_length]; exact hs)⟩, HB.out⟩
end Go.Proofs.YtbmlnodimcalgaaDoor.Shf
