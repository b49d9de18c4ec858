/- Package quittanceref01: rows of strings that are the same. -/
import Derived.Test.YtjlncjabiofklaaDoorRgB
import Derived.IntWalk
namespace Go.Proofs.YtjlncjabiofklaaDoor.Shf
open Go.RowKit Tal
set_option maxRecDepth 100000 in
set_option maxHeartbeats 1600000 in
theorem same_c (w : World) (a b : Option Addr) (ca cb : Nat) (L M : List ByteArray) (hL : Strs w a L) (hM : Strs w b M) (hl : L.length ≤ 1073741824) (hm : M.length ≤ 1073741824) :
    Calls Tryd.prog 30 #[.slice a L.length ca, .slice b M.length cb] w fun e w' => e = .returned (.bool (decide (L = M))) ∧ Below w.heap.size w w' := by
  have HLS := Lib.hid hL
  have HMS := Lib.hid hM
  clear hL hM
  by_cases hlen : L.length = M.length
  · have hz : ((L.length : Int) != (M.length : Int)) = false := by simp [hlen]
    have HLEN := Lib.hid hlen
    go_enter Tryd.func30, Tryd.ntmps30
    go_wp2_with fail
    clear hz
    go_loopw [5] (fun i wr => ∃ k : Nat, k ≤ L.length ∧ i = .int .i64 k ∧ L.take k = M.take k ∧ Below w.heap.size w wr) (fun i _ => L.length - (intOf i).toNat)
    case atStart => exact ⟨0, by omega, rfl, rfl, Below.refl _ _⟩
    case round =>
      obtain ⟨k, hk, rfl, ht, hB⟩ := hrel
      have HB := Lib.hid hB
      have HTK := Lib.hid ht
      clear hB ht
      by_cases hlt : k < L.length
      · have hlt2 : k < M.length := by omega
        have e1 := List.take_succ_eq_append_getElem hlt
        have e2 := List.take_succ_eq_append_getElem hlt2
        obtain ⟨g1, o1, rfl, hb1, hc1⟩ := HLS.out.later HB.out k hlt
        obtain ⟨g2, o2, rfl, hb2, hc2⟩ := HMS.out.later HB.out k hlt2
        obtain ⟨s, hs⟩ : ∃ s, L[k] = s := ⟨_, rfl⟩
        obtain ⟨t, ht⟩ : ∃ t, M[k] = t := ⟨_, rfl⟩
        have HS := Lib.hid hs
        have HT := Lib.hid ht
        rw [hs] at hc1 e1
        rw [ht] at hc2 e2
        have E1 := Lib.hid e1
        have E2 := Lib.hid e2
        have q0 : (0 : Int) ≤ (k : Int) := by omega
        have q1 : (k : Int) < (L.length : Int) := by omega
        have q2 : (k : Int) < (M.length : Int) := by omega
        clear hb1 hb2 hs ht e1 e2
        by_cases hst : s = t
        · subst hst
          go_wp2_with fail
          go_quiet (fail)
          go_wp2_with fail
          exact ⟨⟨k + 1, by omega, rfl, by rw [E1.out, E2.out, HTK.out], below_drewN HB.out _⟩, by simp [intOf]; omega⟩
        · have hb : (!s.toList == t.toList) = true := by
            rw [ByteArray.toList_eq, ByteArray.toList_eq]
            simp only [Bool.not_eq_true', beq_eq_false_iff_ne, ne_eq]
            exact fun h => hst (ByteArray.ext (Array.ext' h))
          have hne : L ≠ M := by
            intro h
            subst h
            exact hst (HS.out.symm.trans HT.out)
          go_wp2_with fail
          go_quiet (fail)
          go_wp2_with fail
          go_ret
          exact ⟨by simp [hne], below_drewN HB.out _⟩
      · obtain rfl : k = L.length := by omega
        go_wp2_with fail
        go_ret
        have e : L = M := by
          have := HTK.out
          rw [List.take_length, HLEN.out, List.take_length] at this
          exact this
        exact ⟨by simp [e], HB.out⟩
  · have hz : ((L.length : Int) != (M.length : Int)) = true := by simp; omega
    have hne : L ≠ M := fun h => hlen (by rw [h])
    go_enter Tryd.func30, Tryd.ntmps30
    go_wp2_with fail
    go_ret
    exact ⟨by simp [hne], Below.refl _ _⟩
end Go.Proofs.YtjlncjabiofklaaDoor.Shf
