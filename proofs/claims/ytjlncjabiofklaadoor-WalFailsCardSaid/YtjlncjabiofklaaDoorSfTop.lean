/- Packages sheaf and quittanceref04: the greatest number at the heads. -/
import Derived.Test.YtjlncjabiofklaaDoorRgB
import Derived.Test.YtjlncjabiofklaaDoorRgD
import Derived.Test.YtjlncjabiofklaaDoorRgA
import Derived.IntWalk
namespace Go.Proofs.YtjlncjabiofklaaDoor.Shf
open Go.RowKit Tal Le
def topN (L : List ByteArray) (k : Nat) : Nat := Sf.top ((L.take k).map fun s => s.data.toList)
theorem topN_succ (L : List ByteArray) (k : Nat) (h : k < L.length) : topN L (k + 1) = max (topN L k) (Lf.ends L[k].data.toList).1 := by
  unfold topN Sf.top
  rw [List.take_succ_eq_append_getElem h, List.map_append, List.foldl_append]
  rfl
theorem ends_lt (b : List UInt8) : (Lf.ends b).1 < 18446744073709551616 := by
  unfold Lf.ends
  split
  · exact Lf.num_lt8 _ (by simp; omega)
  · show 0 < 18446744073709551616
    omega
set_option maxRecDepth 100000 in
set_option maxHeartbeats 1600000 in
theorem top_c (w : World) (a : Option Addr) (cap : Nat) (L : List ByteArray) (hL : Strs w a L) (hl : L.length ≤ 1073741824) :
    Calls Tryd.prog 32 #[.slice a L.length cap] w fun e w' => e = .returned (.int .u64 (Sf.top (L.map fun s => s.data.toList))) ∧ Below w.heap.size w w' := by
  have HLS := Lib.hid hL
  clear hL
  go_enter Tryd.func32, Tryd.ntmps32
  go_wp2_with fail
  go_loopw [3, 5, 6, 7, 10] (fun t _ _ _ i wr => ∃ k : Nat, k ≤ L.length ∧ i = .int .i64 k ∧ t = .int .u64 (topN L k) ∧ Below w.heap.size w wr) (fun t _ _ _ i _ => L.length - (intOf i).toNat)
  case atStart => exact ⟨0, by omega, rfl, rfl, Below.refl _ _⟩
  case round =>
    obtain ⟨k, hk, rfl, rfl, hB⟩ := hrel
    have HB := Lib.hid hB
    clear hB
    by_cases hlt : k < L.length
    · obtain ⟨b, off, rfl, hbl, hc⟩ := HLS.out k hlt
      have hcell := (HB.out.cell (p := ⟨b, off + k, none⟩) (by simpa using hbl)).trans hc
      have HS := Lib.hid (topN_succ L k hlt)
      obtain ⟨s, hs⟩ : ∃ s, L[k] = s := ⟨_, rfl⟩
      rw [hs] at hcell HS
      have KE := Lib.hid (fun w => ends_c s w)
      have hh := ends_lt s.data.toList
      obtain ⟨h, hhe⟩ : ∃ h, (Lf.ends s.data.toList).1 = h := ⟨_, rfl⟩
      rw [hhe] at HS hh
      have HHE := Lib.hid hhe
      have q0 : (0 : Int) ≤ (k : Int) := by omega
      have q1 : (k : Int) < (L.length : Int) := by omega
      obtain ⟨tt, htt⟩ : ∃ tt, topN L k = tt := ⟨_, rfl⟩
      rw [htt] at HS ⊢
      clear hc hs hhe htt hbl
      go_wp2_with fail
      refine (KE.out _).mono ?_
      rintro e w2 ⟨rfl, b2⟩
      rw [HHE.out]
      have B2 := Lib.hid (HB.out.trans (b2.mono HB.out.size))
      clear b2
      by_cases hle : tt < h
      · have hle2 : (tt : Int) < (h : Int) := by omega
        go_wp2_with fail
        exact ⟨⟨k + 1, by omega, by simp, by rw [HS.out]; rw [Nat.max_eq_right (by omega)], B2.out⟩, by simp [intOf]; omega⟩
      · have hle2 : (h : Int) ≤ (tt : Int) := by omega
        go_wp2_with fail
        exact ⟨⟨k + 1, by omega, by simp, by rw [HS.out]; rw [Nat.max_eq_left (by omega)], B2.out⟩, by simp [intOf]; omega⟩
    · obtain rfl : k = L.length := by omega
      go_wp2_with fail
      go_ret
      exact ⟨by unfold topN; rw [List.take_length]; rfl, HB.out⟩
end Go.Proofs.YtjlncjabiofklaaDoor.Shf
