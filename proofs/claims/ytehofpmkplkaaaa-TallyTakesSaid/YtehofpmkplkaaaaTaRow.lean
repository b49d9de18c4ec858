/- The contract of package tally's Row. -/
import Derived.Test.YtehofpmkplkaaaaTaPut3
namespace Go.Proofs.Ytehofpmkplkaaaa.Tal
open Go.RowKit

def txts : List ByteArray → List UInt8
  | [] => []
  | s :: L => txt s.data.toList ++ txts L
def row (L : List ByteArray) : List UInt8 := Ta.num L.length ++ txts L
def total (L : List ByteArray) : Nat := (L.map ByteArray.size).sum
theorem txts_append (L M : List ByteArray) : txts (L ++ M) = txts L ++ txts M := by
  induction L with
  | nil => rfl
  | cons s L ih => simp [txts, ih]
theorem txt_len (s : List UInt8) (h : s.length < 18446744073709551616) : (txt s).length ≤ 10 + s.length := by
  have := Ta.num_len s.length h
  unfold txt; simp; omega
theorem txts_len (L : List ByteArray) (h : ∀ s ∈ L, s.size < 18446744073709551616) : (txts L).length ≤ 10 * L.length + total L := by
  induction L with
  | nil => simp [txts]
  | cons s L ih =>
    have h1 := ih (fun x hx => h x (by simp [hx]))
    have h2 := txt_len s.data.toList (by have := h s (by simp); simpa using this)
    have h3 : s.data.toList.length = s.size := by simp
    simp [txts, total] at *
    omega
theorem total_take (L : List ByteArray) (k : Nat) : total (L.take k) ≤ total L := by
  have h : total L = total (L.take k) + total (L.drop k) := by
    unfold total
    rw [← List.sum_append, ← List.map_append, List.take_append_drop]
  omega
theorem total_mem (L : List ByteArray) (s : ByteArray) (h : s ∈ L) : s.size ≤ total L := by
  induction L with
  | nil => simp at h
  | cons t L ih =>
    rcases List.mem_cons.1 h with rfl | h
    · simp [total]
    · have := ih h; simp [total] at *; omega
theorem txts_take (L : List ByteArray) (k : Nat) (h : k < L.length) : txts (L.take (k + 1)) = txts (L.take k) ++ txt L[k].data.toList := by
  rw [List.take_succ_eq_append_getElem h, txts_append]
  simp [txts]


/-- A slice of strings: its cells. -/
def Strs (w : World) (a : Option Addr) (L : List ByteArray) : Prop :=
  ∀ j (h : j < L.length), ∃ b off, a = some ⟨b, off, none⟩ ∧ b < w.heap.size ∧ w.cell? ⟨b, off + j, none⟩ = some (.string L[j])
theorem Strs.later {w w' : World} {a : Option Addr} {L : List ByteArray} (h : Strs w a L) (hb : Below w.heap.size w w') : Strs w' a L := by
  intro j hj
  obtain ⟨b, off, ha, hlt, hc⟩ := h j hj
  exact ⟨b, off, ha, Nat.lt_of_lt_of_le hlt hb.size, by rw [hb.cell (by simpa using hlt)]; exact hc⟩
set_option maxRecDepth 100000 in
set_option maxHeartbeats 800000 in
theorem row_c (w : World) (a : Option Addr) (cap : Nat) (L : List ByteArray) (hL : Strs w a L) (hl : L.length ≤ 1073741824) (ht : total L ≤ 1073741824) :
    Calls Try.prog 22 #[.slice a L.length cap] w (PutRes (row L) w) := by
  have K := Lib.hid (addNum_c w.heap.size (.slice none 0 0) [] L.length w (Nat.le_refl _) (World.ownsRow_nil w _ _ _) (by omega) (by simp))
  have HT := Lib.hid ht
  have HLS := Lib.hid hL
  clear ht hL
  go_enter Try.func22, Try.ntmps22
  go_wp2_with fail
  refine K.out.mono ?_
  rintro e w1 ⟨v, rfl, hv, b1⟩
  have HV := Lib.hid hv
  have HB := Lib.hid b1
  clear hv b1 K
  go_wp2_with fail
  go_loopw [3, 12] (fun s3 s12 wr => ∃ k : Nat, k ≤ L.length ∧ s12 = .int .i64 k ∧ wr.ownsRow w.heap.size 5 1 s3 (Ta.num L.length ++ txts (L.take k)).length ((Ta.num L.length ++ txts (L.take k)).map bv) ∧ Below w.heap.size w wr) (fun _ s12 _ => L.length - (intOf s12).toNat)
  case atStart => exact ⟨0, by omega, rfl, by simpa [txts] using HV.out, HB.out⟩
  case round =>
    obtain ⟨k, hk, rfl, hown, hB⟩ := hrel
    have HO := Lib.hid hown
    have HB2 := Lib.hid hB
    clear hown hB HV HB
    by_cases hlt : k < L.length
    · obtain ⟨b, off, rfl, hb, hcell0⟩ := HLS.out k hlt
      have hcell := Lib.hid (show _ = _ from (HB2.out.cell (p := ⟨b, off + k, none⟩) (by simpa using hb)).trans hcell0)
      clear hcell0
      have hcell := hcell.out
      have hbd : (Ta.num L.length ++ txts (L.take k)).length + L[k].size ≤ 1099511627776 := by
        have h1 := Ta.num_len L.length (by omega)
        have h2 := txts_len (L.take k) (fun x hx => by have := total_mem L x (List.mem_of_mem_take hx); have := HT.out; omega)
        have h3 := total_take L k
        have h4 := total_mem L L[k] (by simp)
        have h5 := HT.out
        simp at h2 ⊢
        omega
      have K2 := Lib.hid (fun v h => addText_c w.heap.size v _ L[k] _ HB2.out.size h hbd)
      clear hbd
      go_wp2_with fail
      refine (K2.out _ HO.out).mono ?_
      rintro e w2 ⟨v2, rfl, hv2, b2⟩
      go_wp2_with fail
      go_round
      case rel => exact ⟨k + 1, by omega, by simp, by rw [txts_take L k hlt, ← List.append_assoc]; exact hv2, HB2.out.trans b2⟩
      case measure => simp [intOf]; omega
    · obtain rfl : k = L.length := by omega
      have hc := own_str HO.out
      rw [List.take_length] at hc
      go_wp2_with fail
      go_ret
      exact ⟨rfl, HB2.out⟩
end Go.Proofs.Ytehofpmkplkaaaa.Tal
