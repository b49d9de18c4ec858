/- The contracts of package tally's putters: Long, Text, Row. -/
import Derived.Test.YtialjglgkfcdmaaTcPut2
namespace Go.Proofs.Ytialjglgkfcdmaa.Tal
open Go.RowKit

/-- The bytes of a string. -/
def txt (s : List UInt8) : List UInt8 := Ta.num s.length ++ s
theorem strCells_bv (s : ByteArray) : Lib.strCells s = s.data.toList.map bv := rfl
set_option maxRecDepth 100000 in
theorem addText_c (base : Nat) (v : Value) (bs : List UInt8) (s : ByteArray) (w : World) (hbase : base ≤ w.heap.size) (hown : w.ownsRow base 5 1 v bs.length (bs.map bv)) (hlen : bs.length + s.size ≤ 1099511627776) :
    Calls Try.prog 55 #[v, .string s] w fun e w' => ∃ v', e = .returned v' ∧ w'.ownsRow base 5 1 v' (bs ++ txt s.data.toList).length ((bs ++ txt s.data.toList).map bv) ∧ Below base w w' := by
  have hnl := Ta.num_len s.size (by omega)
  have HO := Lib.hid hown
  have K := Lib.hid (addNum_c base v bs s.size w hbase hown (by omega) (by omega))
  obtain ⟨i0, hi, hz0, hz1, hz2⟩ := info_parts Try.infoT5
  clear hown
  have hs : s.size ≤ 9223372036854775807 := by omega
  go_enter Try.func55, Try.ntmps55
  go_wp2_with fail
  refine K.out.mono ?_
  rintro e w1 ⟨v1, rfl, hv, b1⟩
  have HV := Lib.hid hv
  clear hv
  go_wp2_with (at_builtin; refine Lib.wpList_append_own_string _ rfl _ _ 78 9 rfl base 5 i0 und_bytes und_str hi hz0 hz1 hz2 _ _ _ rfl HV.out s rfl ?c1 ?c2 ?c3 ?_)
  case c1 => unfold maxLen; simp; omega
  case c2 => simp; omega
  case c3 => exact Nat.le_trans hbase b1.size
  intro v' w' hown' hgrow _
  go_wp2
  go_ret
  refine ⟨v', rfl, ?_, b1.grown hgrow (Nat.le_trans hbase b1.size) (fun k hk => own_ge HV.out hk)⟩
  rw [strCells_bv] at hown'
  simpa [txt, Nat.add_assoc] using hown'

set_option maxRecDepth 100000 in
theorem text_c (s : ByteArray) (w : World) (hs : s.size ≤ 1099511627776) :
    Calls Try.prog 35 #[.string s] w (PutRes (txt s.data.toList) w) := by
  have K := Lib.hid (addText_c w.heap.size (.slice none 0 0) [] s w (Nat.le_refl _) (World.ownsRow_nil w _ _ _) (by simpa using hs))
  clear hs
  go_enter Try.func35, Try.ntmps35
  go_wp2_with fail
  refine K.out.mono ?_
  rintro e w1 ⟨v, rfl, hv, b1⟩
  have hc := own_str hv
  simp only [List.nil_append] at hc
  go_wp2_with fail
  go_ret
  exact ⟨rfl, b1⟩
end Go.Proofs.Ytialjglgkfcdmaa.Tal
