/- The contracts of the document's own leaf. -/
import Derived.Test.YtbmlnodimcalgaaDoorRows
import Derived.Test.YtbmlnodimcalgaaDoorLfMath
import Derived.Test.YtbmlnodimcalgaaDoorCmRow
import Derived.WalkSpells
import Derived.WalkLawsBesides
import Derived.BigQuiet
import Derived.Deep.QuietTactic
import Derived.Deep.RegionHeld3
import Derived.Deep.LoopGhost
namespace Go.Proofs.YtbmlnodimcalgaaDoor.Le
open Go.RowKit Cm
def bv (c : UInt8) : Value := .int .u8 c.toNat
theorem und_bytes : Tryd.prog.underlying 39 = some (.slice 5) := by kernel_rfl
theorem und_u8 : Tryd.prog.underlying 5 = some (.int .u8) := by kernel_rfl
theorem und_str : Tryd.prog.underlying 9 = some .string := by kernel_rfl
theorem row_str {w : World} {g cap : Nat} {l : List UInt8} (h : RowAt w g (l.map bv)) :
    (convert 39 9 (.slice (some ⟨g, 0, none⟩) l.length cap)).run Tryd.prog w = .ok (.string ⟨l.toArray⟩) w := by
  refine run_convert_bytes_back w _ _ _ ⟨g, 0, none⟩ cap l und_bytes und_u8 und_str ?_
  intro j hj
  have := h.cell j (by simpa using hj)
  rw [Go.WideShapes.add_plain, Nat.zero_add, this]
  simp [bv]
theorem one_str (w : World) (n : Nat) (h : n < 256) : (convert 39 9 (.slice (some ⟨w.heap.size, 0, none⟩) 1 1)).run Tryd.prog (w.alloc (.cells #[.int .u8 n] 5)) = .ok (.string ⟨#[UInt8.ofNat n]⟩) (w.alloc (.cells #[.int .u8 n] 5)) := by
  have e : (.int .u8 n : Value) = bv (UInt8.ofNat n) := by unfold bv; simp; omega
  have h2 := row_new w [bv (UInt8.ofNat n)] 5
  rw [e]
  exact row_str (l := [UInt8.ofNat n]) h2
def szOf : Value → Nat | .string s => s.size | _ => 0
def StrRes (l : List UInt8) (w : World) (e : Ending) (w' : World) : Prop := e = .returned (.string ⟨l.toArray⟩) ∧ Below w.heap.size w w'
theorem cat_mk2 (x y : List UInt8) : (⟨x.toArray⟩ : ByteArray) ++ (⟨y.toArray⟩ : ByteArray) = ⟨(x ++ y).toArray⟩ := by
  apply ByteArray.ext
  apply Array.ext'
  simp
theorem one_cat (c : UInt8) (y : List UInt8) : (⟨#[c]⟩ : ByteArray) ++ (⟨y.toArray⟩ : ByteArray) = ⟨(c :: y).toArray⟩ := cat_mk2 [c] y
theorem be_take (i : Nat) (m : Nat) (s : List UInt8) (n : Nat) (h : Lf.be 8 n = Lf.be (8 - i) m ++ s) (hi : i < 8) : Lf.be 8 n = Lf.be (8 - (i + 1)) (m / 256) ++ (UInt8.ofNat (m % 256) :: s) := by
  rw [h, show 8 - i = (8 - (i + 1)) + 1 by omega]
  show (Lf.be (8 - (i + 1)) (m / 256) ++ [UInt8.ofNat (m % 256)]) ++ s = _
  rw [List.append_assoc]; rfl
set_option maxRecDepth 100000 in
theorem eight_c (n : Nat) (w : World) (hn : n < 18446744073709551616) : Calls Tryd.prog 41 #[.int .u64 n] w (StrRes (Lf.b8 n) w) := by
  go_enter Tryd.func41, Tryd.ntmps41
  go_wp2_with fail
  go_loopw [0, 3, 4] (fun a s i wr => ∃ (k m : Nat) (l : List UInt8), k ≤ 8 ∧ m < 18446744073709551616 ∧ i = .int .i64 k ∧ a = .int .u64 m ∧ s = .string ⟨l.toArray⟩ ∧ l.length = k ∧ Lf.be 8 n = Lf.be (8 - k) m ++ l ∧ Below w.heap.size w wr) (fun _ _ i _ => 8 - (intOf i).toNat)
  case atStart => exact ⟨0, n, [], by omega, hn, rfl, rfl, rfl, rfl, by simp, Below.refl _ _⟩
  case round =>
    obtain ⟨k, m, l, hk, hm, rfl, rfl, rfl, hl, hbe, hB0⟩ := hrel
    have HL := Lib.hid hl
    have HE := Lib.hid hbe
    have HB := Lib.hid hB0
    have hll : l.length ≤ 8 := by omega
    clear hl hbe hB0
    by_cases hlt : k < 8
    · have HT := Lib.hid (be_take k m l n HE.out hlt)
      have h1 := one_str wr (m % 256) (by omega)
      rw [show ((m % 256 : Nat) : Int) = (m : Int) % 256 by omega] at h1
      go_wp2_with fail
      exact ⟨⟨k + 1, m / 256, UInt8.ofNat (m % 256) :: l, by omega, by omega, by simp, by simp, by rw [one_cat], by simp [HL.out], HT.out, HB.out.alloc HB.out.size _⟩, by simp [intOf]; omega⟩
    · obtain rfl : k = 8 := by omega
      go_wp2_with fail
      go_ret
      exact ⟨by rw [show Lf.b8 n = l from HE.out]; rfl, HB.out⟩
theorem ext_one (s : ByteArray) (k : Nat) (h : k < s.size) : s.extract k (k + 1) = ⟨#[s[k]]⟩ := by
  apply ByteArray.ext
  apply Array.ext'
  simp
  rw [List.drop_eq_getElem_cons (by simpa using h)]
  simp
  rfl
set_option maxRecDepth 100000 in
theorem turned_c (s : ByteArray) (w : World) (hs : s.size ≤ 1000000) : Calls Tryd.prog 43 #[.string s] w (StrRes s.data.toList.reverse w) := by
  go_enter Tryd.func43, Tryd.ntmps43
  go_wp2_with fail
  go_loopw [3, 4] (fun t i wr => ∃ k : Nat, k ≤ s.size ∧ i = .int .i64 k ∧ t = .string ⟨(s.data.toList.take k).reverse.toArray⟩ ∧ Below w.heap.size w wr) (fun _ i _ => s.size - (intOf i).toNat)
  case atStart => exact ⟨0, by omega, rfl, by simp, Below.refl _ _⟩
  case round =>
    obtain ⟨k, hk, rfl, rfl, hB0⟩ := hrel
    have HB := Lib.hid hB0
    clear hB0
    by_cases hlt : k < s.size
    · have HX := Lib.hid (ext_one s k hlt)
      have HS := Lib.hid (show (s.data.toList.take (k + 1)).reverse = s[k] :: (s.data.toList.take k).reverse by
        rw [List.take_succ_eq_append_getElem (by simpa using hlt)]; simp; rfl)
      have hl : (s.data.toList.take k).reverse.length ≤ k := by simp; omega
      generalize (s.data.toList.take k).reverse = l at *
      have q0 : (0 : Int) ≤ (k : Int) := by omega
      have q1 : (k : Int) + 1 ≤ (s.size : Int) := by omega
      go_wp2_with fail
      exact ⟨⟨k + 1, by omega, by simp, by rw [HX.out, one_cat, HS.out], HB.out⟩, by simp [intOf]; omega⟩
    · obtain rfl : k = s.size := by omega
      go_wp2_with fail
      go_ret
      exact ⟨by rw [List.take_of_length_le (by simp)]; rfl, HB.out⟩
theorem zero_cat (l : List UInt8) (k : Nat) : (⟨(l ++ List.replicate k 0).toArray⟩ : ByteArray) ++ (⟨#[0]⟩ : ByteArray) = ⟨(l ++ List.replicate (k + 1) 0).toArray⟩ := by
  have h := cat_mk2 (l ++ List.replicate k 0) [0]
  rw [List.append_assoc] at h
  have e : List.replicate k (0 : UInt8) ++ [0] = List.replicate (k + 1) 0 := by rw [List.replicate_succ']
  rw [e] at h
  exact h
set_option maxRecDepth 100000 in
theorem full_c (l : List UInt8) (w : World) (hs : l.length ≤ 48) : Calls Tryd.prog 42 #[.string ⟨l.toArray⟩] w (StrRes (Lf.full l) w) := by
  go_enter Tryd.func42, Tryd.ntmps42
  go_wp2_with fail
  go_loopw [0] (fun s wr => ∃ (k : Nat) (x : List UInt8), l.length + k ≤ 48 ∧ x.length = l.length + k ∧ x = l ++ List.replicate k 0 ∧ s = .string ⟨x.toArray⟩ ∧ Below w.heap.size w wr) (fun s _ => 48 - szOf s)
  case atStart => exact ⟨0, l, by omega, rfl, by simp, rfl, Below.refl _ _⟩
  case round =>
    obtain ⟨k, x, hk, hx, he, rfl, hB0⟩ := hrel
    have HB := Lib.hid hB0
    have HX := Lib.hid hx
    have HE := Lib.hid he
    have hxl : x.length ≤ 48 := by omega
    clear hB0 hx he
    by_cases hlt : x.length < 48
    · have HZ := Lib.hid (show (⟨x.toArray⟩ : ByteArray) ++ (⟨#[0]⟩ : ByteArray) = ⟨(x ++ [0]).toArray⟩ from cat_mk2 x [0])
      go_wp2_with fail
      exact ⟨⟨k + 1, x ++ [0], by have := HX.out; omega, by simp [HX.out]; omega, by rw [HE.out, List.append_assoc, List.replicate_succ'], by rw [HZ.out], HB.out⟩, by simp [szOf, ByteArray.size_append]; show 48 - (x.length + 1) < 48 - x.length; omega⟩
    · have HF := Lib.hid (show Lf.full l = x by unfold Lf.full; rw [HE.out, show 48 - l.length = k by have := HX.out; omega])
      go_wp2_with fail
      go_ret
      exact ⟨by rw [HF.out]; rfl, HB.out⟩
theorem num_take (l : List UInt8) (k : Nat) (h : k < l.length) : Lf.num (l.take (k + 1)) = Lf.num (l.take k) * 256 + l[k].toNat := by
  rw [List.take_succ_eq_append_getElem h, Lf.num_snoc]
theorem num_small (l : List UInt8) (k : Nat) (hl : l.length = 8) (h : k < 8) : Lf.num (l.take k) < 72057594037927936 := by
  have h1 := Lf.num_lt k (l.take k) (by simp; omega)
  have h2 : 256 ^ k ≤ 256 ^ 7 := Nat.pow_le_pow_right (by decide) (by omega)
  have h3 : 256 ^ 7 = 72057594037927936 := by decide
  omega
set_option maxRecDepth 100000 in
theorem number_c (s : ByteArray) (w : World) (hs : s.size = 8) : Calls Tryd.prog 55 #[.string s] w fun e w' => e = .returned (.int .u64 (Lf.num s.data.toList)) ∧ Below w.heap.size w w' := by
  have hl : s.data.toList.length = 8 := by simpa using hs
  have HL := Lib.hid hl
  have HZ := Lib.hid hs
  have hz1 : s.size ≤ 8 := by omega
  have hz2 : 8 ≤ s.size := by omega
  clear hs hl
  go_enter Tryd.func55, Tryd.ntmps55
  go_wp2_with fail
  go_loop [3, 4] (fun n i => ∃ k : Nat, k ≤ 8 ∧ i = .int .i64 k ∧ n = .int .u64 (Lf.num (s.data.toList.take k))) (fun _ i => 8 - (intOf i).toNat)
  case atStart => exact ⟨0, by omega, rfl, rfl⟩
  case round =>
    obtain ⟨k, hk, rfl, rfl⟩ := hrel
    by_cases hlt : k < 8
    · have hb : s[k].toNat < 256 := s[k].toNat_lt
      have hn := num_small s.data.toList k HL.out hlt
      have HT := Lib.hid (show Lf.num (s.data.toList.take (k + 1)) = Lf.num (s.data.toList.take k) * 256 + s[k].toNat by
        rw [num_take _ k (by rw [HL.out]; exact hlt)]; simp; rfl)
      generalize Lf.num (s.data.toList.take k) = n at *
      have hlt2 : k < s.size := by omega
      go_wp2_with fail
      exact ⟨⟨k + 1, by omega, by simp, by rw [HT.out]; congr 1; omega⟩, by simp [intOf]; omega⟩
    · obtain rfl : k = 8 := by omega
      go_wp2_with fail
      go_ret
      exact ⟨by rw [List.take_of_length_le (by rw [HL.out]; omega)]; rfl, Below.refl _ _⟩
end Go.Proofs.YtbmlnodimcalgaaDoor.Le
