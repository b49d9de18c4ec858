/- The contracts of package tally's takers over this translation. -/
import Derived.Test.YtnblilonjpfdnaaRows
import Derived.Test.YtnblilonjpfdnaaJaA
import Derived.WalkKit
import Derived.WalkSpells
import Derived.WalkLawsBesides
import Derived.Lib.Hide
import Derived.Lib.EndianBits
import Derived.Lib.VarintBits
import Derived.Laws.BitsAllLaws
import Derived.Lib.Strings
import Derived.Lib.IndexBytes
import Derived.Lib.Zigzag
import Derived.Deep.LoopGhost
import Derived.BigQuiet
import Derived.Deep.QuietTactic
namespace Go.Proofs.Ytnblilonjpfdnaa.Tal
open Go.RowKit

theorem ret_isb {j : IntKind} {a b : Int} {s t : ByteArray} {c d : Bool} (h : a = b) (h' : s = t) (h'' : c = d) : Ending.returned (.tuple #[.int j a, .string s, .bool c]) = .returned (.tuple #[.int j b, .string t, .bool d]) := by rw [h, h', h'']

/-- What a taker of a number answers. -/
def NumRes (o : Option (Nat × List UInt8)) (w : World) (e : Ending) (w' : World) : Prop :=
  e = .returned (.tuple #[.int .u64 (match o with | some (n, _) => (n : Int) | none => 0), .string ⟨(match o with | some (_, r) => r | none => []).toArray⟩, .bool o.isSome]) ∧ Below w.heap.size w w'

theorem or_128 (a c : Nat) (ha : a ≤ 144115188075855871) : bits .or .u64 ((a : Int) * 128) ((c : Int) % 128) = (a : Int) * 128 + (c : Int) % 128 := by
  have := u64_or_nat (a * 128) (c % 128) (by omega) (by omega)
  rw [nat_join 7 (a * 128) (c % 128) (by omega) (by omega)] at this
  have e1 : ((a * 128 : Nat) : Int) = (a : Int) * 128 := by omega
  have e2 : ((c % 128 : Nat) : Int) = (c : Int) % 128 := by omega
  rw [e1, e2] at this
  omega
theorem ext_drop (s : ByteArray) (k : Nat) : s.extract k s.size = ⟨(s.data.toList.drop k).toArray⟩ := by
  apply ByteArray.ext
  apply Array.ext'
  have h := Lib.extract_to_end s k
  simpa using h
theorem take_step (l : List UInt8) (acc : Nat) (c : UInt8) (k : Nat) (h : k < l.length) (hc : l[k] = c) : Ta.take acc (l.drop k) = Ta.take acc (c :: l.drop (k + 1)) := by
  rw [List.drop_eq_getElem_cons h, hc]

set_option maxRecDepth 100000 in
set_option maxHeartbeats 800000 in
theorem takeNum_c (s : ByteArray) (w : World) (hs : s.size ≤ maxLen) :
    Calls Try.prog 67 #[.string s] w (NumRes (Ta.take 0 s.data.toList) w) := by
  unfold maxLen at hs
  go_enter Try.func67, Try.ntmps67
  go_wp2
  go_step3
  go_wp2
  go_step3
  go_wp2
  go_loop [2, 8] (fun n i => ∃ (k acc : Nat), k ≤ s.size ∧ i = .int .i64 k ∧ n = .int .u64 acc ∧ acc < 18446744073709551616 ∧ Ta.take 0 s.data.toList = Ta.take acc (s.data.toList.drop k)) (fun _ i => s.size - (intOf i).toNat)
  case atStart => exact ⟨0, 0, by omega, rfl, rfl, by omega, rfl⟩
  case round =>
    obtain ⟨k, acc, hk, rfl, rfl, ha, HT0⟩ := hrel
    have HT := Lib.hid HT0
    clear HT0
    by_cases hlt : k < s.size
    · by_cases hbig : 144115188075855871 < acc
      · go_wp2
        go_ret3
        rw [HT.out, Ta.take_big _ _ (by omega)]
        exact ⟨rfl, Below.refl _ _⟩
      · have hb : s[k].toNat < 256 := s[k].toNat_lt
        have e1 := u8_and127 (x := (s[k].toNat : Int)) (by omega) (by omega)
        have e2 := or_128 acc s[k].toNat (by omega)
        have HD := Lib.hid (take_step s.data.toList acc s[k] k (by simpa using hlt) (by simp; rfl))
        by_cases hc : (s[k].toNat : Int) < 128
        · go_wp2
          go_quiet (fail)
          go_wp2
          go_ret3
          rw [HT.out, HD.out, Ta.take_end _ _ _ (by omega) (by omega)]
          refine ⟨ret_isb (by simp; omega) (ext_drop _ _) rfl, ⟨rfl, rfl, rfl, Nat.le_refl _, fun _ _ => rfl⟩⟩
        · by_cases hf : (acc : Int) * 128 + (s[k].toNat : Int) % 128 = 18446744073709551615
          · have HF := Lib.hid (show acc * 128 + s[k].toNat % 128 = 18446744073709551615 by omega)
            have hf' : ((acc : Int) * 128 + (s[k].toNat : Int) % 128 == 18446744073709551615) = true := beq_iff_eq.2 hf
            clear hf
            go_wp2
            go_ret3
            rw [HT.out, HD.out, Ta.take_full _ _ _ (by omega) (by omega) HF.out]
            exact ⟨rfl, Below.refl _ _⟩
          · have HF := Lib.hid (show acc * 128 + s[k].toNat % 128 ≠ 18446744073709551615 by omega)
            have hf' : ((acc : Int) * 128 + (s[k].toNat : Int) % 128 == 18446744073709551615) = false := beq_eq_false_iff_ne.2 hf
            have hlt' : acc * 128 + s[k].toNat % 128 + 1 < 18446744073709551616 := by omega
            clear hf
            go_wp2
            go_round
            case rel => exact ⟨k + 1, acc * 128 + s[k].toNat % 128 + 1, by omega, by go_num, by simp, hlt', by rw [HT.out, HD.out, Ta.take_on _ _ _ (by omega) (by omega) HF.out]⟩
            case measure => simp [intOf]; omega
    · obtain rfl : k = s.size := by omega
      go_wp2
      go_ret3
      rw [HT.out, List.drop_of_length_le (by simp)]
      exact ⟨rfl, Below.refl _ _⟩

/-- The integer of a number. -/
def unz (m : Nat) : Int := if m % 2 = 0 then (m / 2 : Nat) else -((m / 2 : Nat) : Int) - 1
def IntRes (o : Option (Nat × List UInt8)) (w : World) (e : Ending) (w' : World) : Prop :=
  e = .returned (.tuple #[.int .i64 (match o with | some (n, _) => unz n | none => 0), .string ⟨(match o with | some (_, r) => r | none => []).toArray⟩, .bool o.isSome]) ∧ Below w.heap.size w w'
theorem i64_xor0 (x : Nat) (hx : x < 9223372036854775808) : bits .xor .i64 (x : Int) 0 = x := by
  have e1 : (BitVec.ofInt 64 (x : Int)).toNat = x := by rw [BitVec.ofInt_natCast, BitVec.toNat_ofNat]; exact Nat.mod_eq_of_lt (by omega)
  show IntKind.i64.wrap ((BitVec.ofInt 64 (x : Int) ^^^ BitVec.ofInt 64 0).toNat : Int) = _
  rw [show BitVec.ofInt 64 0 = 0#64 by decide, BitVec.xor_zero, e1, IntKind.wrap_i64]
  omega
theorem i64_xor1 (x : Nat) (hx : x < 9223372036854775808) : bits .xor .i64 (x : Int) (-1) = -(x : Int) - 1 := by
  have := Lib.i64_not x hx
  rw [← this]
  show IntKind.i64.wrap ((BitVec.ofInt 64 (x : Int) ^^^ BitVec.ofInt 64 (-1)).toNat : Int) = IntKind.i64.wrap ((BitVec.ofInt 64 (-1) ^^^ BitVec.ofInt 64 (x : Int)).toNat : Int)
  rw [BitVec.xor_comm]

set_option maxRecDepth 100000 in
set_option maxHeartbeats 800000 in
theorem takeInt_c (s : ByteArray) (w : World) (hs : s.size ≤ maxLen) :
    Calls Try.prog 69 #[.string s] w (IntRes (Ta.take 0 s.data.toList) w) := by
  cases hT : Ta.take 0 s.data.toList with
  | none =>
    have K := Lib.hid (hT ▸ takeNum_c s w hs)
    have x0 := i64_xor0 0 (by omega)
    have a1 := Lib.u64_and1 0 (by omega) (by omega)
    clear hT hs
    go_enter Try.func69, Try.ntmps69
    go_wp2_with fail
    refine K.out.mono ?_
    rintro e w1 ⟨rfl, b1⟩
    go_wp2_with fail
    go_ret3
    exact ⟨rfl, b1⟩
  | some x =>
    obtain ⟨n, r⟩ := x
    have hn := (Ta.take_bound _ _ _ _ hT).1
    have K := Lib.hid (hT ▸ takeNum_c s w hs)
    have a1 := Lib.u64_and1 (n : Int) (by omega) (by omega)
    by_cases hp : n % 2 = 0
    · have a2 : (n : Int) % 2 = 0 := by omega
      have HU := Lib.hid (show unz n = (n / 2 : Nat) by unfold unz; rw [if_pos hp])
      have x0 := i64_xor0 (n / 2) (by omega)
      rw [show ((n / 2 : Nat) : Int) = (n : Int) / 2 by omega] at x0
      rw [a2] at a1
      clear hT hs hp a2
      go_enter Try.func69, Try.ntmps69
      go_wp2_with fail
      refine K.out.mono ?_
      rintro e w1 ⟨rfl, b1⟩
      go_wp2_with fail
      go_ret3
      exact ⟨ret_isb (by show _ = unz n; rw [HU.out]; omega) rfl rfl, b1⟩
    · have a2 : (n : Int) % 2 = 1 := by omega
      have HU := Lib.hid (show unz n = -((n / 2 : Nat) : Int) - 1 by unfold unz; rw [if_neg hp])
      have x0 := i64_xor1 (n / 2) (by omega)
      rw [show ((n / 2 : Nat) : Int) = (n : Int) / 2 by omega] at x0
      rw [a2] at a1
      clear hT hs hp a2
      go_enter Try.func69, Try.ntmps69
      go_wp2_with fail
      refine K.out.mono ?_
      rintro e w1 ⟨rfl, b1⟩
      go_wp2_with fail
      go_ret3
      exact ⟨ret_isb (by show _ = unz n; rw [HU.out]; omega) rfl rfl, b1⟩

/-- What a taker of a string answers. -/
def TextRes (o : Option (List UInt8 × List UInt8)) (w : World) (e : Ending) (w' : World) : Prop :=
  e = .returned (.tuple #[.string ⟨(match o with | some (x, _) => x | none => []).toArray⟩, .string ⟨(match o with | some (_, r) => r | none => []).toArray⟩, .bool o.isSome]) ∧ Below w.heap.size w w'
theorem ret_ssb {a b s t : ByteArray} {c d : Bool} (h : a = b) (h' : s = t) (h'' : c = d) : Ending.returned (.tuple #[.string a, .string s, .bool c]) = .returned (.tuple #[.string b, .string t, .bool d]) := by rw [h, h', h'']
theorem ext_mk_drop (r : List UInt8) (k : Nat) : (ByteArray.mk r.toArray).extract k (ByteArray.mk r.toArray).size = ⟨(r.drop k).toArray⟩ := ext_drop ⟨r.toArray⟩ k
theorem ext_mk_take (r : List UInt8) (k : Nat) : (ByteArray.mk r.toArray).extract 0 k = ⟨(r.take k).toArray⟩ := by
  apply ByteArray.ext
  apply Array.ext'
  simp
end Go.Proofs.Ytnblilonjpfdnaa.Tal
