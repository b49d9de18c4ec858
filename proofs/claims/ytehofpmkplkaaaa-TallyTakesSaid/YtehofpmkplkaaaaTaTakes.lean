/- Package tally: the law of what is taken. -/
import Derived.Test.YtehofpmkplkaaaaTaRef4
import Derived.Test.YtehofpmkplkaaaaTaBack
import Derived.Test.YtehofpmkplkaaaaTaOnce
namespace Go.Proofs.Ytehofpmkplkaaaa.Tal
open Go.RowKit
theorem both_num (s : ByteArray) (hs : s.size ≤ 4611686018427387904) : ∃ (n : Int) (r : ByteArray) (b : Bool), (∀ w, Calls Try.prog 25 #[.string s] w fun e w' => e = .returned (.tuple #[.int .u64 n, .string r, .bool b]) ∧ Below w.heap.size w w') ∧ ∀ w, Calls Try.prog 26 #[.string s] w fun e w' => e = .returned (.tuple #[.int .u64 n, .string r, .bool b]) ∧ Below w.heap.size w w' :=
  ⟨_, _, _, fun w => takeNum_c s w (by unfold maxLen; omega), fun w => refTakeNum_c s w hs⟩
theorem both_int (s : ByteArray) (hs : s.size ≤ 4611686018427387904) : ∃ (n : Int) (r : ByteArray) (b : Bool), (∀ w, Calls Try.prog 27 #[.string s] w fun e w' => e = .returned (.tuple #[.int .i64 n, .string r, .bool b]) ∧ Below w.heap.size w w') ∧ ∀ w, Calls Try.prog 28 #[.string s] w fun e w' => e = .returned (.tuple #[.int .i64 n, .string r, .bool b]) ∧ Below w.heap.size w w' :=
  ⟨_, _, _, fun w => takeInt_c s w (by unfold maxLen; omega), fun w => refTakeInt_c s w hs⟩
theorem both_text (s : ByteArray) (hs : s.size ≤ 4611686018427387904) : ∃ (t r : ByteArray) (b : Bool), (∀ w, Calls Try.prog 29 #[.string s] w fun e w' => e = .returned (.tuple #[.string t, .string r, .bool b]) ∧ Below w.heap.size w w') ∧ ∀ w, Calls Try.prog 30 #[.string s] w fun e w' => e = .returned (.tuple #[.string t, .string r, .bool b]) ∧ Below w.heap.size w w' :=
  ⟨_, _, _, fun w => takeText_c s w (by unfold maxLen; omega), fun w => refTakeText_c s w hs⟩
theorem row_any {o : Option (List (List UInt8) × List UInt8)} {w w' : World} {e : Ending} (h : RowRes o w e w') :
    ∃ av cv, e = .returned (.tuple #[.slice av (bas (listOf o)).length cv, .string ⟨(restOf o).toArray⟩, .bool o.isSome]) ∧ Below w.heap.size w w' ∧ Strs w' av (bas (listOf o)) := by
  obtain ⟨v, rfl, hb, hv⟩ := h
  obtain ⟨av, cv, rfl, hs⟩ := own_strs hv
  exact ⟨av, cv, rfl, hb, hs⟩
theorem both_row (s : ByteArray) (hs : s.size ≤ 3000) : ∃ (L : List ByteArray) (r : ByteArray) (b : Bool), L.length ≤ 9223372036854775807 ∧ (∀ w, Calls Try.prog 31 #[.string s] w fun e w' => ∃ av cv, e = .returned (.tuple #[.slice av L.length cv, .string r, .bool b]) ∧ Below w.heap.size w w' ∧ Strs w' av L) ∧ ∀ w, Calls Try.prog 32 #[.string s] w fun e w' => ∃ av cv, e = .returned (.tuple #[.slice av L.length cv, .string r, .bool b]) ∧ Below w.heap.size w w' ∧ Strs w' av L := by
  refine ⟨bas (listOf (takeRow s.data.toList)), ⟨(restOf (takeRow s.data.toList)).toArray⟩, (takeRow s.data.toList).isSome, ?_, fun w => (takeRow_c s w (by omega)).mono fun e w' h => row_any h, fun w => (refTakeRow_c s w (by omega)).mono fun e w' h => row_any h⟩
  cases h : takeRow s.data.toList with
  | none => simp [listOf, bas]
  | some x =>
    obtain ⟨l, r⟩ := x
    have h1 := takeRow_once _ _ _ h
    have h2 : s.data.toList.length = s.size := by simp
    simp [listOf, bas]
    omega
set_option maxRecDepth 100000 in
set_option maxHeartbeats 1600000 in
theorem takes_c (s : ByteArray) (w : World) (hs : s.size ≤ 3000) :
    Calls Try.prog 4 #[.string s] w fun e w' => e = .returned (.bool true) ∧ Below w.heap.size w w' := by
  obtain ⟨n1, r1, c1, p1, q1⟩ := both_num s (by omega)
  obtain ⟨n2, r2, c2, p2, q2⟩ := both_int s (by omega)
  obtain ⟨n3, r3, c3, p3, q3⟩ := both_text s (by omega)
  obtain ⟨L, r4, c4, hl, p4, q4⟩ := both_row s hs
  have p1 := Lib.hid p1
  have p2 := Lib.hid p2
  have p3 := Lib.hid p3
  have p4 := Lib.hid p4
  have q1 := Lib.hid q1
  have q2 := Lib.hid q2
  have q3 := Lib.hid q3
  have q4 := Lib.hid q4
  have hs9 : ¬ (3000 : Int) < (s.size : Int) := by omega
  clear hs
  go_enter Try.func4, Try.ntmps4
  go_wp2_with fail
  refine (p1.out _).mono ?_
  rintro e w1 ⟨rfl, b1⟩
  go_wp2_with fail
  refine (q1.out _).mono ?_
  rintro e w2 ⟨rfl, b2⟩
  have B2 := Lib.hid (then_below b1 b2)
  clear b1 b2
  go_wp2_with fail
  refine (p2.out _).mono ?_
  rintro e w3 ⟨rfl, b3⟩
  go_wp2_with fail
  refine (q2.out _).mono ?_
  rintro e w4 ⟨rfl, b4⟩
  have B4 := Lib.hid (then_below (then_below B2.out b3) b4)
  clear b3 b4 B2
  go_wp2_with fail
  refine (p3.out _).mono ?_
  rintro e w5 ⟨rfl, b5⟩
  go_wp2_with fail
  refine (q3.out _).mono ?_
  rintro e w6 ⟨rfl, b6⟩
  have B6 := Lib.hid (then_below (then_below B4.out b5) b6)
  clear b5 b6 B4
  go_wp2_with fail
  refine (p4.out _).mono ?_
  rintro e w7 ⟨av, cv, rfl, b7, s7⟩
  have S7 := Lib.hid s7
  clear s7
  go_wp2_with fail
  refine (q4.out _).mono ?_
  rintro e w8 ⟨av2, cv2, rfl, b8, s8⟩
  have S8 := Lib.hid s8
  have S78 := Lib.hid (S7.out.later b8)
  have B8 := Lib.hid (then_below (then_below B6.out b7) b8)
  clear s8 b7 b8 B6 S7
  go_wp2_with fail
  refine (same_c _ av av2 cv cv2 L S78.out S8.out hl).mono ?_
  rintro e w9 ⟨rfl, b9⟩
  go_wp2_with fail
  refine (head_c _).mono ?_
  rintro e w10 ⟨rfl, b10⟩
  go_wp2_with fail
  go_ret
  exact ⟨rfl, then_below (then_below B8.out b9) b10⟩
set_option maxRecDepth 100000 in
theorem takes_law (s : ByteArray) (w : World) (hs : s.size ≤ maxLen) :
    Calls Try.prog 4 #[.string s] w fun e w' => e = .returned (.bool true) ∧ Below w.heap.size w w' := by
  by_cases h : s.size ≤ 3000
  · exact takes_c s w h
  · unfold maxLen at hs
    have h2 : (3000 : Int) < (s.size : Int) := by omega
    clear h
    go_enter Try.func4, Try.ntmps4
    go_wp2_with fail
    refine (head_c _).mono ?_
    rintro e w1 ⟨rfl, b1⟩
    go_wp2_with fail
    go_ret
    exact ⟨rfl, b1⟩
end Go.Proofs.Ytehofpmkplkaaaa.Tal
