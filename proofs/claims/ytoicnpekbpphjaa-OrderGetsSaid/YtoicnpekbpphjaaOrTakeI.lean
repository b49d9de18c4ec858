/- Package order: takeInteger, takeString. -/
import Derived.Test.YtoicnpekbpphjaaOrTakeN
import Derived.Test.YtoicnpekbpphjaaOrApp
import Derived.Laws.DeepNot64
namespace Go.Proofs.Ytoicnpekbpphjaa.Or
open Go.RowKit Cm
def outI : Option (Int × List UInt8) → Value
  | none => .tuple #[.int .i64 0, .string ⟨#[]⟩, .bool false]
  | some (n, r) => .tuple #[.int .i64 n, .string ⟨r.toArray⟩, .bool true]
theorem tnum_n {base : Nat} {b : Bool} {B r : List UInt8} {n : Nat} (h : tnum base b B = some (n, r)) : n < 18446744073709551616 := by
  unfold tnum at h
  split at h
  · cases h
  · split at h
    · cases h
    · split at h
      · cases h
      · obtain ⟨rfl, _⟩ := Prod.mk.inj (Option.some.inj h)
        have := val_lt 8 (((B.drop 1).take (manyL base b B)).map (fl b)) (by simp; omega)
        omega
set_option maxRecDepth 100000 in
set_option maxHeartbeats 3200000 in
theorem takeInteger_c (F : ByteArray) (w : World) (hF : 0 < F.size) (hF9 : F.size ≤ 100000) : Calls Try.prog 40 #[.string F] w fun e w' => e = .returned (outI (takeI F.data.toList)) ∧ Below w.heap.size w w' := by
  have hb : negB F.data.toList = decide ((F[0].toNat : Int) < 128) := by
    unfold negB
    have h : F.data.toList.getD 0 0 = F[0] := by
      have := byte_at F 0 hF
      rw [← this]
      have hl : 0 < F.data.toList.length := by simpa using hF
      simp only [List.getD, List.getElem?_eq_getElem hl, Option.getD_some]
    rw [h]
    congr 1
    simp only [eq_iff_iff]
    omega
  have hT : takeI F.data.toList = match tnum 128 (negB F.data.toList) F.data.toList with
    | none => none
    | some (n, r) => if 9223372036854775808 ≤ n then none else some (if negB F.data.toList then -(n : Int) - 1 else (n : Int), r) := rfl
  obtain ⟨L, hL⟩ : ∃ L, F.data.toList = L := ⟨_, rfl⟩
  have KN := Lib.hid (fun b w => hL ▸ takeNumber_c F 128 b w (by omega) hF hF9)
  rw [hL] at hb hT ⊢
  have p0 : (0 : Int) < (F.size : Int) := by omega
  clear hL
  obtain ⟨z, hz⟩ : ∃ z, F[0].toNat = z := ⟨_, rfl⟩
  rw [hz] at hb
  obtain ⟨o, ho⟩ : ∃ o, takeI L = o := ⟨_, rfl⟩
  rw [ho] at hT ⊢
  clear ho
  cases hneg : negB L with
  | true =>
    have q1 : (z : Int) < 128 := by rw [hneg] at hb; exact of_decide_eq_true hb.symm
    rw [hneg] at hT
    clear hb hneg
    cases ht : tnum 128 true L with
    | none =>
      rw [ht] at hT
      have HT := Lib.hid hT
      have K1 := Lib.hid (fun w => ht ▸ KN.out true w)
      clear hT ht
      go_enter Try.func40, Try.ntmps40
      go_wp2_with fail
      refine (K1.out _).mono ?_
      rintro e w2 ⟨rfl, b2⟩
      have B2 := Lib.hid b2
      clear b2
      unfold outN
      go_wp2_with fail
      go_ret3
      exact ⟨by rw [HT.out]; rfl, B2.out⟩
    | some x =>
      obtain ⟨n, r⟩ := x
      rw [ht] at hT
      have K1 := Lib.hid (fun w => ht ▸ KN.out true w)
      have hn := tnum_n ht
      by_cases hbig : 9223372036854775808 ≤ n
      · have HT := Lib.hid (show o = none by rw [hT]; exact if_pos hbig)
        obtain ⟨m, hm⟩ : ∃ m : Int, IntKind.i64.wrap (n : Int) = m := ⟨_, rfl⟩
        have hm0 : m < 0 := by rw [← hm, IntKind.wrap_i64]; omega
        clear hT ht hn hbig
        go_enter Try.func40, Try.ntmps40
        go_wp2_with fail
        refine (K1.out _).mono ?_
        rintro e w2 ⟨rfl, b2⟩
        have B2 := Lib.hid b2
        clear b2
        unfold outN
        go_wp2_with fail
        go_ret3
        exact ⟨by rw [HT.out]; rfl, B2.out⟩
      · have HT := Lib.hid (show o = some (-(n : Int) - 1, r) by rw [hT]; exact if_neg hbig)
        have hm : IntKind.i64.wrap (n : Int) = (n : Int) := by rw [IntKind.wrap_i64]; omega
        have hx := i64_not n (by omega)
        have hx2 : -1 - (n : Int) = -(n : Int) - 1 := by omega
        rw [hx2] at hx
        clear hT ht hn hbig hx2
        go_enter Try.func40, Try.ntmps40
        go_wp2_with fail
        refine (K1.out _).mono ?_
        rintro e w2 ⟨rfl, b2⟩
        have B2 := Lib.hid b2
        clear b2
        unfold outN
        go_wp2_with fail
        go_ret3
        exact ⟨by rw [HT.out]; rfl, B2.out⟩
  | false =>
    have q1 : ¬ (z : Int) < 128 := by rw [hneg] at hb; exact of_decide_eq_false hb.symm
    rw [hneg] at hT
    clear hb hneg
    cases ht : tnum 128 false L with
    | none =>
      rw [ht] at hT
      have HT := Lib.hid hT
      have K1 := Lib.hid (fun w => ht ▸ KN.out false w)
      clear hT ht
      go_enter Try.func40, Try.ntmps40
      go_wp2_with fail
      refine (K1.out _).mono ?_
      rintro e w2 ⟨rfl, b2⟩
      have B2 := Lib.hid b2
      clear b2
      unfold outN
      go_wp2_with fail
      go_ret3
      exact ⟨by rw [HT.out]; rfl, B2.out⟩
    | some x =>
      obtain ⟨n, r⟩ := x
      rw [ht] at hT
      have K1 := Lib.hid (fun w => ht ▸ KN.out false w)
      have hn := tnum_n ht
      by_cases hbig : 9223372036854775808 ≤ n
      · have HT := Lib.hid (show o = none by rw [hT]; exact if_pos hbig)
        obtain ⟨m, hm⟩ : ∃ m : Int, IntKind.i64.wrap (n : Int) = m := ⟨_, rfl⟩
        have hm0 : m < 0 := by rw [← hm, IntKind.wrap_i64]; omega
        clear hT ht hn hbig
        go_enter Try.func40, Try.ntmps40
        go_wp2_with fail
        refine (K1.out _).mono ?_
        rintro e w2 ⟨rfl, b2⟩
        have B2 := Lib.hid b2
        clear b2
        unfold outN
        go_wp2_with fail
        go_ret3
        exact ⟨by rw [HT.out]; rfl, B2.out⟩
      · have HT := Lib.hid (show o = some ((n : Int), r) by rw [hT]; exact if_neg hbig)
        have hm : IntKind.i64.wrap (n : Int) = (n : Int) := by rw [IntKind.wrap_i64]; omega
        clear hT ht hn hbig
        go_enter Try.func40, Try.ntmps40
        go_wp2_with fail
        refine (K1.out _).mono ?_
        rintro e w2 ⟨rfl, b2⟩
        have B2 := Lib.hid b2
        clear b2
        unfold outN
        go_wp2_with fail
        go_ret3
        exact ⟨by rw [HT.out]; rfl, B2.out⟩
end Go.Proofs.Ytoicnpekbpphjaa.Or
