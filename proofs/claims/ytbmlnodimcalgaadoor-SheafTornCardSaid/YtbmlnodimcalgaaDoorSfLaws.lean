/- Package sheaf: its laws of what is put, and what is got. -/
import Derived.Test.YtbmlnodimcalgaaDoorSfHead
namespace Go.Proofs.YtbmlnodimcalgaaDoor.Shf
open Go.RowKit Tal
def GPuts (n : Int) (s : ByteArray) (m : Int) (w : World) : Prop := Calls Tryd.prog 3 #[.int .u64 n, .string s, .int .i64 m] w fun e w' => e = .returned (.bool true) ∧ Below w.heap.size w w'
set_option maxRecDepth 100000 in
set_option maxHeartbeats 1600000 in
theorem puts_head (n : Int) (s : ByteArray) (m : Int) (w : World) (hs : s.size ≤ maxLen) (h : (3000 < s.size ∧ s.size ≤ 98304) ∨ 99000 < s.size ∨ 100000 < m) : GPuts n s m w := by
  unfold GPuts
  unfold maxLen at hs
  have hcs : ((3000 : Int) < (s.size : Int) ∧ (s.size : Int) ≤ 98304) ∨ (99000 : Int) < (s.size : Int) ∨ ((s.size : Int) ≤ 3000 ∧ 100000 < m) ∨ ((98304 : Int) < (s.size : Int) ∧ (s.size : Int) ≤ 99000 ∧ 100000 < m) := by omega
  clear h
  rcases hcs with ⟨h1, h2⟩ | h1 | ⟨h1, h2⟩ | ⟨h1, h2, h3⟩
  all_goals
    first | have h4 : (3000 : Int) < (s.size : Int) := by omega
          | have h4 : (s.size : Int) ≤ 99000 := by omega
    try (have h5 : (98304 : Int) < (s.size : Int) := by omega)
    go_enter Tryd.func3, Tryd.ntmps3
    go_wp2_with fail
    refine (head_c _).mono ?_
    rintro e w1 ⟨rfl, b1⟩
    go_wp2_with fail
    go_ret
    exact ⟨rfl, b1⟩
theorem strs_nil (w : World) : Strs w none [] := fun j hj => by simp at hj
set_option maxRecDepth 100000 in
set_option maxHeartbeats 1600000 in
theorem puts_none (n : Nat) (s : ByteArray) (m : Int) (w : World) (hn : n < 18446744073709551616) (hs : s.size ≤ 3000 ∨ (98304 < s.size ∧ s.size ≤ 99000)) (h1 : -9223372036854775808 ≤ m) (h2 : m ≤ 100000) (z : Int) (hz2 : z = 2 ∨ z = 3) (hz : (n = 0 ∧ z = 2) ∨ (n ≠ 0 ∧ 98304 < s.size ∧ z = 3)) : GPuts n s m w := by
  unfold GPuts
  have K1 := Lib.hid (fun w => put_no n s w hn (by omega) z hz)
  have K2 := Lib.hid (fun w => rput_no n s w hn (by omega) z hz)
  have KS := Lib.hid (fun w => same_yes w none none 0 0 0 [] [] (strs_nil w) (strs_nil w) rfl rfl (by omega) rfl)
  have KM := Lib.hid (fun w => many_c m w (by omega) (by omega))
  have KR := Lib.hid (fun w => rmany_c m w (by omega))
  have hz0 : (z != 0) = true := by rw [bne_iff_ne]; omega
  have hcs : (s.size : Int) ≤ 3000 ∨ ((98304 : Int) < (s.size : Int) ∧ (3000 : Int) < (s.size : Int) ∧ (s.size : Int) ≤ 99000) := by omega
  obtain ⟨y, hy⟩ : ∃ y, Sf.many m.toNat = y := ⟨_, rfl⟩
  rw [hy] at KM KR
  clear hn hs hz hz2 hy
  rcases hcs with h3 | ⟨h3, h4, h5⟩
  all_goals
    go_enter Tryd.func3, Tryd.ntmps3
    go_wp2_with fail
    refine (K1.out _).mono ?_
    rintro e w1 ⟨rfl, b1⟩
    go_wp2_with fail
    refine (K2.out _).mono ?_
    rintro e w' ⟨rfl, rfl⟩
    go_wp2_with fail
    refine (KS.out _).mono ?_
    rintro e w2 ⟨rfl, b2⟩
    have B2 := Lib.hid (then_below b1 b2)
    clear b1 b2
    go_wp2_with fail
    refine (KM.out _).mono ?_
    rintro e w' ⟨rfl, rfl⟩
    go_wp2_with fail
    refine (KR.out _).mono ?_
    rintro e w3 ⟨rfl, b3⟩
    have B3 := Lib.hid (then_below B2.out b3)
    clear b3
    go_wp2_with fail
    refine (head_c _).mono ?_
    rintro e w4 ⟨rfl, b4⟩
    go_wp2_with fail
    go_ret
    exact ⟨rfl, then_below B3.out b4⟩
set_option maxRecDepth 100000 in
set_option maxHeartbeats 1600000 in
theorem puts_some (n : Nat) (s : ByteArray) (m : Int) (w : World) (hn : n < 18446744073709551616) (hs : s.size ≤ 3000) (h1 : -9223372036854775808 ≤ m) (h2 : m ≤ 100000) (h0 : n ≠ 0) : GPuts n s m w := by
  unfold GPuts
  have K1 := Lib.hid (fun w => put_ok n s w h0 hn (by omega))
  have K2 := Lib.hid (fun w => rput_ok n s w h0 hn (by omega))
  unfold PutOk at K1 K2
  have hll := Sf.sheaf_len n s.data.toList
  rw [Le.sz_list] at hll
  have hlt : (Sf.sheaf n s.data.toList).length ≤ 1000 := by
    rw [hll]
    unfold Sf.many
    have := (Ta.num_len s.size (by omega)).1
    omega
  have KL := Lib.hid (fun w => (show Calls Tryd.prog 11 #[.int .i64 (s.size : Int)] w (fun e w' => e = .returned (.int .i64 (Sf.sheaf n s.data.toList).length) ∧ w = w') by rw [hll]; exact many_c s.size w (by omega) (by omega)))
  have HB := Lib.hid (show (bas (Sf.sheaf n s.data.toList)).length = (Sf.sheaf n s.data.toList).length by unfold bas; rw [List.length_map])
  obtain ⟨S, hS⟩ : ∃ S, Sf.sheaf n s.data.toList = S := ⟨_, rfl⟩
  rw [hS] at K1 K2 KL hlt HB
  obtain ⟨l, hl⟩ : ∃ l, S.length = l := ⟨_, rfl⟩
  have HL := Lib.hid hl
  rw [hl] at K1 K2 KL hlt HB
  clear hS hll hl
  have KM := Lib.hid (fun w => many_c m w (by omega) (by omega))
  have KR := Lib.hid (fun w => rmany_c m w (by omega))
  have h3 : (s.size : Int) ≤ 3000 := by omega
  obtain ⟨y, hy⟩ : ∃ y, Sf.many m.toNat = y := ⟨_, rfl⟩
  rw [hy] at KM KR
  clear hn hs h0 hy
  go_enter Tryd.func3, Tryd.ntmps3
  go_wp2_with fail
  refine (K1.out _).mono ?_
  rintro e w1 ⟨g, gc, rfl, o1, b1⟩
  have O1 := Lib.hid (strs_own (S := S) (by rw [HL.out]; exact o1))
  clear o1
  go_wp2_with fail
  refine (K2.out _).mono ?_
  rintro e w2 ⟨g2, gc2, rfl, o2, b2⟩
  have O2 := Lib.hid (strs_own (S := S) (by rw [HL.out]; exact o2))
  have B2 := Lib.hid (then_below b1 b2)
  have KS := Lib.hid (same_yes w2 _ _ l gc gc2 _ _ (O1.out.later b2) O2.out HB.out HB.out (by omega) rfl)
  clear o2 b1 b2
  go_wp2_with fail
  refine KS.out.mono ?_
  rintro e w3 ⟨rfl, b3⟩
  have B3 := Lib.hid (then_below B2.out b3)
  clear b3
  go_wp2_with fail
  refine (KM.out _).mono ?_
  rintro e w' ⟨rfl, rfl⟩
  go_wp2_with fail
  refine (KR.out _).mono ?_
  rintro e w4 ⟨rfl, b4⟩
  have B4 := Lib.hid (then_below B3.out b4)
  clear b4
  go_wp2_with fail
  refine (KL.out _).mono ?_
  rintro e w' ⟨rfl, rfl⟩
  go_wp2_with fail
  refine (head_c _).mono ?_
  rintro e w5 ⟨rfl, b5⟩
  go_wp2_with fail
  go_ret
  exact ⟨rfl, then_below B4.out b5⟩
theorem puts_law (n : Int) (s : ByteArray) (m : Int) (w : World) (hn : 0 ≤ n ∧ n ≤ 18446744073709551615) (hs : s.size ≤ maxLen) (hm : -9223372036854775808 ≤ m ∧ m ≤ 9223372036854775807) :
    Calls Tryd.prog 3 #[.int .u64 n, .string s, .int .i64 m] w fun e w' => e = .returned (.bool true) ∧ Below w.heap.size w w' := by
  obtain ⟨n, rfl⟩ : ∃ k : Nat, n = k := ⟨n.toNat, by omega⟩
  by_cases h : (3000 < s.size ∧ s.size ≤ 98304) ∨ 99000 < s.size ∨ 100000 < m
  · exact puts_head n s m w hs h
  · by_cases h0 : n = 0
    · exact puts_none n s m w (by omega) (by omega) hm.1 (by omega) 2 (.inl rfl) (.inl ⟨h0, rfl⟩)
    · by_cases h1 : 98304 < s.size
      · exact puts_none n s m w (by omega) (by omega) hm.1 (by omega) 3 (.inr rfl) (.inr ⟨h0, h1, rfl⟩)
      · exact puts_some n s m w (by omega) (by omega) hm.1 (by omega) h0
theorem sget_same (G : List (List UInt8)) (w : World) (a : Option Addr) (cap : Nat) (L : List ByteArray) (hG : lists L = G) (hL : Strs w a L) (hl : L.length ≤ 1000) (hcap : L.length ≤ cap) :
    Calls Tryd.prog 14 #[.slice a L.length cap] w (SGet (Sf.pget G) w) ∧ Calls Tryd.prog 15 #[.slice a L.length cap] w (SGet (Sf.pget G) w) := by
  subst hG
  exact ⟨sheafget w a cap L hL hl hcap, by rw [Sf.get_same]; exact sheafget_ref w a cap L hL hl hcap⟩
set_option maxRecDepth 100000 in
set_option maxHeartbeats 1600000 in
theorem gets_law (w : World) (a : Option Addr) (cap : Nat) (L : List ByteArray) (hL : Strs w a L) (hl : L.length ≤ maxLen) (hs : ∀ s ∈ L, s.size ≤ maxLen) (hcap : L.length ≤ cap) :
    Calls Tryd.prog 4 #[.slice a L.length cap] w fun e w' => e = .returned (.bool true) ∧ Below w.heap.size w w' := by
  unfold maxLen at hl hs
  have KG := Lib.hid (great_c w a cap L hL hl hs)
  have HL := Lib.hid hL
  clear hL hs
  go_enter Tryd.func4, Tryd.ntmps4
  go_wp2_with fail
  refine KG.out.mono ?_
  rintro e w1 ⟨b, rfl, hb, b1⟩
  cases b with
  | true =>
    clear hb
    go_wp2_with fail
    refine (head_c _).mono ?_
    rintro e w2 ⟨rfl, b2⟩
    go_wp2_with fail
    go_ret
    exact ⟨rfl, then_below b1 b2⟩
  | false =>
    have hl40 := (hb rfl).1
    clear hb
    have B1 := Lib.hid b1
    have HL1 := Lib.hid (HL.out.later b1)
    clear b1
    cases ho : Sf.pget (lists L) with
    | none =>
      have K1 := Lib.hid ((sget_same _ w1 a cap L rfl HL1.out (by omega) hcap).1.mono fun e w' h => (⟨h.2.1 ho, h.2.2⟩ : e = .returned (.tuple #[.int .u64 0, .string ⟨#[]⟩, .int .i64 0, .bool false]) ∧ Below w1.heap.size w1 w'))
      have K2 := Lib.hid (fun w2 hL2 => (sget_same _ w2 a cap L rfl hL2 (by omega) hcap).2.mono fun e w' h => (⟨h.2.1 ho, h.2.2⟩ : e = .returned (.tuple #[.int .u64 0, .string ⟨#[]⟩, .int .i64 0, .bool false]) ∧ Below w2.heap.size w2 w'))
      have KT := Lib.hid (fun w2 hL2 => top_c w2 a cap L hL2 (by omega))
      have KR := Lib.hid (fun w2 hL2 => rtop_c w2 a cap L hL2 (by omega))
      clear ho
      obtain ⟨t, ht⟩ : ∃ t, Sf.top (L.map fun s => s.data.toList) = t := ⟨_, rfl⟩
      rw [ht] at KT KR
      clear ht
      go_wp2_with fail
      refine K1.out.mono ?_
      rintro e w2 ⟨rfl, b2⟩
      have B2 := Lib.hid (then_below B1.out b2)
      have HL2 := Lib.hid (HL1.out.later b2)
      clear b2
      go_wp2_with fail
      refine (K2.out _ HL2.out).mono ?_
      rintro e w3 ⟨rfl, b3⟩
      have B3 := Lib.hid (then_below B2.out b3)
      have HL3 := Lib.hid (HL2.out.later b3)
      clear b3
      go_wp2_with fail
      refine (KT.out _ HL3.out).mono ?_
      rintro e w4 ⟨rfl, b4⟩
      have B4 := Lib.hid (then_below B3.out b4)
      have HL4 := Lib.hid (HL3.out.later b4)
      clear b4
      go_wp2_with fail
      refine (KR.out _ HL4.out).mono ?_
      rintro e w5 ⟨rfl, b5⟩
      have B5 := Lib.hid (then_below B4.out b5)
      clear b5
      go_wp2_with fail
      refine (head_c _).mono ?_
      rintro e w6 ⟨rfl, b6⟩
      go_wp2_with fail
      go_ret
      exact ⟨rfl, then_below B5.out b6⟩
    | some y =>
      obtain ⟨n, s, k⟩ := y
      have K1 := Lib.hid ((sget_same _ w1 a cap L rfl HL1.out (by omega) hcap).1.mono fun e w' h => (⟨h.1 _ _ _ ho, h.2.2⟩ : e = .returned (.tuple #[.int .u64 (n : Nat), .string ⟨s.toArray⟩, .int .i64 (k : Nat), .bool true]) ∧ Below w1.heap.size w1 w'))
      have K2 := Lib.hid (fun w2 hL2 => (sget_same _ w2 a cap L rfl hL2 (by omega) hcap).2.mono fun e w' h => (⟨h.1 _ _ _ ho, h.2.2⟩ : e = .returned (.tuple #[.int .u64 (n : Nat), .string ⟨s.toArray⟩, .int .i64 (k : Nat), .bool true]) ∧ Below w2.heap.size w2 w'))
      have KT := Lib.hid (fun w2 hL2 => top_c w2 a cap L hL2 (by omega))
      have KR := Lib.hid (fun w2 hL2 => rtop_c w2 a cap L hL2 (by omega))
      clear ho
      obtain ⟨t, ht⟩ : ∃ t, Sf.top (L.map fun s => s.data.toList) = t := ⟨_, rfl⟩
      rw [ht] at KT KR
      clear ht
      go_wp2_with fail
      refine K1.out.mono ?_
      rintro e w2 ⟨rfl, b2⟩
      have B2 := Lib.hid (then_below B1.out b2)
      have HL2 := Lib.hid (HL1.out.later b2)
      clear b2
      go_wp2_with fail
      refine (K2.out _ HL2.out).mono ?_
      rintro e w3 ⟨rfl, b3⟩
      have B3 := Lib.hid (then_below B2.out b3)
      have HL3 := Lib.hid (HL2.out.later b3)
      clear b3
      go_wp2_with fail
      refine (KT.out _ HL3.out).mono ?_
      rintro e w4 ⟨rfl, b4⟩
      have B4 := Lib.hid (then_below B3.out b4)
      have HL4 := Lib.hid (HL3.out.later b4)
      clear b4
      go_wp2_with fail
      refine (KR.out _ HL4.out).mono ?_
      rintro e w5 ⟨rfl, b5⟩
      have B5 := Lib.hid (then_below B4.out b5)
      clear b5
      go_wp2_with fail
      refine (head_c _).mono ?_
      rintro e w6 ⟨rfl, b6⟩
      go_wp2_with fail
      go_ret
      exact ⟨rfl, then_below B5.out b6⟩
end Go.Proofs.YtbmlnodimcalgaaDoor.Shf
