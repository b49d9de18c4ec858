/- Package leaf: the law of what is got back. -/
import Derived.Test.YtgifigkgdkgbnabLfLaws
import Derived.Deep.RegionWith
import Derived.IntWalk
namespace Go.Proofs.Ytgifigkgdkgbnab.Le
open Go.RowKit Cm
theorem num_inj {l l' : List UInt8} (h : l.length = 8) (h' : l'.length = 8) (e : Lf.num l = Lf.num l') : l = l' := by
  rw [← Lf.b8_num l h, ← Lf.b8_num l' h', e]
theorem set_ne {l : List UInt8} {k : Nat} {c : UInt8} (hk : k < l.length) (hc : l[k] ≠ c) : l.set k c ≠ l := by
  intro e
  have h1 : (l.set k c)[k]'(by rw [List.length_set]; exact hk) = c := by simp
  have h2 : (l.set k c)[k]? = l[k]? := by rw [e]
  rw [List.getElem?_eq_getElem (by rw [List.length_set]; exact hk), List.getElem?_eq_getElem hk, h1] at h2
  exact hc (Option.some.inj h2).symm
/-- With another byte in a stamp it is no leaf. -/
theorem get_set (b : List UInt8) (k : Nat) (c : UInt8) (h : b.length = 64) (he : Lf.headOf b = Lf.footOf b) (hk : k < 8 ∨ 56 ≤ k) (hk2 : k < 64) (hc : b[k] ≠ c) : Lf.get (b.set k c) = none := by
  have hl : (b.set k c).length = 64 := by rw [List.length_set]; exact h
  refine get_ne _ ?_
  obtain ⟨e1, e2⟩ := ends_is _ hl
  rw [e1, e2]
  unfold Lf.headOf Lf.footOf at *
  rcases hk with hk | hk
  · rw [List.take_set, List.drop_set_of_lt (by omega), ← he]
    intro e
    have := num_inj (by rw [List.length_set, List.length_take]; omega) (by rw [List.length_take]; omega) e
    exact set_ne (by rw [List.length_take]; omega) (by simpa using hc) this
  · rw [List.take_set_of_le (by omega), List.drop_set, if_neg (by omega), he]
    intro e
    have h1 := num_inj (by simp; omega) (by simp; omega) e
    have h2 := List.reverse_inj.1 h1
    refine set_ne (l := b.drop 56) (k := k - 56) (c := c) (by rw [List.length_drop]; omega) ?_ h2.symm
    rw [List.getElem_drop]
    simpa [show 56 + (k - 56) = k by omega] using hc
theorem full_s (s : ByteArray) (w : World) (hs : s.size ≤ 48) : Calls Try.prog 31 #[.string s] w (StrRes (Lf.full s.data.toList) w) := full_c s.data.toList w (by rw [sz_list]; exact hs)
theorem below_q {w : World} (o : Obj) (n : Nat) : Below w.heap.size w ((w.alloc o).drewN n) := ((Below.refl _ _).alloc (Nat.le_refl _) o).trans ⟨rfl, rfl, rfl, Nat.le_refl _, fun _ _ => rfl⟩
theorem below_one (u : World) (o : Obj) : Below u.heap.size u (u.alloc o).drew := ((Below.refl _ u).alloc (Nat.le_refl _) o).drew
structure NearAt (g : Nat) (a : Int) (u : World) : Prop where
  lt : g < u.heap.size
  cell : u.cell? ⟨g, 2, none⟩ = some (.int .u8 a)
theorem NearAt.later {g : Nat} {a : Int} {u u' : World} (h : NearAt g a u) (b : Below u.heap.size u u') : NearAt g a u' :=
  ⟨Nat.lt_of_lt_of_le h.lt b.size, by rw [b.cell (by simpa using h.lt)]; exact h.cell⟩
/-- One byte put in the place of another. -/
theorem put_byte (s : ByteArray) (k c : Nat) (hk : k < s.size) : s.extract 0 k ++ (⟨#[UInt8.ofNat c]⟩ : ByteArray) ++ s.extract (k + 1) s.size = ⟨(s.data.toList.set k (UInt8.ofNat c)).toArray⟩ := by
  rw [ext_take, ext_drop, List.set_eq_take_append_cons_drop, if_pos (by rw [sz_list]; exact hk)]
  apply ByteArray.ext
  apply Array.ext'
  simp
set_option maxRecDepth 100000 in
set_option maxHeartbeats 800000 in
theorem back_no (n : Nat) (s : ByteArray) (a c : Int) (w : World) (hn : n < 18446744073709551616) (hs : s.size ≤ 9223372036854775807) (h : n = 0 ∨ 48 < s.size) :
    Calls Try.prog 10 #[.agg #[.int .u64 n, .string s, .int .u8 a, .int .u8 c]] w fun e w' => e = .returned (.bool true) ∧ Below w.heap.size w w' := by
  have hp : ∀ w, ∃ o : Int, o ≠ 0 ∧ Calls Try.prog 25 #[.int .u64 n, .string s] w fun e w' => e = .returned (.tuple #[.string ⟨#[]⟩, .int .i64 o]) ∧ Below w.heap.size w w' := by
    intro w
    have h1 := put_c n s w hn hs
    unfold PutRes at h1
    by_cases h0 : n = 0
    · obtain ⟨e1, e2⟩ := put_0 n s.data.toList h0
      rw [e1, e2] at h1
      exact ⟨2, by decide, h1⟩
    · obtain ⟨e1, e2⟩ := put_long n s.data.toList h0 (by rw [sz_list]; omega)
      rw [e1, e2] at h1
      exact ⟨3, by decide, h1⟩
  have KP := Lib.hid hp
  clear hp
  by_cases h0 : n = 0
  · have hz : ((n : Int) == 0) = true := beq_iff_eq.2 (by omega)
    clear h h0
    go_enter Try.func10, Try.ntmps10
    go_wp2_with fail
    go_quiet (fail)
    go_wp2_with fail
    have B0 := Lib.hid (show Below w.heap.size w ((w.alloc (.cells #[.int .u64 n, .string s, .int .u8 a, .int .u8 c] 53)).drewN nq) from below_q _ _)
    obtain ⟨o, ho, hk⟩ := KP.out ((w.alloc (.cells #[.int .u64 n, .string s, .int .u8 a, .int .u8 c] 53)).drewN nq)
    have ho2 : (o != 0) = true := bne_iff_ne.2 ho
    have ho3 : (o == 0) = false := beq_eq_false_iff_ne.2 ho
    refine hk.mono ?_
    rintro e w1 ⟨rfl, b1⟩
    clear ho hk
    go_wp2_with fail
    refine (head_c _).mono ?_
    rintro e w2 ⟨rfl, b2⟩
    go_wp2_with fail
    go_ret
    exact ⟨rfl, then_below (then_below B0.out b1) b2⟩
  · have hz : ((n : Int) == 0) = false := beq_eq_false_iff_ne.2 (by omega)
    have hl : (48 : Int) < (s.size : Int) := by omega
    clear h h0
    go_enter Try.func10, Try.ntmps10
    go_wp2_with fail
    go_quiet (fail)
    go_wp2_with fail
    have B0 := Lib.hid (show Below w.heap.size w ((w.alloc (.cells #[.int .u64 n, .string s, .int .u8 a, .int .u8 c] 53)).drewN nq) from below_q _ _)
    obtain ⟨o, ho, hk⟩ := KP.out ((w.alloc (.cells #[.int .u64 n, .string s, .int .u8 a, .int .u8 c] 53)).drewN nq)
    have ho2 : (o != 0) = true := bne_iff_ne.2 ho
    have ho3 : (o == 0) = false := beq_eq_false_iff_ne.2 ho
    refine hk.mono ?_
    rintro e w1 ⟨rfl, b1⟩
    clear ho hk
    go_wp2_with fail
    refine (head_c _).mono ?_
    rintro e w2 ⟨rfl, b2⟩
    go_wp2_with fail
    go_ret
    exact ⟨rfl, then_below (then_below B0.out b1) b2⟩
set_option maxRecDepth 100000 in
set_option maxHeartbeats 1600000 in
theorem back_yes (n : Nat) (s : ByteArray) (a c : Int) (w : World) (hn : n < 18446744073709551616) (h0 : n ≠ 0) (hs : s.size ≤ 48) (a0 : 0 ≤ a) (a1 : a ≤ 255) (c0 : 0 ≤ c) (c1 : c ≤ 255) :
    Calls Try.prog 10 #[.agg #[.int .u64 n, .string s, .int .u8 a, .int .u8 c]] w fun e w' => e = .returned (.bool true) ∧ Below w.heap.size w w' := by
  have hsl := sz_list s
  obtain ⟨B, hB⟩ : ∃ B : ByteArray, B = ⟨(Lf.leaf n s.data.toList).toArray⟩ := ⟨_, rfl⟩
  have hBl : B.data.toList = Lf.leaf n s.data.toList := by rw [hB]
  have hBs : B.size = 64 := by rw [← sz_list, hBl, Lf.leaf_len _ _ (by omega)]
  have hhf : Lf.headOf B.data.toList = n ∧ Lf.footOf B.data.toList = n := by rw [hBl]; exact ⟨Lf.head_leaf n _ hn, Lf.foot_leaf n _ hn (by omega)⟩
  have hen := ends_is B.data.toList (by rw [sz_list]; exact hBs)
  have hgt : Lf.get B.data.toList = some (n, Lf.full s.data.toList) := by
    rw [get_some _ (by rw [hen.1, hhf.1]; exact h0) (by rw [hen.1, hen.2, hhf.1, hhf.2]), hen.1, hhf.1, hBl, Lf.mid_leaf _ _ (by omega)]
  have hpk := put_ok n s.data.toList h0 (by omega)
  have kp := Lib.hid (show ∀ w, Calls Try.prog 25 #[.int .u64 n, .string s] w fun e w' => e = .returned (.tuple #[.string B, .int .i64 0]) ∧ Below w.heap.size w w' from fun w => by
    have h1 := put_c n s w hn (by omega)
    unfold PutRes at h1
    rwa [hpk.1, hpk.2, ← hB] at h1)
  have kf := Lib.hid (fun w => full_s s w hs)
  unfold StrRes at kf
  have kg := Lib.hid (show ∀ w, Calls Try.prog 27 #[.string B] w fun e w' => e = .returned (.tuple #[.int .u64 n, .string ⟨(Lf.full s.data.toList).toArray⟩, .bool true]) ∧ Below w.heap.size w w' from fun w => get_is _ _ w hgt)
  have ke := Lib.hid (fun w => ends_at B n n w (by rw [hen.1, hhf.1]) (by rw [hen.2, hhf.2]))
  obtain ⟨c, rfl⟩ : ∃ m : Nat, c = m := ⟨c.toNat, by omega⟩
  have z3 : B.size ≤ 64 := by omega
  have z4 : 64 ≤ B.size := by omega
  have kx := Lib.hid (show ∀ (k : Nat) (w : World) (hk : k < 8 ∨ 56 ≤ k) (hk2 : k < 64) (hc : ¬ (B[k]'(Nat.lt_of_lt_of_le hk2 z4)).toNat = c), Calls Try.prog 27 #[.string (B.extract 0 k ++ (⟨#[UInt8.ofNat c]⟩ : ByteArray) ++ B.extract (k + 1) B.size)] w fun e w' => e = .returned (.tuple #[.int .u64 0, .string ⟨#[]⟩, .bool false]) ∧ Below w.heap.size w w' from fun k w hk hk2 hc => by
    rw [put_byte B k c (by omega)]
    refine get_is _ none w ?_
    show Lf.get (B.data.toList.set k (UInt8.ofNat c)) = none
    refine get_set _ _ _ (by rw [sz_list]; exact hBs) (by rw [hhf.1, hhf.2]) hk hk2 (fun e => hc ?_)
    have e2 : B.data.toList[k]'(by rw [sz_list]; omega) = B[k]'(Nat.lt_of_lt_of_le hk2 z4) := by simp; rfl
    rw [e2] at e
    rw [e]
    simp; omega)
  have z1 : ((B.size : Int) != 64) = false := by rw [hBs]; rfl
  have z2 : ((B.size : Int) == 64) = true := by rw [hBs]; rfl
  have hzn : ((n : Int) == 0) = false := beq_eq_false_iff_ne.2 (by omega)
  generalize (⟨(Lf.full s.data.toList).toArray⟩ : ByteArray) = F at *
  have ka : 0 ≤ a % 16 ∧ a % 16 ≤ 15 := by omega
  obtain ⟨k0, k1⟩ := ka
  have KC : ∀ u : World, (convert 55 9 (.slice (some ⟨u.heap.size, 0, none⟩) 1 1)).run Try.prog (u.alloc (.cells #[.int .u8 c] 5)).drew = .ok (.string ⟨#[UInt8.ofNat c]⟩) (u.alloc (.cells #[.int .u8 c] 5)).drew := fun u => one_str u.drew c (by omega)
  have KC := Lib.hid KC
  have HA := Lib.hid (show ∃ k : Nat, a % 16 = k from ⟨(a % 16).toNat, by omega⟩)
  clear hB hBl hBs hhf hen hgt hpk hsl h0
  go_enter Try.func10, Try.ntmps10
  go_wp2_with fail
  go_quiet (fail)
  have N0 := Lib.hid (show NearAt w.heap.size a ((w.alloc (.cells #[.int .u64 n, .string s, .int .u8 a, .int .u8 c] 53)).drewN nq) from ⟨by simp, by simp [go_sem]⟩)
  have B0 := Lib.hid (show Below w.heap.size w ((w.alloc (.cells #[.int .u64 n, .string s, .int .u8 a, .int .u8 c] 53)).drewN nq) from below_q _ _)
  go_wp2_with fail
  refine (kp.out _).mono ?_
  rintro e w1 ⟨rfl, b1⟩
  have N1 := Lib.hid (N0.out.later b1)
  have B1 := Lib.hid (then_below B0.out b1)
  clear N0 B0 b1
  go_wp2_with fail
  refine (kg.out _).mono ?_
  rintro e w2 ⟨rfl, b2⟩
  go_wp2_with fail
  refine (ke.out _).mono ?_
  rintro e w3 ⟨rfl, b3⟩
  have N3 := Lib.hid ((N1.out.later b2).later b3)
  have B3 := Lib.hid (then_below (then_below B1.out b2) b3)
  clear N1 B1 b2 b3
  go_wp2_with fail
  refine (kf.out _).mono ?_
  rintro e w4 ⟨rfl, b4⟩
  have N4 := Lib.hid (N3.out.later b4)
  have B4 := Lib.hid (then_below B3.out b4)
  clear N3 B3 b4
  have hcell := N4.out.cell
  obtain ⟨k, hk⟩ := HA.out
  by_cases h8 : a % 16 < 8
  · rw [hk] at k0 k1 h8
    have HK := Lib.hid hk
    have hk2 : k < 64 := by omega
    have hkx : k < 8 ∨ 56 ≤ k := by omega
    have hlt : k < B.size := by omega
    have hb : (B[k]'(Nat.lt_of_lt_of_le hk2 z4)).toNat < 256 := UInt8.toNat_lt _
    by_cases hbc : (B[k]'(Nat.lt_of_lt_of_le hk2 z4)).toNat = c
    · have hq : (((B[k]'(Nat.lt_of_lt_of_le hk2 z4)).toNat : Int) == (c : Int)) = true := beq_iff_eq.2 (by omega)
      clear hbc hkx
      go_wp2_with fail
      refine (head_c _).mono ?_
      rintro e w5 ⟨rfl, b5⟩
      go_wp2_with fail
      go_ret
      exact ⟨rfl, then_below B4.out b5⟩
    · have hq : (((B[k]'(Nat.lt_of_lt_of_le hk2 z4)).toNat : Int) == (c : Int)) = false := beq_eq_false_iff_ne.2 (by omega)
      have HX := Lib.hid (fun w => kx.out (k) w hkx hk2 hbc)
      have q0 : (0 : Int) ≤ (k : Int) := by omega
      have q1 : ((k : Int) : Int) ≤ (B.size : Int) := by omega
      have q2 : ((k : Int) : Int) + 1 ≤ (B.size : Int) := by omega
      have y1 : (B.extract 0 (k)).size ≤ 64 := by rw [ByteArray.size_extract]; omega
      have y2 : (B.extract (k + 1) B.size).size ≤ 64 := by rw [ByteArray.size_extract]; omega
      have y3 : (B.extract 0 (k) ++ (⟨#[UInt8.ofNat c]⟩ : ByteArray)).size ≤ 65 := by rw [ByteArray.size_append]; show _ + 1 ≤ 65; omega
      have KC2 := KC.out
      clear hbc hkx kx
      go_wp2_with fail
      have hw2 : (0 : Int) ≤ (k : Int) + 1 := by omega
      have hw3 : ((k : Int) + 1).toNat = k + 1 := by omega
      have hw1 : IntKind.i64.wrap ((k : Int) + 1) = (k : Int) + 1 := IntWalk.i64_in _ (by omega)
      go_region_with (first | (go_at_call 27; refine (HX.out _).mono ?_; rintro e u1 ⟨rfl, b1⟩))
      all_goals clear hw1 hw3
      all_goals go_wp2_with fail
      all_goals refine (head_c _).mono ?_
      all_goals rintro e u2 ⟨rfl, b2⟩
      all_goals go_wp2_with fail
      all_goals go_ret
      all_goals exact ⟨rfl, then_below (then_below (then_below B4.out (below_one _ _)) b1) b2⟩
  · clear hk k
    obtain ⟨k, hk⟩ : ∃ m : Nat, a % 16 = (m : Int) - 48 := ⟨(a % 16 + 48).toNat, by omega⟩
    rw [hk] at k0 k1 h8
    have h56 : (56 : Int) ≤ (k : Int) := by omega
    have h63 : (k : Int) ≤ 63 := by omega
    have hk2 : k < 64 := by omega
    have hkx : k < 8 ∨ 56 ≤ k := by omega
    have hlt : k < B.size := by omega
    have hb : (B[k]'(Nat.lt_of_lt_of_le hk2 z4)).toNat < 256 := UInt8.toNat_lt _
    by_cases hbc : (B[k]'(Nat.lt_of_lt_of_le hk2 z4)).toNat = c
    · have hq : (((B[k]'(Nat.lt_of_lt_of_le hk2 z4)).toNat : Int) == (c : Int)) = true := beq_iff_eq.2 (by omega)
      clear hbc hkx
      go_wp2_with fail
      refine (head_c _).mono ?_
      rintro e w5 ⟨rfl, b5⟩
      go_wp2_with fail
      go_ret
      exact ⟨rfl, then_below B4.out b5⟩
    · have hq : (((B[k]'(Nat.lt_of_lt_of_le hk2 z4)).toNat : Int) == (c : Int)) = false := beq_eq_false_iff_ne.2 (by omega)
      have HX := Lib.hid (fun w => kx.out (k) w hkx hk2 hbc)
      have q0 : (0 : Int) ≤ (k : Int) := by omega
      have q1 : ((k : Int) : Int) ≤ (B.size : Int) := by omega
      have q2 : ((k : Int) : Int) + 1 ≤ (B.size : Int) := by omega
      have y1 : (B.extract 0 (k)).size ≤ 64 := by rw [ByteArray.size_extract]; omega
      have y2 : (B.extract (k + 1) B.size).size ≤ 64 := by rw [ByteArray.size_extract]; omega
      have y3 : (B.extract 0 (k) ++ (⟨#[UInt8.ofNat c]⟩ : ByteArray)).size ≤ 65 := by rw [ByteArray.size_append]; show _ + 1 ≤ 65; omega
      have KC2 := KC.out
      clear hbc hkx kx
      go_wp2_with fail
      have hw2 : (0 : Int) ≤ (k : Int) + 1 := by omega
      have hw3 : ((k : Int) + 1).toNat = k + 1 := by omega
      have hw1 : IntKind.i64.wrap ((k : Int) + 1) = (k : Int) + 1 := IntWalk.i64_in _ (by omega)
      go_region_with (first | (go_at_call 27; refine (HX.out _).mono ?_; rintro e u1 ⟨rfl, b1⟩))
      all_goals clear hw1 hw3
      all_goals go_wp2_with fail
      all_goals refine (head_c _).mono ?_
      all_goals rintro e u2 ⟨rfl, b2⟩
      all_goals go_wp2_with fail
      all_goals go_ret
      all_goals exact ⟨rfl, then_below (then_below (then_below B4.out (below_one _ _)) b1) b2⟩
theorem back_law (n : Int) (s : ByteArray) (a c : Int) (w : World) (hn : 0 ≤ n ∧ n ≤ 18446744073709551615) (hs : s.size ≤ maxLen) (ha : 0 ≤ a ∧ a ≤ 255) (hc : 0 ≤ c ∧ c ≤ 255) :
    Calls Try.prog 10 #[.agg #[.int .u64 n, .string s, .int .u8 a, .int .u8 c]] w fun e w' => e = .returned (.bool true) ∧ Below w.heap.size w w' := by
  obtain ⟨n, rfl⟩ : ∃ m : Nat, n = m := ⟨n.toNat, by omega⟩
  unfold maxLen at hs
  by_cases h : n = 0 ∨ 48 < s.size
  · exact back_no n s a c w (by omega) (by omega) h
  · exact back_yes n s a c w (by omega) (by omega) (by omega) ha.1 ha.2 hc.1 hc.2
end Go.Proofs.Ytgifigkgdkgbnab.Le
