/- Package sheaf: what was put is got back. -/
import Derived.Test.YtbmlnodimcalgaaDoorSfLaws
import Derived.Test.YtbmlnodimcalgaaDoorSfOpen
import Derived.Laws.AppendOwnNone
namespace Go.Proofs.YtbmlnodimcalgaaDoor.Shf
open Go.RowKit Tal Rf
theorem wpList_append_strs {ops : Array Oper} {rest : List Oper} {o : Oper} {a : Act} {Q : Exit → Act → World → Prop} {w : World} (hgd : o.guard = none) (s x : Operand)
    (ho : o.op = .call { callee := .builtin .append, args := #[s, x], argTypes := #[24, 24] })
    (base : Nat) (v : Value) (n : Nat) (xs : List Value) (hs : a.eval s = v) (hown : w.ownsRow base 9 1 v n xs)
    (A : Option Addr) (L : List ByteArray) (cap : Nat) (hx : a.eval x = .slice A L.length cap) (hL : Strs w A L) (h0 : A = none → cap = 0) (hl : n + L.length ≤ 1000000) (hbase : base ≤ w.heap.size)
    (h : ∀ v' w', w'.ownsRow base 9 1 v' (n + L.length) (xs ++ L.map Value.string) → w.grownBy w' v.ownBlock → wpList Tryd.prog ops Q rest (a.put o.dst v') w') : wpList Tryd.prog ops Q (o :: rest) a w := by
  obtain ⟨i0, hi, hz0, hz1, hz2⟩ := info_parts infoStr
  cases A with
  | none =>
    cases L with
    | nil =>
      obtain rfl := h0 rfl
      exact wpList_append_own_none hgd s x 24 ho base 9 i0 1 Tryd.underlying24 hi v n xs hs hown hx (h v w (by simpa using hown) (World.grownBy.refl w _))
    | cons y t =>
      obtain ⟨_, _, h1, _⟩ := hL 0 (by simp)
      cases h1
  | some ad =>
    refine wpList_append_own w hgd s x 24 ho base 9 i0 (.string ⟨#[]⟩) 1 16 Tryd.underlying24 hi hz0 hz1 hz2 rfl (by decide) v n xs hs hown ad L.length cap (L.map Value.string) hx (by simp) ?_ ?_ (by unfold maxLen; omega) (by omega) hbase (fun v' w' h1 h2 _ => h v' w' h1 h2)
    · intro j u hu
      have hj : j < L.length := by
        rcases Nat.lt_or_ge j L.length with h' | h'
        · exact h'
        · simp [List.getElem?_eq_none h'] at hu
      obtain ⟨b, off, h1, _, h3⟩ := hL j hj
      obtain rfl := Option.some.inj h1
      have hu' : Value.string L[j] = u := by simpa [hj] using hu
      rw [Go.WideShapes.add_plain, h3, hu']
    · intro u hu
      obtain ⟨y, _, rfl⟩ := List.mem_map.1 hu
      rfl
theorem own_zero (W : World) (t base size : Nat) (hb : base ≤ W.heap.size) : (W.alloc (.cells #[] t)).ownsRow base t size (.slice (some ⟨W.heap.size, 0, none⟩) 0 0) 0 [] :=
  ⟨by simp, .inr ⟨W.heap.size, 0, #[], rfl, hb, World.alloc_heap_new W _, Nat.le_refl _, by unfold maxLen; omega, by simp, by simp⟩⟩
theorem own_cap {w : World} {base e size n g cap : Nat} {xs : List Value} (h : w.ownsRow base e size (.slice (some ⟨g, 0, none⟩) n cap) n xs) : n ≤ cap := by
  rcases h.2 with ⟨h0, _⟩ | ⟨g', cap', cur, hv, _, hh, h1, _⟩
  · cases h0
  · obtain ⟨rfl, rfl⟩ : g = g' ∧ cap = cap' := by simpa using hv
    exact h1
theorem strs_own2 {w : World} {base g cap n : Nat} {B : List ByteArray} (h : w.ownsRow base 9 1 (.slice (some ⟨g, 0, none⟩) n cap) n (B.map Value.string)) : Strs w (some ⟨g, 0, none⟩) B := by
  obtain ⟨h1, h2⟩ := own_cell h
  intro j hj
  refine ⟨g, 0, rfl, h1, ?_⟩
  rw [Nat.zero_add]
  exact h2 j _ (by simp [hj])
theorem sv_map (S : List (List UInt8)) : S.map sv = (bas S).map Value.string := by
  unfold bas
  rw [List.map_map]
  rfl
theorem bas_len (S : List (List UInt8)) : (bas S).length = S.length := by unfold bas; rw [List.length_map]
theorem lists_app (L M : List ByteArray) : lists (L ++ M) = lists L ++ lists M := by unfold lists; rw [List.map_append]
theorem str_id (s : ByteArray) : (⟨s.data.toList.toArray⟩ : ByteArray) = s := ByteArray.ext (by simp)
def GBack (n : Nat) (s : ByteArray) (a : Option Addr) (cap : Nat) (L : List ByteArray) (w : World) : Prop :=
  Calls Tryd.prog 5 #[.int .u64 n, .string s, .slice a L.length cap] w fun e w' => e = .returned (.bool true) ∧ Below w.heap.size w w'
set_option maxRecDepth 100000 in
set_option maxHeartbeats 4000000 in
theorem back_00 (n : Nat) (s : ByteArray) (w : World) (a : Option Addr) (cap : Nat) (L : List ByteArray) (hn : n < 18446744073709551616) (hs3 : s.size ≤ 3000) (hL : Strs w a L) (hl : L.length ≤ maxLen) (hs : ∀ s ∈ L, s.size ≤ maxLen) (hcap : L.length ≤ cap) (ha : a = none → cap = 0) (n0 : n = 0) (ho : Sf.pget (lists L) = none) : GBack n s a cap L w := by
  unfold GBack
  unfold maxLen at hl hs
  have KG := Lib.hid (great_c w a cap L hL hl hs)
  have HL := Lib.hid hL
  have HAN := Lib.hid ha
  have hs3' : (s.size : Int) ≤ 3000 := by omega
  have HS9 := Lib.hid hs
  have n0' : ((n : Int) == 0) = true := beq_iff_eq.2 (by omega)
  have KP := Lib.hid (fun w => put_no n s w hn (by omega) 2 (.inl ⟨n0, rfl⟩))
  have KGET := Lib.hid (fun w' hL' (h40 : L.length ≤ 1000) => (sget_same _ w' a cap L rfl hL' h40 hcap).1.mono fun e w2 h => (⟨h.2.1 ho, h.2.2⟩ : e = .returned (.tuple #[.int .u64 0, .string ⟨#[]⟩, .int .i64 0, .bool false]) ∧ Below w'.heap.size w' w2))
  clear ho
  clear hL hs hs3 n0 hn ha
  go_enter Tryd.func5, Tryd.ntmps5
  go_wp2_with fail
  refine KG.out.mono ?_
  rintro e w1 ⟨b, rfl, hb, b1⟩
  cases b with
  | true =>
    clear hb
    go_wp2_with fail
    refine (head_c _).mono ?_
    rintro e w2 ⟨rfl, b2⟩
    go_wp2_with fail
    go_ret
    exact ⟨rfl, then_below b1 b2⟩
  | false =>
    have hl40 := (hb rfl).1
    clear hb KG
    have B1 := Lib.hid b1
    have HL1 := Lib.hid (HL.out.later b1)
    clear b1
    go_wp2_with fail
    refine (KGET.out _ HL1.out (by omega)).mono ?_
    rintro e w2 ⟨rfl, b2⟩
    have B2 := Lib.hid (then_below B1.out b2)
    have HL2 := Lib.hid (HL1.out.later b2)
    clear b2 KGET
    go_wp2_with fail
    refine (KP.out _).mono ?_
    rintro e w5 ⟨rfl, b5⟩
    have B5 := Lib.hid (then_below B2.out b5)
    clear b5
    go_wp2_with fail
    refine (head_c _).mono ?_
    rintro e w6 ⟨rfl, b6⟩
    go_wp2_with fail
    go_ret
    exact ⟨rfl, then_below B5.out b6⟩
set_option maxRecDepth 100000 in
set_option maxHeartbeats 4000000 in
theorem back_01 (n : Nat) (s : ByteArray) (w : World) (a : Option Addr) (cap : Nat) (L : List ByteArray) (hn : n < 18446744073709551616) (hs3 : s.size ≤ 3000) (hL : Strs w a L) (hl : L.length ≤ maxLen) (hs : ∀ s ∈ L, s.size ≤ maxLen) (hcap : L.length ≤ cap) (ha : a = none → cap = 0) (n0 : n ≠ 0) (ho : Sf.pget (lists L) = none) : GBack n s a cap L w := by
  unfold GBack
  unfold maxLen at hl hs
  have KG := Lib.hid (great_c w a cap L hL hl hs)
  have HL := Lib.hid hL
  have HAN := Lib.hid ha
  have hs3' : (s.size : Int) ≤ 3000 := by omega
  have HS9 := Lib.hid hs
  have KP := Lib.hid (fun w => put_ok n s w n0 hn (by omega))
  unfold PutOk at KP
  have hsl : s.data.toList.length ≤ 98304 := by rw [Le.sz_list]; omega
  have hpos := Sf.many_pos s.data.toList.length
  have hlen := Sf.sheaf_len n s.data.toList
  have HMK := Lib.hid hlen
  have HIS := Lib.hid (fun R => Sf.is_put n s.data.toList R n0 hn hsl)
  have HLESS := Lib.hid (Sf.is_less n s.data.toList n0 hn hsl)
  have HTOP := Lib.hid (Sf.top_put n s.data.toList hn)
  have hm40 : Sf.many s.data.toList.length ≤ 100 := by
    have := (Ta.num_len s.data.toList.length (by omega)).1
    have := Le.sz_list s
    unfold Sf.many; omega
  obtain ⟨S, hS⟩ : ∃ S, Sf.sheaf n s.data.toList = S := ⟨_, rfl⟩
  rw [hS] at KP hlen HIS HLESS HTOP HMK
  rw [← hlen] at hm40 hpos
  obtain ⟨p, hp⟩ : ∃ p, S.length = p + 1 := ⟨S.length - 1, by omega⟩
  have HPL := Lib.hid hp
  rw [hp] at KP hm40
  have hpp : p ≤ 99 := by omega
  clear hS hlen hp hpos hm40 hsl
  have KGET := Lib.hid (fun w' hL' (h40 : L.length ≤ 1000) => (sget_same _ w' a cap L rfl hL' h40 hcap).1.mono fun e w2 h => (⟨h.2.1 ho, h.2.2⟩ : e = .returned (.tuple #[.int .u64 0, .string ⟨#[]⟩, .int .i64 0, .bool false]) ∧ Below w'.heap.size w' w2))
  clear ho
  clear hL hs hs3 n0 hn ha
  go_enter Tryd.func5, Tryd.ntmps5
  go_wp2_with fail
  refine KG.out.mono ?_
  rintro e w1 ⟨b, rfl, hb, b1⟩
  cases b with
  | true =>
    clear hb
    go_wp2_with fail
    refine (head_c _).mono ?_
    rintro e w2 ⟨rfl, b2⟩
    go_wp2_with fail
    go_ret
    exact ⟨rfl, then_below b1 b2⟩
  | false =>
    have hl40 := (hb rfl).1
    clear hb KG
    have B1 := Lib.hid b1
    have HL1 := Lib.hid (HL.out.later b1)
    clear b1
    go_wp2_with fail
    refine (KGET.out _ HL1.out (by omega)).mono ?_
    rintro e w2 ⟨rfl, b2⟩
    have B2 := Lib.hid (then_below B1.out b2)
    have HL2 := Lib.hid (HL1.out.later b2)
    clear b2 KGET
    go_wp2_with fail
    refine (KP.out _).mono ?_
    rintro e w5 ⟨g, gc, rfl, o5, b5⟩
    have B5 := Lib.hid (then_below B2.out b5)
    have HL5 := Lib.hid (HL2.out.later b5)
    have hgc := own_cap o5
    have O5 := Lib.hid (strs_own2 (B := bas S) (by rw [← sv_map]; exact o5))
    clear o5 b5 KP
    have HAL := Lib.hid ((Below.refl w5.heap.size w5).alloc (Nat.le_refl _) (.cells #[] 9))
    have HZ := Lib.hid (own_zero w5 9 w5.heap.size 1 (Nat.le_refl _))
    have hbl := bas_len S
    rw [HPL.out] at hbl
    have HBL := Lib.hid hbl
    clear hbl
    go_wp2_with (at_builtin; refine wpList_append_strs rfl _ _ rfl w5.heap.size _ _ _ rfl HZ.out (some ⟨g, 0, none⟩) (bas S) gc (by rw [HBL.out]; rfl) (O5.out.later HAL.out) (fun h => by cases h) (by rw [HBL.out]; omega) HAL.out.size ?_)
    intro v6 w6 o6 g6
    have B6a := HAL.out.grown g6 HAL.out.size (fun k hk => Tal.own_ge HZ.out hk)
    have B6 := Lib.hid B6a
    rw [HBL.out] at o6
    obtain ⟨g6', c6, rfl⟩ := own_form o6 (by omega)
    have O6 := Lib.hid o6
    have HL6 := Lib.hid (HL5.out.later B6a)
    clear g6 o6 B6a
    go_wp2_with (at_builtin; refine wpList_append_strs rfl _ _ rfl w5.heap.size _ _ _ rfl O6.out _ L cap rfl HL6.out HAN.out (by omega) B6.out.size ?_)
    intro v7 w7 o7 g7
    have B7a := B6.out.grown g7 B6.out.size (fun k hk => Tal.own_ge O6.out hk)
    have B7 := Lib.hid B7a
    obtain ⟨g7', c7, rfl⟩ := own_form o7 (by omega)
    have hc7 := own_cap o7
    rw [← List.map_append] at o7
    have O7 := Lib.hid (strs_own2 o7)
    have BB7 := Lib.hid (then_below B5.out B7a)
    have A7 := Lib.hid (O5.out.later B7a)
    clear g7 o7 B7a
    have hbl2 : (bas S ++ L).length = p + 1 + L.length := by rw [List.length_append, HBL.out]
    have hpg : Sf.pget (lists (bas S ++ L)) = some (n, s.data.toList, p + 1) := by
      rw [lists_app, lists_bas]
      have := Sf.pget_of_is (HIS.out (lists L))
      rw [← HMK.out, HPL.out] at this
      exact this
    have KG7 := Lib.hid ((sget_at _ w7 _ c7 (bas S ++ L) O7.out (by rw [hbl2]; omega) (by rw [hbl2]; omega) (p + 1 + L.length) hbl2 hpg).mono fun e w2 h => (⟨by rw [← str_id s]; exact h.1 _ _ _ rfl, h.2.2⟩ : e = .returned (.tuple #[.int .u64 n, .string s, .int .i64 ((p + 1 : Nat) : Int), .bool true]) ∧ Below w7.heap.size w7 w2))
    clear hbl2 hpg hc7
    go_wp2_with fail
    refine KG7.out.mono ?_
    rintro e w8 ⟨rfl, b8⟩
    have B8 := Lib.hid (then_below BB7.out b8)
    have A8 := Lib.hid (A7.out.later b8)
    clear b8 KG7
    have hlp : (lists (bas S)).take p = S.take p := by rw [lists_bas]
    have hless : Sf.pget (lists ((bas S).take p)) = none := by
      rw [lists_take, lists_bas]
      have := HLESS.out
      rw [← HMK.out, HPL.out] at this
      exact this
    have htl : ((bas S).take p).length = p := by rw [List.length_take, HBL.out]; omega
    have KG8 := Lib.hid ((sget_at _ w8 _ gc _ (strs_take A8.out p) (by rw [htl]; omega) (by rw [htl]; omega) p htl hless).mono fun e w2 h => (⟨h.2.1 rfl, h.2.2⟩ : e = .returned (.tuple #[.int .u64 0, .string ⟨#[]⟩, .int .i64 0, .bool false]) ∧ Below w8.heap.size w8 w2))
    clear hlp hless htl
    have q1 : (p : Int) ≤ (gc : Int) := by omega
    have q0 : (0 : Int) ≤ (p : Int) := by omega
    go_wp2_with fail
    refine KG8.out.mono ?_
    rintro e w9 ⟨rfl, b9⟩
    have B9 := Lib.hid (then_below B8.out b9)
    have KT := Lib.hid (top_at w9 _ gc S (p + 1) n (A8.out.later b9) (by rw [HPL.out]; omega) HPL.out HTOP.out)
    clear b9 KG8
    go_wp2_with fail
    refine KT.out.mono ?_
    rintro e w10 ⟨rfl, b10⟩
    have B10 := Lib.hid (then_below B9.out b10)
    clear b10
    go_wp2_with fail
    refine (head_c _).mono ?_
    rintro e w11 ⟨rfl, b11⟩
    go_wp2_with fail
    go_ret
    exact ⟨rfl, then_below B10.out b11⟩
set_option maxRecDepth 100000 in
set_option maxHeartbeats 4000000 in
theorem back_10 (n : Nat) (s : ByteArray) (w : World) (a : Option Addr) (cap : Nat) (L : List ByteArray) (hn : n < 18446744073709551616) (hs3 : s.size ≤ 3000) (hL : Strs w a L) (hl : L.length ≤ maxLen) (hs : ∀ s ∈ L, s.size ≤ maxLen) (hcap : L.length ≤ cap) (ha : a = none → cap = 0) (n0 : n = 0) (n1 k1 : Nat) (s1 : List UInt8) (ho : Sf.pget (lists L) = some (n1, s1, k1)) : GBack n s a cap L w := by
  unfold GBack
  unfold maxLen at hl hs
  have KG := Lib.hid (great_c w a cap L hL hl hs)
  have HL := Lib.hid hL
  have HAN := Lib.hid ha
  have hs3' : (s.size : Int) ≤ 3000 := by omega
  have HS9 := Lib.hid hs
  have n0' : ((n : Int) == 0) = true := beq_iff_eq.2 (by omega)
  have KP := Lib.hid (fun w => put_no n s w hn (by omega) 2 (.inl ⟨n0, rfl⟩))
  have KGET := Lib.hid (fun w' hL' (h40 : L.length ≤ 1000) => (sget_same _ w' a cap L rfl hL' h40 hcap).1.mono fun e w2 h => (⟨h.1 _ _ _ ho, h.2.2⟩ : e = .returned (.tuple #[.int .u64 (n1 : Nat), .string ⟨s1.toArray⟩, .int .i64 (k1 : Nat), .bool true]) ∧ Below w'.heap.size w' w2))
  have hIS := (Sf.pget_iff _ _ _ _).1 ho
  obtain ⟨i0, i1, i2, i3, i4, i5⟩ := hIS
  rw [lists_len] at i4
  have KP1 := Lib.hid (fun w => (show Calls Tryd.prog 8 #[.int .u64 n1, .string ⟨s1.toArray⟩] w (PutOk n1 s1 w) from put_ok n1 ⟨s1.toArray⟩ w i0 i1 (by show s1.length ≤ _; omega)))
  unfold PutOk at KP1
  have hk1 : (Sf.sheaf n1 s1).length = k1 := by rw [Sf.sheaf_len]; exact i3.symm
  have hk1p : 1 ≤ k1 := by rw [i3]; exact Sf.many_pos _
  have hbk : bas (Sf.sheaf n1 s1) = L.take k1 := lists_inj (by rw [lists_bas, lists_take]; exact i5.symm)
  obtain ⟨S1, hS1⟩ : ∃ S1, Sf.sheaf n1 s1 = S1 := ⟨_, rfl⟩
  rw [hS1] at KP1 hk1 hbk
  have HK1 := Lib.hid hk1
  have HBK := Lib.hid hbk
  rw [hk1] at KP1
  have c1 : (k1 : Int) ≤ (cap : Int) := by omega
  have c2 : (0 : Int) ≤ (k1 : Int) := by omega
  have c3 : ¬ (L.length : Int) < (k1 : Int) := by omega
  obtain ⟨ab, ao, rfl, j1, j2⟩ := HL.out 0 (by omega)
  clear j1 j2 i0 i1 i2 i3 i5 hS1 hk1 hbk ho
  clear hL hs hs3 n0 hn ha
  go_enter Tryd.func5, Tryd.ntmps5
  go_wp2_with fail
  refine KG.out.mono ?_
  rintro e w1 ⟨b, rfl, hb, b1⟩
  cases b with
  | true =>
    clear hb
    go_wp2_with fail
    refine (head_c _).mono ?_
    rintro e w2 ⟨rfl, b2⟩
    go_wp2_with fail
    go_ret
    exact ⟨rfl, then_below b1 b2⟩
  | false =>
    have hl40 := (hb rfl).1
    clear hb KG
    have B1 := Lib.hid b1
    have HL1 := Lib.hid (HL.out.later b1)
    clear b1
    go_wp2_with fail
    refine (KGET.out _ HL1.out (by omega)).mono ?_
    rintro e w2 ⟨rfl, b2⟩
    have B2 := Lib.hid (then_below B1.out b2)
    have HL2 := Lib.hid (HL1.out.later b2)
    clear b2 KGET
    go_wp2_with fail
    refine (KP1.out _).mono ?_
    rintro e w3 ⟨g1, gc1, rfl, o1, b3⟩
    have B3 := Lib.hid (then_below B2.out b3)
    have HL3 := Lib.hid (HL2.out.later b3)
    have hS1' := strs_own (S := S1) (by rw [HK1.out]; exact o1)
    have KS1 := Lib.hid (same_yes w3 _ _ k1 gc1 cap _ _ hS1' (strs_take HL3.out k1) (by rw [bas_len, HK1.out]) (by rw [List.length_take]; omega) (by omega) HBK.out)
    clear o1 b3 hS1' KP1
    go_wp2_with fail
    refine KS1.out.mono ?_
    rintro e w4 ⟨rfl, b4⟩
    have B2 := Lib.hid (then_below B3.out b4)
    have HL2 := Lib.hid (HL3.out.later b4)
    clear b4 KS1
    go_wp2_with fail
    refine (KP.out _).mono ?_
    rintro e w5 ⟨rfl, b5⟩
    have B5 := Lib.hid (then_below B2.out b5)
    clear b5
    go_wp2_with fail
    refine (head_c _).mono ?_
    rintro e w6 ⟨rfl, b6⟩
    go_wp2_with fail
    go_ret
    exact ⟨rfl, then_below B5.out b6⟩
set_option maxRecDepth 100000 in
set_option maxHeartbeats 4000000 in
theorem back_11 (n : Nat) (s : ByteArray) (w : World) (a : Option Addr) (cap : Nat) (L : List ByteArray) (hn : n < 18446744073709551616) (hs3 : s.size ≤ 3000) (hL : Strs w a L) (hl : L.length ≤ maxLen) (hs : ∀ s ∈ L, s.size ≤ maxLen) (hcap : L.length ≤ cap) (ha : a = none → cap = 0) (n0 : n ≠ 0) (n1 k1 : Nat) (s1 : List UInt8) (ho : Sf.pget (lists L) = some (n1, s1, k1)) : GBack n s a cap L w := by
  unfold GBack
  unfold maxLen at hl hs
  have KG := Lib.hid (great_c w a cap L hL hl hs)
  have HL := Lib.hid hL
  have HAN := Lib.hid ha
  have hs3' : (s.size : Int) ≤ 3000 := by omega
  have HS9 := Lib.hid hs
  have KP := Lib.hid (fun w => put_ok n s w n0 hn (by omega))
  unfold PutOk at KP
  have hsl : s.data.toList.length ≤ 98304 := by rw [Le.sz_list]; omega
  have hpos := Sf.many_pos s.data.toList.length
  have hlen := Sf.sheaf_len n s.data.toList
  have HMK := Lib.hid hlen
  have HIS := Lib.hid (fun R => Sf.is_put n s.data.toList R n0 hn hsl)
  have HLESS := Lib.hid (Sf.is_less n s.data.toList n0 hn hsl)
  have HTOP := Lib.hid (Sf.top_put n s.data.toList hn)
  have hm40 : Sf.many s.data.toList.length ≤ 100 := by
    have := (Ta.num_len s.data.toList.length (by omega)).1
    have := Le.sz_list s
    unfold Sf.many; omega
  obtain ⟨S, hS⟩ : ∃ S, Sf.sheaf n s.data.toList = S := ⟨_, rfl⟩
  rw [hS] at KP hlen HIS HLESS HTOP HMK
  rw [← hlen] at hm40 hpos
  obtain ⟨p, hp⟩ : ∃ p, S.length = p + 1 := ⟨S.length - 1, by omega⟩
  have HPL := Lib.hid hp
  rw [hp] at KP hm40
  have hpp : p ≤ 99 := by omega
  clear hS hlen hp hpos hm40 hsl
  have KGET := Lib.hid (fun w' hL' (h40 : L.length ≤ 1000) => (sget_same _ w' a cap L rfl hL' h40 hcap).1.mono fun e w2 h => (⟨h.1 _ _ _ ho, h.2.2⟩ : e = .returned (.tuple #[.int .u64 (n1 : Nat), .string ⟨s1.toArray⟩, .int .i64 (k1 : Nat), .bool true]) ∧ Below w'.heap.size w' w2))
  have hIS := (Sf.pget_iff _ _ _ _).1 ho
  obtain ⟨i0, i1, i2, i3, i4, i5⟩ := hIS
  rw [lists_len] at i4
  have KP1 := Lib.hid (fun w => (show Calls Tryd.prog 8 #[.int .u64 n1, .string ⟨s1.toArray⟩] w (PutOk n1 s1 w) from put_ok n1 ⟨s1.toArray⟩ w i0 i1 (by show s1.length ≤ _; omega)))
  unfold PutOk at KP1
  have hk1 : (Sf.sheaf n1 s1).length = k1 := by rw [Sf.sheaf_len]; exact i3.symm
  have hk1p : 1 ≤ k1 := by rw [i3]; exact Sf.many_pos _
  have hbk : bas (Sf.sheaf n1 s1) = L.take k1 := lists_inj (by rw [lists_bas, lists_take]; exact i5.symm)
  obtain ⟨S1, hS1⟩ : ∃ S1, Sf.sheaf n1 s1 = S1 := ⟨_, rfl⟩
  rw [hS1] at KP1 hk1 hbk
  have HK1 := Lib.hid hk1
  have HBK := Lib.hid hbk
  rw [hk1] at KP1
  have c1 : (k1 : Int) ≤ (cap : Int) := by omega
  have c2 : (0 : Int) ≤ (k1 : Int) := by omega
  have c3 : ¬ (L.length : Int) < (k1 : Int) := by omega
  obtain ⟨ab, ao, rfl, j1, j2⟩ := HL.out 0 (by omega)
  clear j1 j2 i0 i1 i2 i3 i5 hS1 hk1 hbk ho
  clear hL hs hs3 n0 hn ha
  go_enter Tryd.func5, Tryd.ntmps5
  go_wp2_with fail
  refine KG.out.mono ?_
  rintro e w1 ⟨b, rfl, hb, b1⟩
  cases b with
  | true =>
    clear hb
    go_wp2_with fail
    refine (head_c _).mono ?_
    rintro e w2 ⟨rfl, b2⟩
    go_wp2_with fail
    go_ret
    exact ⟨rfl, then_below b1 b2⟩
  | false =>
    have hl40 := (hb rfl).1
    clear hb KG
    have B1 := Lib.hid b1
    have HL1 := Lib.hid (HL.out.later b1)
    clear b1
    go_wp2_with fail
    refine (KGET.out _ HL1.out (by omega)).mono ?_
    rintro e w2 ⟨rfl, b2⟩
    have B2 := Lib.hid (then_below B1.out b2)
    have HL2 := Lib.hid (HL1.out.later b2)
    clear b2 KGET
    go_wp2_with fail
    refine (KP1.out _).mono ?_
    rintro e w3 ⟨g1, gc1, rfl, o1, b3⟩
    have B3 := Lib.hid (then_below B2.out b3)
    have HL3 := Lib.hid (HL2.out.later b3)
    have hS1' := strs_own (S := S1) (by rw [HK1.out]; exact o1)
    have KS1 := Lib.hid (same_yes w3 _ _ k1 gc1 cap _ _ hS1' (strs_take HL3.out k1) (by rw [bas_len, HK1.out]) (by rw [List.length_take]; omega) (by omega) HBK.out)
    clear o1 b3 hS1' KP1
    go_wp2_with fail
    refine KS1.out.mono ?_
    rintro e w4 ⟨rfl, b4⟩
    have B2 := Lib.hid (then_below B3.out b4)
    have HL2 := Lib.hid (HL3.out.later b4)
    clear b4 KS1
    go_wp2_with fail
    refine (KP.out _).mono ?_
    rintro e w5 ⟨g, gc, rfl, o5, b5⟩
    have B5 := Lib.hid (then_below B2.out b5)
    have HL5 := Lib.hid (HL2.out.later b5)
    have hgc := own_cap o5
    have O5 := Lib.hid (strs_own2 (B := bas S) (by rw [← sv_map]; exact o5))
    clear o5 b5 KP
    have HAL := Lib.hid ((Below.refl w5.heap.size w5).alloc (Nat.le_refl _) (.cells #[] 9))
    have HZ := Lib.hid (own_zero w5 9 w5.heap.size 1 (Nat.le_refl _))
    have hbl := bas_len S
    rw [HPL.out] at hbl
    have HBL := Lib.hid hbl
    clear hbl
    go_wp2_with (at_builtin; refine wpList_append_strs rfl _ _ rfl w5.heap.size _ _ _ rfl HZ.out (some ⟨g, 0, none⟩) (bas S) gc (by rw [HBL.out]; rfl) (O5.out.later HAL.out) (fun h => by cases h) (by rw [HBL.out]; omega) HAL.out.size ?_)
    intro v6 w6 o6 g6
    have B6a := HAL.out.grown g6 HAL.out.size (fun k hk => Tal.own_ge HZ.out hk)
    have B6 := Lib.hid B6a
    rw [HBL.out] at o6
    obtain ⟨g6', c6, rfl⟩ := own_form o6 (by omega)
    have O6 := Lib.hid o6
    have HL6 := Lib.hid (HL5.out.later B6a)
    clear g6 o6 B6a
    go_wp2_with (at_builtin; refine wpList_append_strs rfl _ _ rfl w5.heap.size _ _ _ rfl O6.out _ L cap rfl HL6.out HAN.out (by omega) B6.out.size ?_)
    intro v7 w7 o7 g7
    have B7a := B6.out.grown g7 B6.out.size (fun k hk => Tal.own_ge O6.out hk)
    have B7 := Lib.hid B7a
    obtain ⟨g7', c7, rfl⟩ := own_form o7 (by omega)
    have hc7 := own_cap o7
    rw [← List.map_append] at o7
    have O7 := Lib.hid (strs_own2 o7)
    have BB7 := Lib.hid (then_below B5.out B7a)
    have A7 := Lib.hid (O5.out.later B7a)
    clear g7 o7 B7a
    have hbl2 : (bas S ++ L).length = p + 1 + L.length := by rw [List.length_append, HBL.out]
    have hpg : Sf.pget (lists (bas S ++ L)) = some (n, s.data.toList, p + 1) := by
      rw [lists_app, lists_bas]
      have := Sf.pget_of_is (HIS.out (lists L))
      rw [← HMK.out, HPL.out] at this
      exact this
    have KG7 := Lib.hid ((sget_at _ w7 _ c7 (bas S ++ L) O7.out (by rw [hbl2]; omega) (by rw [hbl2]; omega) (p + 1 + L.length) hbl2 hpg).mono fun e w2 h => (⟨by rw [← str_id s]; exact h.1 _ _ _ rfl, h.2.2⟩ : e = .returned (.tuple #[.int .u64 n, .string s, .int .i64 ((p + 1 : Nat) : Int), .bool true]) ∧ Below w7.heap.size w7 w2))
    clear hbl2 hpg hc7
    go_wp2_with fail
    refine KG7.out.mono ?_
    rintro e w8 ⟨rfl, b8⟩
    have B8 := Lib.hid (then_below BB7.out b8)
    have A8 := Lib.hid (A7.out.later b8)
    clear b8 KG7
    have hlp : (lists (bas S)).take p = S.take p := by rw [lists_bas]
    have hless : Sf.pget (lists ((bas S).take p)) = none := by
      rw [lists_take, lists_bas]
      have := HLESS.out
      rw [← HMK.out, HPL.out] at this
      exact this
    have htl : ((bas S).take p).length = p := by rw [List.length_take, HBL.out]; omega
    have KG8 := Lib.hid ((sget_at _ w8 _ gc _ (strs_take A8.out p) (by rw [htl]; omega) (by rw [htl]; omega) p htl hless).mono fun e w2 h => (⟨h.2.1 rfl, h.2.2⟩ : e = .returned (.tuple #[.int .u64 0, .string ⟨#[]⟩, .int .i64 0, .bool false]) ∧ Below w8.heap.size w8 w2))
    clear hlp hless htl
    have q1 : (p : Int) ≤ (gc : Int) := by omega
    have q0 : (0 : Int) ≤ (p : Int) := by omega
    go_wp2_with fail
    refine KG8.out.mono ?_
    rintro e w9 ⟨rfl, b9⟩
    have B9 := Lib.hid (then_below B8.out b9)
    have KT := Lib.hid (top_at w9 _ gc S (p + 1) n (A8.out.later b9) (by rw [HPL.out]; omega) HPL.out HTOP.out)
    clear b9 KG8
    go_wp2_with fail
    refine KT.out.mono ?_
    rintro e w10 ⟨rfl, b10⟩
    have B10 := Lib.hid (then_below B9.out b10)
    clear b10
    go_wp2_with fail
    refine (head_c _).mono ?_
    rintro e w11 ⟨rfl, b11⟩
    go_wp2_with fail
    go_ret
    exact ⟨rfl, then_below B10.out b11⟩
set_option maxRecDepth 100000 in
theorem back_long (n : Nat) (s : ByteArray) (w : World) (a : Option Addr) (cap : Nat) (L : List ByteArray) (hz : s.size ≤ maxLen) (hs3 : 3000 < s.size) : GBack n s a cap L w := by
  unfold GBack
  unfold maxLen at hz
  have hs3' : (3000 : Int) < (s.size : Int) := by omega
  go_enter Tryd.func5, Tryd.ntmps5
  go_wp2_with fail
  refine (head_c _).mono ?_
  rintro e w1 ⟨rfl, b1⟩
  go_wp2_with fail
  go_ret
  exact ⟨rfl, b1⟩
theorem back_law (n : Int) (s : ByteArray) (w : World) (a : Option Addr) (cap : Nat) (L : List ByteArray) (hn : 0 ≤ n ∧ n ≤ 18446744073709551615) (hz : s.size ≤ maxLen) (hL : StrsD w cap a L) (hl : L.length ≤ maxLen) (hs : ∀ s ∈ L, s.size ≤ maxLen) :
    Calls Tryd.prog 5 #[.int .u64 n, .string s, .slice a L.length cap] w fun e w' => e = .returned (.bool true) ∧ Below w.heap.size w w' := by
  obtain ⟨n, rfl⟩ : ∃ k : Nat, n = k := ⟨n.toNat, by omega⟩
  by_cases hs3 : 3000 < s.size
  · exact back_long n s w a cap L hz hs3
  · by_cases n0 : n = 0
    · cases ho : Sf.pget (lists L) with
      | none => exact back_00 n s w a cap L (by omega) (by omega) hL.1 hl hs hL.2.1 hL.2.2 n0 ho
      | some x => obtain ⟨n1, s1, k1⟩ := x; exact back_10 n s w a cap L (by omega) (by omega) hL.1 hl hs hL.2.1 hL.2.2 n0 n1 k1 s1 ho
    · cases ho : Sf.pget (lists L) with
      | none => exact back_01 n s w a cap L (by omega) (by omega) hL.1 hl hs hL.2.1 hL.2.2 n0 ho
      | some x => obtain ⟨n1, s1, k1⟩ := x; exact back_11 n s w a cap L (by omega) (by omega) hL.1 hl hs hL.2.1 hL.2.2 n0 n1 k1 s1 ho
end Go.Proofs.YtbmlnodimcalgaaDoor.Shf
