/- Package tally: the law of what was put. -/
import Derived.Test.YtehofpmkplkaaaaTaBack2
import Derived.Deep.RegionWith
namespace Go.Proofs.Ytehofpmkplkaaaa.Tal
open Go.RowKit
structure ItemAt (b : Nat) (n : Nat) (i : Int) (s : ByteArray) (a : Option Addr) (len cap : Nat) (t : ByteArray) (wr : World) : Prop where
  c0 : wr.cell? ⟨b, 0, none⟩ = some (.int .u64 n)
  c1 : wr.cell? ⟨b, 1, none⟩ = some (.int .i64 i)
  c2 : wr.cell? ⟨b, 2, none⟩ = some (.string s)
  c3 : wr.cell? ⟨b, 3, none⟩ = some (.slice a len cap)
  c4 : wr.cell? ⟨b, 4, none⟩ = some (.string t)
  lt : b < wr.heap.size
theorem ItemAt.later {b n : Nat} {i : Int} {s t : ByteArray} {a : Option Addr} {len cap : Nat} {w w' : World} (h : ItemAt b n i s a len cap t w) (hb : Below w.heap.size w w') : ItemAt b n i s a len cap t w' := by
  have := h.lt
  have := hb.size
  exact ⟨by rw [hb.cell (by simpa using h.lt)]; exact h.c0, by rw [hb.cell (by simpa using h.lt)]; exact h.c1, by rw [hb.cell (by simpa using h.lt)]; exact h.c2, by rw [hb.cell (by simpa using h.lt)]; exact h.c3, by rw [hb.cell (by simpa using h.lt)]; exact h.c4, by omega⟩
theorem ItemAt.drew {b n : Nat} {i : Int} {s t : ByteArray} {a : Option Addr} {len cap : Nat} {w : World} (h : ItemAt b n i s a len cap t w) : ItemAt b n i s a len cap t w.drew := ⟨h.c0, h.c1, h.c2, h.c3, h.c4, h.lt⟩
theorem Strs.drew {w : World} {a : Option Addr} {L : List ByteArray} (h : Strs w a L) : Strs w.drew a L := h
theorem cut_at2 {G : Prop} (K : Act → World → Prop) (P : Option Addr → Nat → World → Prop) {A : Option Addr → Nat → Act} (main : (∀ x y wr, P x y wr → K (A x y) wr) → G) (rest : ∀ x y wr, P x y wr → K (A x y) wr) : G := main rest
theorem cut_at {G : Prop} (K : Act → World → Prop) (P : World → Prop) {A : Act} (main : (∀ wr, P wr → K A wr) → G) (rest : ∀ wr, P wr → K A wr) : G := main rest
set_option maxRecDepth 100000 in
set_option maxHeartbeats 1600000 in
theorem back_c (n : Nat) (i : Int) (s t : ByteArray) (w : World) (a : Option Addr) (cap : Nat) (L : List ByteArray) (hL : Strs w a L) (hs : s.size ≤ 3000) (ht : t.size ≤ 3000) (hl : L.length ≤ 300) (hz : ∀ s ∈ L, s.size ≤ 300)
    (hG : isGreat s t L = false) (hn : n < 18446744073709551616) (i0 : -9223372036854775808 ≤ i) (i1 : i ≤ 9223372036854775807) :
    Calls Try.prog 5 #[.agg #[.int .u64 n, .int .i64 i, .string s, .slice a L.length cap, .string t]] w fun e w' => e = .returned (.bool true) ∧ Below w.heap.size w w' := by
  have k1 := Lib.hid (fun w (h : Strs w a L) => hG ▸ great_c n i s t w a cap L h (by omega) (fun s hs => by have := hz s hs; unfold maxLen; omega) (by unfold maxLen; omega) (by unfold maxLen; omega))
  have p1 := Lib.hid (fun w => num_c n w hn)
  have t1 := Lib.hid (fun w => back_num n t w hn ht)
  have p2 := Lib.hid (fun w => int_c i w i0 i1)
  have t2 := Lib.hid (fun w => back_int i t w i0 i1 ht)
  have p3 := Lib.hid (fun w => text_c s w (by omega))
  have t3 := Lib.hid (fun w => back_text s t w hs ht)
  have hrl := row_len L hl hz
  have p4 := Lib.hid (fun w (h : Strs w a L) => row_c w a cap L h (by omega) (by omega))
  have t4 := Lib.hid (fun w => back_row L t w hl hz ht)
  have e1 : (Ta.num n).length + t.size ≤ 9223372036854775807 := by have := Ta.num_len n hn; omega
  have e2 : (Ta.num (zig i)).length + t.size ≤ 9223372036854775807 := by have := Ta.num_len (zig i) (zig_lt i i0 i1); omega
  have e3 : (txt s.data.toList).length + t.size ≤ 9223372036854775807 := by
    have : s.data.toList.length = s.size := by simp
    have := txt_len s.data.toList (by omega); omega
  have e4 : (row L).length + t.size ≤ 9223372036854775807 := by omega
  have HS := Lib.hid hL
  clear hL hrl hG hz hs
  go_enter Try.func5, Try.ntmps5
  go_wp2_with fail
  have I0 := Lib.hid (show ItemAt w.heap.size n i s a L.length cap t (w.alloc (.cells #[.int .u64 n, .int .i64 i, .string s, .slice a L.length cap, .string t] 25)) by constructor <;> simp [go_sem])
  have B0 := Lib.hid ((Below.refl _ w).alloc (Nat.le_refl _) (.cells #[.int .u64 n, .int .i64 i, .string s, .slice a L.length cap, .string t] 25))
  refine (k1.out (w.alloc (.cells #[.int .u64 n, .int .i64 i, .string s, .slice a L.length cap, .string t] 25)) (HS.out.later B0.out)).mono ?_
  rintro e w1 ⟨rfl, b1⟩
  have I1 := Lib.hid (I0.out.later b1)
  have B1 := Lib.hid (then_below B0.out b1)
  clear I0 B0 b1
  have c0 := I1.out.c0
  have c1 := I1.out.c1
  have c2 := I1.out.c2
  have c3 := I1.out.c3
  have c4 := I1.out.c4
  go_wp2_with fail
  rename_i K1 hK1
  apply cut_at K1 (fun wr => ItemAt w.heap.size n i s a L.length cap t wr ∧ Below w.heap.size w wr)
  · intro h
    go_region_with (first | (go_at_call 16; refine (p1.out _).mono ?_; rintro e u1 ⟨rfl, b1⟩; have J1 := (show ItemAt w.heap.size n i s a L.length cap t _ by first | exact I1.out | exact I1.out.drew).later b1; have D1 := then_below (show Below w.heap.size w _ by first | exact B1.out | exact B1.out.drew) b1; have c0 := J1.c0; have c1 := J1.c1; have c2 := J1.c2; have c3 := J1.c3; have c4 := J1.c4) | (go_at_call 25; refine (t1.out _).mono ?_; rintro e u2 ⟨rfl, b2⟩; have J2 := (show ItemAt w.heap.size n i s a L.length cap t _ by first | exact J1 | exact J1.drew).later b2; have D2 := then_below (show Below w.heap.size w _ by first | exact D1 | exact D1.drew) b2))
    all_goals exact h _ ⟨J2, D2⟩
  rintro w2 ⟨i2, d2⟩
  have I2 := Lib.hid i2
  have B2 := Lib.hid d2
  clear c0 c1 c2 c3 c4 I1 B1 i2 d2
  have c0 := I2.out.c0
  have c1 := I2.out.c1
  have c2 := I2.out.c2
  have c3 := I2.out.c3
  have c4 := I2.out.c4
  apply hK1
  go_wp2_with fail
  rename_i K2 hK2
  apply cut_at K2 (fun wr => ItemAt w.heap.size n i s a L.length cap t wr ∧ Below w.heap.size w wr)
  · intro h
    go_region_with (first | (go_at_call 18; refine (p2.out _).mono ?_; rintro e u1 ⟨rfl, b1⟩; have J1 := (show ItemAt w.heap.size n i s a L.length cap t _ by first | exact I2.out | exact I2.out.drew).later b1; have D1 := then_below (show Below w.heap.size w _ by first | exact B2.out | exact B2.out.drew) b1; have c0 := J1.c0; have c1 := J1.c1; have c2 := J1.c2; have c3 := J1.c3; have c4 := J1.c4) | (go_at_call 27; refine (t2.out _).mono ?_; rintro e u2 ⟨rfl, b2⟩; have J2 := (show ItemAt w.heap.size n i s a L.length cap t _ by first | exact J1 | exact J1.drew).later b2; have D2 := then_below (show Below w.heap.size w _ by first | exact D1 | exact D1.drew) b2))
    all_goals exact h _ ⟨J2, D2⟩
  rintro w3 ⟨i3, d3⟩
  have I3 := Lib.hid i3
  have B3 := Lib.hid d3
  clear c0 c1 c2 c3 c4 I2 B2 i3 d3
  have c0 := I3.out.c0
  have c1 := I3.out.c1
  have c2 := I3.out.c2
  have c3 := I3.out.c3
  have c4 := I3.out.c4
  apply hK2
  go_wp2_with fail
  rename_i K3 hK3
  apply cut_at K3 (fun wr => ItemAt w.heap.size n i s a L.length cap t wr ∧ Below w.heap.size w wr)
  · intro h
    go_region_with (first | (go_at_call 20; refine (p3.out _).mono ?_; rintro e u1 ⟨rfl, b1⟩; have J1 := (show ItemAt w.heap.size n i s a L.length cap t _ by first | exact I3.out | exact I3.out.drew).later b1; have D1 := then_below (show Below w.heap.size w _ by first | exact B3.out | exact B3.out.drew) b1; have c0 := J1.c0; have c1 := J1.c1; have c2 := J1.c2; have c3 := J1.c3; have c4 := J1.c4) | (go_at_call 29; refine (t3.out _).mono ?_; rintro e u2 ⟨rfl, b2⟩; have J2 := (show ItemAt w.heap.size n i s a L.length cap t _ by first | exact J1 | exact J1.drew).later b2; have D2 := then_below (show Below w.heap.size w _ by first | exact D1 | exact D1.drew) b2))
    all_goals exact h _ ⟨J2, D2⟩
  rintro w4 ⟨i4, d4⟩
  have I4 := Lib.hid i4
  have B4 := Lib.hid d4
  clear c0 c1 c2 c3 c4 I3 B3 i4 d4
  have c0 := I4.out.c0
  have c1 := I4.out.c1
  have c2 := I4.out.c2
  have c3 := I4.out.c3
  have c4 := I4.out.c4
  apply hK3
  go_wp2_with fail
  rename_i K4 hK4
  apply cut_at2 K4 (fun av cv wr => ItemAt w.heap.size n i s a L.length cap t wr ∧ Below w.heap.size w wr ∧ Strs wr av L)
  · intro h
    go_region_with (first | (go_at_call 22; refine (p4.out _ ?_).mono ?_; exact HS.out.later (by first | exact B4.out | exact B4.out.drew); rintro e u1 ⟨rfl, b1⟩; have J1 := (show ItemAt w.heap.size n i s a L.length cap t _ by first | exact I4.out | exact I4.out.drew).later b1; have D1 := then_below (show Below w.heap.size w _ by first | exact B4.out | exact B4.out.drew) b1; have c0 := J1.c0; have c1 := J1.c1; have c2 := J1.c2; have c3 := J1.c3; have c4 := J1.c4) | (go_at_call 31; refine (t4.out _).mono ?_; rintro e u2 ⟨av, cv, rfl, b2, hv2⟩; have J2 := (show ItemAt w.heap.size n i s a L.length cap t _ by first | exact J1 | exact J1.drew).later b2; have D2 := then_below (show Below w.heap.size w _ by first | exact D1 | exact D1.drew) b2))
    all_goals exact h av cv _ ⟨J2, D2, hv2⟩
  rintro av cv w5 ⟨i5, d5, v5⟩
  have I5 := Lib.hid i5
  have B5 := Lib.hid d5
  have V5 := Lib.hid v5
  clear c0 c1 c2 c3 c4 I4 B4 i5 d5 v5
  have c0 := I5.out.c0
  have c1 := I5.out.c1
  have c2 := I5.out.c2
  have c3 := I5.out.c3
  have c4 := I5.out.c4
  apply hK4
  go_wp2_with fail
  refine (same_c _ av a cv cap L ?_ ?_ (by omega)).mono ?_
  · first | exact V5.out | exact V5.out.drew
  · exact HS.out.later (by first | exact B5.out | exact B5.out.drew)
  rintro e w6 ⟨rfl, b6⟩
  have I6 := Lib.hid ((show ItemAt w.heap.size n i s a L.length cap t _ by first | exact I5.out | exact I5.out.drew).later b6)
  have B6 := Lib.hid (then_below (show Below w.heap.size w _ by first | exact B5.out | exact B5.out.drew) b6)
  clear c0 c1 c2 c3 c4 I5 B5 b6
  have c0 := I6.out.c0
  have c1 := I6.out.c1
  have c2 := I6.out.c2
  have c3 := I6.out.c3
  have c4 := I6.out.c4
  go_wp2_with fail
  refine (head_c _).mono ?_
  rintro e w7 ⟨rfl, b7⟩
  go_wp2_with fail
  go_ret
  exact ⟨rfl, then_below (show Below w.heap.size w _ by first | exact B6.out | exact B6.out.drew) b7⟩
end Go.Proofs.Ytehofpmkplkaaaa.Tal
