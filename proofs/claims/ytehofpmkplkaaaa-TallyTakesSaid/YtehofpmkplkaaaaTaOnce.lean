/- Package tally: its law of one way. -/
import Derived.Test.YtehofpmkplkaaaaTaHead
import Derived.Test.YtehofpmkplkaaaaTaMath5
namespace Go.Proofs.Ytehofpmkplkaaaa.Tal
open Go.RowKit
theorem cat_eq {x r : List UInt8} {s : ByteArray} (h : x ++ r = s.data.toList) : (⟨x.toArray⟩ : ByteArray) ++ ⟨r.toArray⟩ = s := by
  apply ByteArray.ext
  apply Array.ext'
  simpa using h
theorem own_strs {w : World} {base : Nat} {v : Value} {l : List (List UInt8)} (h : w.ownsRow base 9 1 v l.length (l.map sv)) :
    ∃ a cap, v = .slice a (bas l).length cap ∧ Strs w a (bas l) := by
  rcases h.2 with ⟨rfl, h0⟩ | ⟨g, cap, cur, rfl, _, hg, _⟩
  · have hl : l = [] := List.eq_nil_of_length_eq_zero h0
    subst hl
    exact ⟨none, 0, rfl, fun j hj => by simp [bas] at hj⟩
  · refine ⟨some ⟨g, 0, none⟩, cap, by simp [bas], ?_⟩
    intro j hj
    have hj' : j < l.length := by simpa [bas] using hj
    refine ⟨g, 0, rfl, World.block_lt_of_cell? w ⟨g, 0 + j, none⟩ (u := sv l[j]) ?_, ?_⟩
    · rw [← Go.WideShapes.add_plain]; exact h.cells rfl j _ (by simp [hj'])
    · rw [← Go.WideShapes.add_plain, h.cells rfl j (sv l[j]) (by simp [hj'])]; simp only [bas, List.getElem_map]; rfl
theorem row_some {l : List (List UInt8)} {r : List UInt8} {w w' : World} {e : Ending} (h : RowRes (some (l, r)) w e w') :
    ∃ av cv, e = .returned (.tuple #[.slice av (bas l).length cv, .string ⟨r.toArray⟩, .bool true]) ∧ Below w.heap.size w w' ∧ Strs w' av (bas l) := by
  obtain ⟨v, rfl, hb, hv⟩ := h
  obtain ⟨av, cv, rfl, hs⟩ := own_strs (l := l) hv
  exact ⟨av, cv, rfl, hb, hs⟩
theorem row_none {w w' : World} {e : Ending} (h : RowRes none w e w') :
    ∃ av cv, e = .returned (.tuple #[.slice av 0 cv, .string ⟨#[]⟩, .bool false]) ∧ Below w.heap.size w w' := by
  obtain ⟨v, rfl, hb, hv⟩ := h
  obtain ⟨av, cv, rfl, hs⟩ := own_strs (l := []) hv
  exact ⟨av, cv, rfl, hb⟩
theorem size_cat {x r : List UInt8} {s : ByteArray} (h : (⟨x.toArray⟩ : ByteArray) ++ ⟨r.toArray⟩ = s) : x.length + r.length = s.size := by
  have h1 : (⟨x.toArray⟩ : ByteArray).size + (⟨r.toArray⟩ : ByteArray).size = s.size := by rw [← ByteArray.size_append, h]
  exact h1
theorem total_txts (l : List (List UInt8)) : total (bas l) ≤ (txtsL l).length := by
  induction l with
  | nil => simp [bas, total, txtsL]
  | cons x l ih =>
    simp only [bas, total, txtsL, List.map_cons, List.sum_cons, List.length_append] at *
    have h1 : (⟨x.toArray⟩ : ByteArray).size = x.length := rfl
    have h2 : x.length ≤ (txt x).length := by unfold txt; simp
    omega
set_option maxRecDepth 100000 in
set_option maxHeartbeats 1600000 in
theorem once_0 (s : ByteArray) (w : World) (hs : s.size ≤ 3000) (hT : Ta.take 0 s.data.toList = none) (hX : Ta.takeText s.data.toList = none) (hR : takeRow s.data.toList = none) :
    Calls Try.prog 6 #[.string s] w fun e w' => e = .returned (.bool true) ∧ Below w.heap.size w w' := by
  have hml : s.size ≤ maxLen := by unfold maxLen; omega
  have hs9 : ¬ (3000 : Int) < (s.size : Int) := by omega
  have k1 := Lib.hid (fun w => hT ▸ takeNum_c s w hml)
  have k2 := Lib.hid (fun w => hT ▸ takeInt_c s w hml)
  have k3 := Lib.hid (fun w => hX ▸ takeText_c s w hml)
  have k4 := Lib.hid (fun w => (hR ▸ takeRow_c s w (by omega)).mono (fun e w' h => row_none h))
  clear hT hX hR hs
  go_enter Try.func6, Try.ntmps6
  go_wp2_with fail
  refine (k1.out w).mono ?_
  rintro e w1 ⟨rfl, b1⟩
  go_wp2_with fail
  refine (k2.out w1).mono ?_
  rintro e w2 ⟨rfl, b2⟩
  go_wp2_with fail
  refine (k3.out w2).mono ?_
  rintro e w3 ⟨rfl, b3⟩
  go_wp2_with fail
  refine (k4.out w3).mono ?_
  rintro e w4 ⟨av, cv, rfl, b4⟩
  go_wp2_with fail
  refine (head_c w4).mono ?_
  rintro e w5 ⟨rfl, b5⟩
  go_wp2_with fail
  go_ret
  exact ⟨rfl, then_below (then_below (then_below (then_below b1 b2) b3) b4) b5⟩
set_option maxRecDepth 100000 in
set_option maxHeartbeats 1600000 in
theorem once_1 (s : ByteArray) (w : World) (hs : s.size ≤ 3000) (n : Nat) (r : List UInt8) (hT : Ta.take 0 s.data.toList = some (n, r)) (hX : Ta.takeText s.data.toList = none) (hR : takeRow s.data.toList = none) :
    Calls Try.prog 6 #[.string s] w fun e w' => e = .returned (.bool true) ∧ Below w.heap.size w w' := by
  have hml : s.size ≤ maxLen := by unfold maxLen; omega
  have hs9 : ¬ (3000 : Int) < (s.size : Int) := by omega
  have k1 := Lib.hid (fun w => hT ▸ takeNum_c s w hml)
  have k2 := Lib.hid (fun w => hT ▸ takeInt_c s w hml)
  have k3 := Lib.hid (fun w => hX ▸ takeText_c s w hml)
  have k4 := Lib.hid (fun w => (hR ▸ takeRow_c s w (by omega)).mono (fun e w' h => row_none h))
  have hn := (Ta.take_bound _ _ _ _ hT).1
  have c1 := cat_eq (by simpa [Ta.up_zero] using Ta.take_once _ _ _ _ hT : Ta.num n ++ r = s.data.toList)
  have hu := unz_range n hn
  have hz1' : (Ta.num n).length + r.length ≤ 9223372036854775807 := by have := size_cat c1; omega
  have p1 := Lib.hid (fun w => num_c n w hn)
  have p2 := Lib.hid (fun w => (zig_unz n) ▸ int_c (unz n) w hu.1 hu.2)
  clear hT hX hR hs
  go_enter Try.func6, Try.ntmps6
  go_wp2_with fail
  refine (k1.out w).mono ?_
  rintro e w1 ⟨rfl, b1⟩
  go_wp2_with fail
  refine (p1.out w1).mono ?_
  rintro e w2 ⟨rfl, b2⟩
  go_wp2_with fail
  refine (k2.out w2).mono ?_
  rintro e w3 ⟨rfl, b3⟩
  go_wp2_with fail
  refine (p2.out w3).mono ?_
  rintro e w4 ⟨rfl, b4⟩
  go_wp2_with fail
  refine (k3.out w4).mono ?_
  rintro e w5 ⟨rfl, b5⟩
  go_wp2_with fail
  refine (k4.out w5).mono ?_
  rintro e w6 ⟨av, cv, rfl, b6⟩
  go_wp2_with fail
  refine (head_c w6).mono ?_
  rintro e w7 ⟨rfl, b7⟩
  go_wp2_with fail
  go_ret
  exact ⟨rfl, then_below (then_below (then_below (then_below (then_below (then_below b1 b2) b3) b4) b5) b6) b7⟩
set_option maxRecDepth 100000 in
set_option maxHeartbeats 1600000 in
theorem once_2 (s : ByteArray) (w : World) (hs : s.size ≤ 3000) (n : Nat) (r : List UInt8) (hT : Ta.take 0 s.data.toList = some (n, r)) (hX : Ta.takeText s.data.toList = none) (l : List (List UInt8)) (r3 : List UInt8) (hR : takeRow s.data.toList = some (l, r3)) :
    Calls Try.prog 6 #[.string s] w fun e w' => e = .returned (.bool true) ∧ Below w.heap.size w w' := by
  have hml : s.size ≤ maxLen := by unfold maxLen; omega
  have hs9 : ¬ (3000 : Int) < (s.size : Int) := by omega
  have k1 := Lib.hid (fun w => hT ▸ takeNum_c s w hml)
  have k2 := Lib.hid (fun w => hT ▸ takeInt_c s w hml)
  have k3 := Lib.hid (fun w => hX ▸ takeText_c s w hml)
  have k4 := Lib.hid (fun w => (hR ▸ takeRow_c s w (by omega)).mono (fun e w' h => row_some h))
  have hn := (Ta.take_bound _ _ _ _ hT).1
  have c1 := cat_eq (by simpa [Ta.up_zero] using Ta.take_once _ _ _ _ hT : Ta.num n ++ r = s.data.toList)
  have hu := unz_range n hn
  have hz1' : (Ta.num n).length + r.length ≤ 9223372036854775807 := by have := size_cat c1; omega
  have p1 := Lib.hid (fun w => num_c n w hn)
  have p2 := Lib.hid (fun w => (zig_unz n) ▸ int_c (unz n) w hu.1 hu.2)
  have hro := takeRow_once _ _ _ hR
  have c4 := cat_eq hro.1
  have hz4' : (rowL l).length + r3.length ≤ 9223372036854775807 := by have := size_cat c4; omega
  have hll : l.length ≤ 3000 := by
    have : s.data.toList.length = s.size := by simp
    omega
  have htt : total (bas l) ≤ 1073741824 := by
    have h1 := total_txts l
    have h2 := congrArg List.length hro.1
    have : s.data.toList.length = s.size := by simp
    unfold rowL at h2
    simp at h2
    omega
  have p4 := Lib.hid (fun w a cap (hL : Strs w a (bas l)) => (row_bas l) ▸ row_c w a cap (bas l) hL (by simp [bas]; omega) htt)
  clear hro
  clear hT hX hR hs
  go_enter Try.func6, Try.ntmps6
  go_wp2_with fail
  refine (k1.out w).mono ?_
  rintro e w1 ⟨rfl, b1⟩
  go_wp2_with fail
  refine (p1.out w1).mono ?_
  rintro e w2 ⟨rfl, b2⟩
  go_wp2_with fail
  refine (k2.out w2).mono ?_
  rintro e w3 ⟨rfl, b3⟩
  go_wp2_with fail
  refine (p2.out w3).mono ?_
  rintro e w4 ⟨rfl, b4⟩
  go_wp2_with fail
  refine (k3.out w4).mono ?_
  rintro e w5 ⟨rfl, b5⟩
  go_wp2_with fail
  refine (k4.out w5).mono ?_
  rintro e w6 ⟨av, cv, rfl, b6, hstr⟩
  go_wp2_with fail
  refine (p4.out w6 av cv hstr).mono ?_
  rintro e w7 ⟨rfl, b7⟩
  go_wp2_with fail
  refine (head_c w7).mono ?_
  rintro e w8 ⟨rfl, b8⟩
  go_wp2_with fail
  go_ret
  exact ⟨rfl, then_below (then_below (then_below (then_below (then_below (then_below (then_below b1 b2) b3) b4) b5) b6) b7) b8⟩
set_option maxRecDepth 100000 in
set_option maxHeartbeats 1600000 in
theorem once_3 (s : ByteArray) (w : World) (hs : s.size ≤ 3000) (n : Nat) (r : List UInt8) (hT : Ta.take 0 s.data.toList = some (n, r)) (x r2 : List UInt8) (hX : Ta.takeText s.data.toList = some (x, r2)) (hR : takeRow s.data.toList = none) :
    Calls Try.prog 6 #[.string s] w fun e w' => e = .returned (.bool true) ∧ Below w.heap.size w w' := by
  have hml : s.size ≤ maxLen := by unfold maxLen; omega
  have hs9 : ¬ (3000 : Int) < (s.size : Int) := by omega
  have k1 := Lib.hid (fun w => hT ▸ takeNum_c s w hml)
  have k2 := Lib.hid (fun w => hT ▸ takeInt_c s w hml)
  have k3 := Lib.hid (fun w => hX ▸ takeText_c s w hml)
  have k4 := Lib.hid (fun w => (hR ▸ takeRow_c s w (by omega)).mono (fun e w' h => row_none h))
  have hn := (Ta.take_bound _ _ _ _ hT).1
  have c1 := cat_eq (by simpa [Ta.up_zero] using Ta.take_once _ _ _ _ hT : Ta.num n ++ r = s.data.toList)
  have hu := unz_range n hn
  have hz1' : (Ta.num n).length + r.length ≤ 9223372036854775807 := by have := size_cat c1; omega
  have p1 := Lib.hid (fun w => num_c n w hn)
  have p2 := Lib.hid (fun w => (zig_unz n) ▸ int_c (unz n) w hu.1 hu.2)
  have c3 := cat_eq (takeText_once _ _ _ hX)
  have hz3' : (txt x).length + r2.length ≤ 9223372036854775807 := by have := size_cat c3; omega
  have hxs : x.length ≤ 1099511627776 := by
    have h1 := takeText_len _ _ _ hX
    have : s.data.toList.length = s.size := by simp
    omega
  have p3 := Lib.hid (fun w => text_c ⟨x.toArray⟩ w hxs)
  clear hT hX hR hs
  go_enter Try.func6, Try.ntmps6
  go_wp2_with fail
  refine (k1.out w).mono ?_
  rintro e w1 ⟨rfl, b1⟩
  go_wp2_with fail
  refine (p1.out w1).mono ?_
  rintro e w2 ⟨rfl, b2⟩
  go_wp2_with fail
  refine (k2.out w2).mono ?_
  rintro e w3 ⟨rfl, b3⟩
  go_wp2_with fail
  refine (p2.out w3).mono ?_
  rintro e w4 ⟨rfl, b4⟩
  go_wp2_with fail
  refine (k3.out w4).mono ?_
  rintro e w5 ⟨rfl, b5⟩
  go_wp2_with fail
  refine (p3.out w5).mono ?_
  rintro e w6 ⟨rfl, b6⟩
  go_wp2_with fail
  refine (k4.out w6).mono ?_
  rintro e w7 ⟨av, cv, rfl, b7⟩
  go_wp2_with fail
  refine (head_c w7).mono ?_
  rintro e w8 ⟨rfl, b8⟩
  go_wp2_with fail
  go_ret
  exact ⟨rfl, then_below (then_below (then_below (then_below (then_below (then_below (then_below b1 b2) b3) b4) b5) b6) b7) b8⟩
set_option maxRecDepth 100000 in
set_option maxHeartbeats 1600000 in
theorem once_4 (s : ByteArray) (w : World) (hs : s.size ≤ 3000) (n : Nat) (r : List UInt8) (hT : Ta.take 0 s.data.toList = some (n, r)) (x r2 : List UInt8) (hX : Ta.takeText s.data.toList = some (x, r2)) (l : List (List UInt8)) (r3 : List UInt8) (hR : takeRow s.data.toList = some (l, r3)) :
    Calls Try.prog 6 #[.string s] w fun e w' => e = .returned (.bool true) ∧ Below w.heap.size w w' := by
  have hml : s.size ≤ maxLen := by unfold maxLen; omega
  have hs9 : ¬ (3000 : Int) < (s.size : Int) := by omega
  have k1 := Lib.hid (fun w => hT ▸ takeNum_c s w hml)
  have k2 := Lib.hid (fun w => hT ▸ takeInt_c s w hml)
  have k3 := Lib.hid (fun w => hX ▸ takeText_c s w hml)
  have k4 := Lib.hid (fun w => (hR ▸ takeRow_c s w (by omega)).mono (fun e w' h => row_some h))
  have hn := (Ta.take_bound _ _ _ _ hT).1
  have c1 := cat_eq (by simpa [Ta.up_zero] using Ta.take_once _ _ _ _ hT : Ta.num n ++ r = s.data.toList)
  have hu := unz_range n hn
  have hz1' : (Ta.num n).length + r.length ≤ 9223372036854775807 := by have := size_cat c1; omega
  have p1 := Lib.hid (fun w => num_c n w hn)
  have p2 := Lib.hid (fun w => (zig_unz n) ▸ int_c (unz n) w hu.1 hu.2)
  have c3 := cat_eq (takeText_once _ _ _ hX)
  have hz3' : (txt x).length + r2.length ≤ 9223372036854775807 := by have := size_cat c3; omega
  have hxs : x.length ≤ 1099511627776 := by
    have h1 := takeText_len _ _ _ hX
    have : s.data.toList.length = s.size := by simp
    omega
  have p3 := Lib.hid (fun w => text_c ⟨x.toArray⟩ w hxs)
  have hro := takeRow_once _ _ _ hR
  have c4 := cat_eq hro.1
  have hz4' : (rowL l).length + r3.length ≤ 9223372036854775807 := by have := size_cat c4; omega
  have hll : l.length ≤ 3000 := by
    have : s.data.toList.length = s.size := by simp
    omega
  have htt : total (bas l) ≤ 1073741824 := by
    have h1 := total_txts l
    have h2 := congrArg List.length hro.1
    have : s.data.toList.length = s.size := by simp
    unfold rowL at h2
    simp at h2
    omega
  have p4 := Lib.hid (fun w a cap (hL : Strs w a (bas l)) => (row_bas l) ▸ row_c w a cap (bas l) hL (by simp [bas]; omega) htt)
  clear hro
  clear hT hX hR hs
  go_enter Try.func6, Try.ntmps6
  go_wp2_with fail
  refine (k1.out w).mono ?_
  rintro e w1 ⟨rfl, b1⟩
  go_wp2_with fail
  refine (p1.out w1).mono ?_
  rintro e w2 ⟨rfl, b2⟩
  go_wp2_with fail
  refine (k2.out w2).mono ?_
  rintro e w3 ⟨rfl, b3⟩
  go_wp2_with fail
  refine (p2.out w3).mono ?_
  rintro e w4 ⟨rfl, b4⟩
  go_wp2_with fail
  refine (k3.out w4).mono ?_
  rintro e w5 ⟨rfl, b5⟩
  go_wp2_with fail
  refine (p3.out w5).mono ?_
  rintro e w6 ⟨rfl, b6⟩
  go_wp2_with fail
  refine (k4.out w6).mono ?_
  rintro e w7 ⟨av, cv, rfl, b7, hstr⟩
  go_wp2_with fail
  refine (p4.out w7 av cv hstr).mono ?_
  rintro e w8 ⟨rfl, b8⟩
  go_wp2_with fail
  refine (head_c w8).mono ?_
  rintro e w9 ⟨rfl, b9⟩
  go_wp2_with fail
  go_ret
  exact ⟨rfl, then_below (then_below (then_below (then_below (then_below (then_below (then_below (then_below b1 b2) b3) b4) b5) b6) b7) b8) b9⟩
set_option maxRecDepth 100000 in
theorem once_long (s : ByteArray) (w : World) (h64 : s.size ≤ maxLen) (hs : 3000 < s.size) :
    Calls Try.prog 6 #[.string s] w fun e w' => e = .returned (.bool true) ∧ Below w.heap.size w w' := by
  unfold maxLen at h64
  have hs9 : (3000 : Int) < (s.size : Int) := by omega
  go_enter Try.func6, Try.ntmps6
  go_wp2_with fail
  refine (head_c w).mono ?_
  rintro e w1 ⟨rfl, b1⟩
  go_wp2_with fail
  go_ret
  exact ⟨rfl, b1⟩
theorem once_law (s : ByteArray) (w : World) (h64 : s.size ≤ maxLen) :
    Calls Try.prog 6 #[.string s] w fun e w' => e = .returned (.bool true) ∧ Below w.heap.size w w' := by
  by_cases hs : s.size ≤ 3000
  · cases hT : Ta.take 0 s.data.toList with
    | none => exact once_0 s w hs hT (by unfold Ta.takeText; rw [hT]) (by unfold takeRow; rw [hT])
    | some y =>
      obtain ⟨n, r⟩ := y
      cases hX : Ta.takeText s.data.toList with
      | none =>
        cases hR : takeRow s.data.toList with
        | none => exact once_1 s w hs n r hT hX hR
        | some z => exact once_2 s w hs n r hT hX z.1 z.2 hR
      | some x =>
        cases hR : takeRow s.data.toList with
        | none => exact once_3 s w hs n r hT x.1 x.2 hX hR
        | some z => exact once_4 s w hs n r hT x.1 x.2 hX z.1 z.2 hR
  · exact once_long s w h64 (by omega)
end Go.Proofs.Ytehofpmkplkaaaa.Tal
