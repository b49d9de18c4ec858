/- Package leaf: its laws of what is put, and what is got. -/
import Derived.Test.YtgifigkgdkgbnabLfHead
namespace Go.Proofs.Ytgifigkgdkgbnab.Le
open Go.RowKit Cm
theorem rget_is (s : ByteArray) (o : Option (Nat × List UInt8)) (w : World) (h : Lf.get s.data.toList = o) : Calls Try.prog 28 #[.string s] w (GetRes o w) := h ▸ rget_c s w
set_option maxRecDepth 100000 in
theorem puts_law (n : Int) (s : ByteArray) (w : World) (hn : 0 ≤ n ∧ n ≤ 18446744073709551615) (hs : s.size ≤ maxLen) :
    Calls Try.prog 8 #[.int .u64 n, .string s] w fun e w' => e = .returned (.bool true) ∧ Below w.heap.size w w' := by
  obtain ⟨n, rfl⟩ : ∃ m : Nat, n = m := ⟨n.toNat, by omega⟩
  unfold maxLen at hs
  by_cases h : 100 < s.size
  · have h2 : (100 : Int) < (s.size : Int) := by omega
    go_enter Try.func8, Try.ntmps8
    go_wp2_with fail
    refine (head_c _).mono ?_
    rintro e w1 ⟨rfl, b1⟩
    go_wp2_with fail
    go_ret
    exact ⟨rfl, b1⟩
  · have h2 : ¬ (100 : Int) < (s.size : Int) := by omega
    have p1 := Lib.hid (fun w => put_c n s w (by omega) (by omega))
    have q1 := Lib.hid (fun w => rput_s n s w (by omega) (by omega))
    unfold PutRes at p1 q1
    generalize putS n s.data.toList = t at *
    generalize putE n s.data.toList = o at *
    clear hn h
    go_enter Try.func8, Try.ntmps8
    go_wp2_with fail
    refine (p1.out _).mono ?_
    rintro e w1 ⟨rfl, b1⟩
    go_wp2_with fail
    refine (q1.out _).mono ?_
    rintro e w2 ⟨rfl, b2⟩
    go_wp2_with fail
    refine (head_c _).mono ?_
    rintro e w3 ⟨rfl, b3⟩
    go_wp2_with fail
    go_ret
    exact ⟨rfl, then_below (then_below b1 b2) b3⟩
set_option maxRecDepth 100000 in
theorem gets_law (s : ByteArray) (w : World) (hs : s.size ≤ maxLen) :
    Calls Try.prog 9 #[.string s] w fun e w' => e = .returned (.bool true) ∧ Below w.heap.size w w' := by
  unfold maxLen at hs
  by_cases h : 200 < s.size
  · have h2 : (200 : Int) < (s.size : Int) := by omega
    go_enter Try.func9, Try.ntmps9
    go_wp2_with fail
    refine (head_c _).mono ?_
    rintro e w1 ⟨rfl, b1⟩
    go_wp2_with fail
    go_ret
    exact ⟨rfl, b1⟩
  · have h2 : ¬ (200 : Int) < (s.size : Int) := by omega
    have p2 := Lib.hid (fun w => ends_c s w)
    have q2 := Lib.hid (fun w => rends_c s w)
    unfold EndsRes at p2 q2
    have hel := ends_lt s.data.toList
    cases hG : Lf.get s.data.toList with
    | none =>
      have p1 := Lib.hid (show ∀ w, Calls Try.prog 27 #[.string s] w fun e w' => e = .returned (.tuple #[.int .u64 0, .string ⟨#[]⟩, .bool false]) ∧ Below w.heap.size w w' from fun w => get_is s _ w hG)
      have q1 := Lib.hid (show ∀ w, Calls Try.prog 28 #[.string s] w fun e w' => e = .returned (.tuple #[.int .u64 0, .string ⟨#[]⟩, .bool false]) ∧ Below w.heap.size w w' from fun w => rget_is s _ w hG)
      have p3 := Lib.hid (show ∀ w, Calls Try.prog 25 #[.int .u64 0, .string ⟨#[]⟩] w fun e w' => e = .returned (.tuple #[.string ⟨#[]⟩, .int .i64 2]) ∧ Below w.heap.size w w' from fun w => put_c 0 ⟨#[]⟩ w (by decide) (by decide))
      clear hG h
      generalize (Lf.ends s.data.toList).1 = x at *
      generalize (Lf.ends s.data.toList).2 = y at *
      go_enter Try.func9, Try.ntmps9
      go_wp2_with fail
      refine (p1.out _).mono ?_
      rintro e w1 ⟨rfl, b1⟩
      go_wp2_with fail
      refine (q1.out _).mono ?_
      rintro e w2 ⟨rfl, b2⟩
      go_wp2_with fail
      refine (p2.out _).mono ?_
      rintro e w3 ⟨rfl, b3⟩
      go_wp2_with fail
      refine (q2.out _).mono ?_
      rintro e w4 ⟨rfl, b4⟩
      have B4 := Lib.hid (then_below (then_below (then_below b1 b2) b3) b4)
      clear b1 b2 b3 b4
      go_wp2_with fail
      refine (p3.out _).mono ?_
      rintro e w5 ⟨rfl, b5⟩
      go_wp2_with fail
      refine (head_c _).mono ?_
      rintro e w6 ⟨rfl, b6⟩
      go_wp2_with fail
      go_ret
      exact ⟨rfl, then_below (then_below B4.out b5) b6⟩
    | some x =>
      obtain ⟨n, m⟩ := x
      have hx : n ≠ 0 ∧ n < 18446744073709551616 ∧ m.length = 48 ∧ Lf.leaf n m = s.data.toList := by
        by_cases h0 : (Lf.ends s.data.toList).1 = 0
        · rw [get_0 _ h0] at hG; cases hG
        · by_cases he : (Lf.ends s.data.toList).1 = (Lf.ends s.data.toList).2
          · rw [get_some _ h0 he] at hG
            simp only [Option.some.injEq, Prod.mk.injEq] at hG
            obtain ⟨rfl, rfl⟩ := hG
            exact ⟨h0, hel.1, Lf.mid_len _ (ends_64 _ h0), (leaf_eq _ h0).2 he⟩
          · rw [get_ne _ he] at hG; cases hG
      obtain ⟨x1, x2, x3, x4⟩ := hx
      have hpo := put_ok n m x1 (by omega)
      have p1 := Lib.hid (show ∀ w, Calls Try.prog 27 #[.string s] w fun e w' => e = .returned (.tuple #[.int .u64 n, .string ⟨m.toArray⟩, .bool true]) ∧ Below w.heap.size w w' from fun w => get_is s _ w hG)
      have q1 := Lib.hid (show ∀ w, Calls Try.prog 28 #[.string s] w fun e w' => e = .returned (.tuple #[.int .u64 n, .string ⟨m.toArray⟩, .bool true]) ∧ Below w.heap.size w w' from fun w => rget_is s _ w hG)
      have hp3 : ∀ w, Calls Try.prog 25 #[.int .u64 n, .string ⟨m.toArray⟩] w fun e w' => e = .returned (.tuple #[.string s, .int .i64 0]) ∧ Below w.heap.size w w' := by
        intro w
        have h := put_c n ⟨m.toArray⟩ w x2 (by show m.length ≤ _; omega)
        rw [show (⟨m.toArray⟩ : ByteArray).data.toList = m by simp] at h
        unfold PutRes at h
        rw [hpo.1, hpo.2, x4] at h
        exact h
      have p3 := Lib.hid hp3
      clear hG h hpo hp3 x1 x2 x4
      generalize (⟨m.toArray⟩ : ByteArray) = M at *
      generalize (Lf.ends s.data.toList).1 = x at *
      generalize (Lf.ends s.data.toList).2 = y at *
      go_enter Try.func9, Try.ntmps9
      go_wp2_with fail
      refine (p1.out _).mono ?_
      rintro e w1 ⟨rfl, b1⟩
      go_wp2_with fail
      refine (q1.out _).mono ?_
      rintro e w2 ⟨rfl, b2⟩
      go_wp2_with fail
      refine (p2.out _).mono ?_
      rintro e w3 ⟨rfl, b3⟩
      go_wp2_with fail
      refine (q2.out _).mono ?_
      rintro e w4 ⟨rfl, b4⟩
      have B4 := Lib.hid (then_below (then_below (then_below b1 b2) b3) b4)
      clear b1 b2 b3 b4
      go_wp2_with fail
      refine (p3.out _).mono ?_
      rintro e w5 ⟨rfl, b5⟩
      go_wp2_with fail
      refine (head_c _).mono ?_
      rintro e w6 ⟨rfl, b6⟩
      go_wp2_with fail
      go_ret
      exact ⟨rfl, then_below (then_below B4.out b5) b6⟩
end Go.Proofs.Ytgifigkgdkgbnab.Le
