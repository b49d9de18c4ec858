/- Package leaf: the calls whose answers the document fixes. -/
import Derived.Test.YtgifigkgdkgbnabLfPut
namespace Go.Proofs.Ytgifigkgdkgbnab.Le
open Go.RowKit Cm
theorem _root_.Go.Proofs.Ytgifigkgdkgbnab.Try.info5 : (Try.prog.info? 5).map (fun i => (i.zero, i.size, i.bytes)) = some (some (.int .u8 0), 1, 1) := by kernel_rfl
/-- n new bytes. -/
def mkz (n : Nat) (u : World) : World := u.alloc (.cells (madeCells #[.int .u8 0] n) 5)
theorem makez (n : Nat) (hn : n ≤ 1000) (u : World) : (Instr.makeSlice 55 (.int .i64 (n : Int)) (.int .i64 (n : Int))).run Try.prog u = .ok (.slice (some ⟨u.heap.size, 0, none⟩) n n) (mkz n u) := by
  obtain ⟨i0, hi, hz0, hz1, hz2⟩ := info_parts Try.info5
  have := run_make (P := Try.prog) u 55 5 i0 (.int .u8 0) Try.underlying55 hi hz0 .i64 .i64 n n (by omega) (by omega) (by rw [hz2]; omega) (by omega)
  rw [hz1] at this
  simpa [mkz, Value.cells] using this
theorem mkz_row (n : Nat) (u : World) : RowAt (mkz n u) u.heap.size ((List.replicate n (0 : UInt8)).map bv) := by
  have h := row_new u (List.replicate n (.int .u8 0)) 5
  have e : (List.replicate n (Value.int .u8 0)).toArray = madeCells #[.int .u8 0] n := by
    unfold madeCells
    apply Array.ext'
    simp
    refine List.ext_getElem (by simp) fun j h1 h2 => ?_
    simp [Nat.mod_one]
  rw [e] at h
  have e2 : (List.replicate n (0 : UInt8)).map bv = List.replicate n (.int .u8 0) := by rw [List.map_replicate]; rfl
  rw [e2]
  exact h
theorem conz (n : Nat) (u : World) : (convert 55 9 (.slice (some ⟨u.heap.size, 0, none⟩) n n)).run Try.prog (mkz n u) = .ok (.string ⟨(List.replicate n (0 : UInt8)).toArray⟩) (mkz n u) := by
  have h := row_str (cap := n) (mkz_row n u)
  rwa [List.length_replicate] at h
theorem below_mkz (n : Nat) (u : World) : Below u.heap.size u (mkz n u) := (Below.refl _ u).alloc (Nat.le_refl _) _
theorem rput_s (n : Nat) (s : ByteArray) (w : World) (hn : n < 18446744073709551616) (hs : s.size ≤ 9223372036854775807) : Calls Try.prog 26 #[.int .u64 n, .string s] w (PutRes n s.data.toList w) := by
  have h := rput_c n s.data.toList w hn (by rw [sz_list]; exact hs)
  exact h
theorem get_is (s : ByteArray) (o : Option (Nat × List UInt8)) (w : World) (h : Lf.get s.data.toList = o) : Calls Try.prog 27 #[.string s] w (GetRes o w) := h ▸ get_c s w
theorem ends_at (s : ByteArray) (n m : Nat) (w : World) (h1 : (Lf.ends s.data.toList).1 = n) (h2 : (Lf.ends s.data.toList).2 = m) : Calls Try.prog 29 #[.string s] w fun e w' => e = .returned (.tuple #[.int .u64 n, .int .u64 m]) ∧ Below w.heap.size w w' := by
  have h := ends_c s w
  unfold EndsRes at h
  rwa [h1, h2] at h
def B258 : ByteArray := ⟨(Lf.leaf 258 [97, 98]).toArray⟩
def S258 : ByteArray := ⟨(Lf.full [97, 98]).toArray⟩
theorem b_head : B258.extract 0 10 = ⟨#[0, 0, 0, 0, 0, 0, 1, 2, 97, 98]⟩ := by decide +kernel
theorem b_foot : B258.extract 56 B258.size = ⟨#[2, 1, 0, 0, 0, 0, 0, 0]⟩ := by decide +kernel
theorem b_size : B258.size = 64 := by decide +kernel
theorem s_size : S258.size = 48 := by decide +kernel
theorem s_head : S258.extract 0 3 = ⟨#[97, 98, 0]⟩ := by decide +kernel
theorem b_get : Lf.get B258.data.toList = some (258, Lf.full [97, 98]) := by decide +kernel
theorem b_not : Lf.get (B258.extract 0 63 ++ ⟨#[1]⟩).data.toList = none := by decide +kernel
theorem b_ends : Lf.ends (B258.extract 0 8 ++ ⟨(List.replicate 56 (0 : UInt8)).toArray⟩).data.toList = (258, 0) := by decide +kernel
set_option maxRecDepth 100000 in
set_option maxHeartbeats 1600000 in
theorem head_c (w : World) : Calls Try.prog 24 #[] w fun e w' => e = .returned (.bool true) ∧ Below w.heap.size w w' := by
  have k1 := Lib.hid (show ∀ w, Calls Try.prog 25 #[.int .u64 258, .string ⟨#[97, 98]⟩] w fun e w' => e = .returned (.tuple #[.string B258, .int .i64 0]) ∧ Below w.heap.size w w' from fun w => put_c 258 ⟨#[97, 98]⟩ w (by decide) (by decide))
  have k2 := Lib.hid (show ∀ w, Calls Try.prog 25 #[.int .u64 0, .string ⟨#[97]⟩] w fun e w' => e = .returned (.tuple #[.string ⟨#[]⟩, .int .i64 2]) ∧ Below w.heap.size w w' from fun w => put_c 0 ⟨#[97]⟩ w (by decide) (by decide))
  have k3 := Lib.hid (show ∀ w, Calls Try.prog 25 #[.int .u64 1, .string ⟨(List.replicate 49 (0 : UInt8)).toArray⟩] w fun e w' => e = .returned (.tuple #[.string ⟨#[]⟩, .int .i64 3]) ∧ Below w.heap.size w w' from fun w => put_c 1 ⟨(List.replicate 49 (0 : UInt8)).toArray⟩ w (by decide) (by decide))
  have k4 := Lib.hid (show ∀ w, Calls Try.prog 27 #[.string B258] w fun e w' => e = .returned (.tuple #[.int .u64 258, .string S258, .bool true]) ∧ Below w.heap.size w w' from fun w => get_is _ _ w b_get)
  have k5 := Lib.hid (show ∀ w, Calls Try.prog 27 #[.string (B258.extract 0 63 ++ ⟨#[1]⟩)] w fun e w' => e = .returned (.tuple #[.int .u64 0, .string ⟨#[]⟩, .bool false]) ∧ Below w.heap.size w w' from fun w => get_is _ _ w b_not)
  have k6 := Lib.hid (fun w => ends_at (B258.extract 0 8 ++ ⟨(List.replicate 56 (0 : UInt8)).toArray⟩) 258 0 w (by rw [b_ends]) (by rw [b_ends]))
  have m49 : ∀ u, (Instr.makeSlice 55 (.int .i64 49) (.int .i64 49)).run Try.prog u = .ok (.slice (some ⟨u.heap.size, 0, none⟩) 49 49) (mkz 49 u) := fun u => makez 49 (by omega) u
  have m56 : ∀ u, (Instr.makeSlice 55 (.int .i64 56) (.int .i64 56)).run Try.prog u = .ok (.slice (some ⟨u.heap.size, 0, none⟩) 56 56) (mkz 56 u) := fun u => makez 56 (by omega) u
  have c49 := fun u => conz 49 u
  have c56 : ∀ u : World, (convert 55 9 (.slice (some ⟨u.heap.size, 0, none⟩) 56 56)).run Try.prog (mkz 56 u.drew) = .ok (.string ⟨(List.replicate 56 (0 : UInt8)).toArray⟩) (mkz 56 u.drew) := fun u => conz 56 u.drew
  have e1 := b_head
  have e2 := b_foot
  have e3 := s_head
  have z1 : ((B258.size : Int) != 64) = false := by rw [b_size]; rfl
  have z2 : ((B258.size : Int) == 64) = true := by rw [b_size]; rfl
  have z3 : B258.size ≤ 64 := by rw [b_size]; omega
  have z4 : (64 : Int) ≤ (B258.size : Int) := by rw [b_size]; omega
  have z4' : (8 : Int) ≤ (B258.size : Int) := by rw [b_size]; omega
  have z5 : ((S258.size : Int) == 48) = true := by rw [s_size]; rfl
  have z6 : S258.size ≤ 48 := by rw [s_size]; omega
  have z7 : (48 : Int) ≤ (S258.size : Int) := by rw [s_size]; omega
  have z8 : (B258.extract 0 63).size ≤ 64 := by rw [ByteArray.size_extract, b_size]; omega
  have z9 : (B258.extract 0 8).size ≤ 64 := by rw [ByteArray.size_extract, b_size]; omega
  generalize B258 = B at *
  generalize S258 = S at *
  generalize hZ49 : (⟨(List.replicate 49 (0 : UInt8)).toArray⟩ : ByteArray) = Z49 at *
  have z10 : (⟨(List.replicate 56 (0 : UInt8)).toArray⟩ : ByteArray).size ≤ 56 := by decide
  generalize hZ56 : (⟨(List.replicate 56 (0 : UInt8)).toArray⟩ : ByteArray) = Z56 at *
  clear hZ49 hZ56
  go_enter Try.func24, Try.ntmps24
  go_wp2_with fail
  refine (k1.out _).mono ?_
  rintro e w1 ⟨rfl, b1⟩
  go_wp2_with fail
  refine (k2.out _).mono ?_
  rintro e w2 ⟨rfl, b2⟩
  have B2 := Lib.hid (then_below b1 b2)
  clear b1 b2
  go_wp2_with fail
  have B2' := Lib.hid (then_below B2.out (below_mkz 49 w2))
  refine (k3.out _).mono ?_
  rintro e w3 ⟨rfl, b3⟩
  have B3 := Lib.hid (then_below B2'.out b3)
  clear b3 B2 B2'
  go_wp2_with fail
  refine (k4.out _).mono ?_
  rintro e w4 ⟨rfl, b4⟩
  go_wp2_with fail
  refine (k5.out _).mono ?_
  rintro e w5 ⟨rfl, b5⟩
  have B5 := Lib.hid (then_below (then_below B3.out b4) b5)
  clear b4 b5 B3
  go_wp2_with fail
  go_region_with (first | (go_at_call 29; refine (k6.out _).mono ?_; rintro e u1 ⟨rfl, b1⟩))
  all_goals go_wp2_with fail
  all_goals go_ret
  all_goals exact ⟨rfl, then_below (then_below (show Below w.heap.size w _ from B5.out.drew) (below_mkz 56 _)) b1⟩
end Go.Proofs.Ytgifigkgdkgbnab.Le
