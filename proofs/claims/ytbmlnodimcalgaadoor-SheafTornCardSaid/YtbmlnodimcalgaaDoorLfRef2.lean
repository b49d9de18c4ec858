/- The contracts of the document's own leaf: put, told, got. -/
import Derived.Test.YtbmlnodimcalgaaDoorLfRef
namespace Go.Proofs.YtbmlnodimcalgaaDoor.Le
open Go.RowKit Cm
theorem then_below {a b c : World} (h : Below a.heap.size a b) (k : Below b.heap.size b c) : Below a.heap.size a c := h.trans (k.mono h.size)
def putS (n : Nat) (l : List UInt8) : List UInt8 := if n = 0 then [] else if 48 < l.length then [] else Lf.leaf n l
def putE (n : Nat) (l : List UInt8) : Int := if n = 0 then 2 else if 48 < l.length then 3 else 0
def PutRes (n : Nat) (l : List UInt8) (w : World) (e : Ending) (w' : World) : Prop := e = .returned (.tuple #[.string ⟨(putS n l).toArray⟩, .int .i64 (putE n l)]) ∧ Below w.heap.size w w'
theorem put_0 (n : Nat) (l : List UInt8) (h : n = 0) : putS n l = [] ∧ putE n l = 2 := by unfold putS putE; rw [if_pos h, if_pos h]; exact ⟨rfl, rfl⟩
theorem put_long (n : Nat) (l : List UInt8) (h : n ≠ 0) (hl : 48 < l.length) : putS n l = [] ∧ putE n l = 3 := by unfold putS putE; rw [if_neg h, if_neg h, if_pos hl, if_pos hl]; exact ⟨rfl, rfl⟩
theorem put_ok (n : Nat) (l : List UInt8) (h : n ≠ 0) (hl : l.length ≤ 48) : putS n l = Lf.leaf n l ∧ putE n l = 0 := by unfold putS putE; rw [if_neg h, if_neg h, if_neg (by omega), if_neg (by omega)]; exact ⟨rfl, rfl⟩
set_option maxRecDepth 100000 in
theorem rput_c (n : Nat) (l : List UInt8) (w : World) (hn : n < 18446744073709551616) (hl9 : l.length ≤ 9223372036854775807) : Calls Tryd.prog 24 #[.int .u64 n, .string ⟨l.toArray⟩] w (PutRes n l w) := by
  by_cases h0 : n = 0
  · have HP := Lib.hid (put_0 n l h0)
    have hz : ((n : Int) == 0) = true := beq_iff_eq.2 (by omega)
    clear h0
    go_enter Tryd.func24, Tryd.ntmps24
    go_wp2_with fail
    go_ret2
    unfold PutRes
    rw [HP.out.1, HP.out.2]
    exact ⟨rfl, Below.refl _ _⟩
  · have hz : ((n : Int) == 0) = false := beq_eq_false_iff_ne.2 (by omega)
    by_cases hl : 48 < l.length
    · have HP := Lib.hid (put_long n l h0 hl)
      clear h0
      go_enter Tryd.func24, Tryd.ntmps24
      go_wp2_with fail
      go_ret2
      unfold PutRes
      rw [HP.out.1, HP.out.2]
      exact ⟨rfl, Below.refl _ _⟩
    · have HP := Lib.hid (put_ok n l h0 (by omega))
      have hl2 : l.length ≤ 48 := by omega
      have K8 := Lib.hid (fun w => eight_c n w hn)
      have KF := Lib.hid (fun w => full_c l w hl2)
      have KT := Lib.hid (fun w => turned_c ⟨(Lf.b8 n).toArray⟩ w (by show (Lf.b8 n).length ≤ _; rw [Lf.b8_len]; omega))
      have l8 : (Lf.b8 n).length ≤ 8 := by rw [Lf.b8_len]; omega
      have lf : (Lf.full l).length ≤ 48 := by rw [Lf.full_len l hl2]; omega
      have HE := Lib.hid (show Lf.leaf n l = Lf.b8 n ++ Lf.full l ++ (Lf.b8 n).reverse from rfl)
      have lr : ((Lf.b8 n).reverse).length ≤ 8 := by rw [List.length_reverse]; exact l8
      have HC := Lib.hid (show (⟨(Lf.b8 n).toArray⟩ : ByteArray) ++ (⟨(Lf.full l).toArray⟩ : ByteArray) = ⟨(Lf.b8 n ++ Lf.full l).toArray⟩ from cat_mk2 _ _)
      have HD := Lib.hid (show (⟨(Lf.b8 n ++ Lf.full l).toArray⟩ : ByteArray) ++ (⟨((Lf.b8 n).reverse).toArray⟩ : ByteArray) = ⟨(Lf.b8 n ++ Lf.full l ++ (Lf.b8 n).reverse).toArray⟩ from cat_mk2 _ _)
      clear h0
      go_enter Tryd.func24, Tryd.ntmps24
      go_wp2_with fail
      refine (K8.out _).mono ?_
      rintro e w1 ⟨rfl, b1⟩
      go_wp2_with fail
      refine (KF.out _).mono ?_
      rintro e w2 ⟨rfl, b2⟩
      go_wp2_with fail
      refine (K8.out _).mono ?_
      rintro e w3 ⟨rfl, b3⟩
      go_wp2_with fail
      refine (KT.out _).mono ?_
      rintro e w4 ⟨rfl, b4⟩
      have B4 := Lib.hid (then_below (then_below (then_below b1 b2) b3) b4)
      clear b1 b2 b3 b4
      go_wp2_with fail
      go_ret2
      unfold PutRes
      rw [HP.out.1, HP.out.2, HE.out]
      exact ⟨by rw [← HD.out, ← HC.out]; rfl, B4.out⟩
def EndsRes (b : List UInt8) (w : World) (e : Ending) (w' : World) : Prop := e = .returned (.tuple #[.int .u64 (Lf.ends b).1, .int .u64 (Lf.ends b).2]) ∧ Below w.heap.size w w'
theorem ends_no (b : List UInt8) (h : b.length ≠ 64) : (Lf.ends b).1 = 0 ∧ (Lf.ends b).2 = 0 := by unfold Lf.ends; rw [if_neg h]; exact ⟨rfl, rfl⟩
theorem ends_is (b : List UInt8) (h : b.length = 64) : (Lf.ends b).1 = Lf.headOf b ∧ (Lf.ends b).2 = Lf.footOf b := by unfold Lf.ends; rw [if_pos h]; exact ⟨rfl, rfl⟩
theorem ext_take (s : ByteArray) (k : Nat) : s.extract 0 k = ⟨(s.data.toList.take k).toArray⟩ := by
  apply ByteArray.ext
  apply Array.ext'
  simp
theorem ext_mid (s : ByteArray) (i j : Nat) : s.extract i j = ⟨((s.data.toList.take j).drop i).toArray⟩ := by
  apply ByteArray.ext
  apply Array.ext'
  simp [List.drop_take]
theorem ext_drop (s : ByteArray) (k : Nat) : s.extract k s.size = ⟨(s.data.toList.drop k).toArray⟩ := by
  rw [ext_mid, List.take_of_length_le (by simp)]
theorem sz_list (s : ByteArray) : s.data.toList.length = s.size := by simp
set_option maxRecDepth 100000 in
theorem rends_c (s : ByteArray) (w : World) : Calls Tryd.prog 35 #[.string s] w (EndsRes s.data.toList w) := by
  have hsz := sz_list s
  by_cases hl : s.size = 64
  · have HE := Lib.hid (ends_is s.data.toList (by rw [hsz]; exact hl))
    have hz : ((s.size : Int) != 64) = false := by rw [bne_eq_false_iff_eq]; omega
    have hz2 : ((s.size : Int) == 64) = true := beq_iff_eq.2 (by omega)
    have hle : s.size ≤ 64 := by omega
    have q8 : (8 : Int) ≤ (s.size : Int) := by omega
    have q56 : (56 : Int) ≤ (s.size : Int) := by omega
    have K1 := Lib.hid (fun w => number_c ⟨(s.data.toList.take 8).toArray⟩ w (by show (s.data.toList.take 8).length = 8; rw [List.length_take]; omega))
    have K2 := Lib.hid (fun w => number_c ⟨((s.data.toList.drop 56).reverse).toArray⟩ w (by show ((s.data.toList.drop 56).reverse).length = 8; rw [List.length_reverse, List.length_drop]; omega))
    have KT := Lib.hid (fun w => turned_c ⟨(s.data.toList.drop 56).toArray⟩ w (by show (s.data.toList.drop 56).length ≤ _; rw [List.length_drop]; omega))
    have E1 := Lib.hid (ext_take s 8)
    have E2 := Lib.hid (ext_drop s 56)
    clear hl hsz
    go_enter Tryd.func35, Tryd.ntmps35
    go_wp2_with fail
    go_region_held3 (fun u => Below w.heap.size w u) (first | exact Below.refl _ _ | exact (Below.refl _ _).drew | exact D1 | assumption)
      (first | (go_at_call 43; rw [E2.out]; refine (KT.out _).mono ?_; rintro e u1 ⟨rfl, b1⟩; have D1 := Below.trans (by assumption) (b1.mono (Below.size (by assumption)))) | (go_at_call 55; rw [E1.out]; refine (K1.out _).mono ?_; rintro e u1 ⟨rfl, b1⟩; have D1 := Below.trans (by assumption) (b1.mono (Below.size (by assumption)))) | (go_at_call 55; refine (K2.out _).mono ?_; rintro e u1 ⟨rfl, b1⟩; have D1 := Below.trans (by assumption) (b1.mono (Below.size (by assumption)))))
    all_goals go_wp2_with fail
    all_goals go_ret2
    all_goals unfold EndsRes
    all_goals rw [HE.out.1, HE.out.2]
    all_goals exact ⟨rfl, D1⟩
  · have HE := Lib.hid (ends_no s.data.toList (by rw [hsz]; exact hl))
    have hz : ((s.size : Int) != 64) = true := by rw [bne_iff_ne]; omega
    have hz2 : ((s.size : Int) == 64) = false := beq_eq_false_iff_ne.2 (by omega)
    clear hl hsz
    go_enter Tryd.func35, Tryd.ntmps35
    go_wp2_with fail
    go_ret2
    unfold EndsRes
    rw [HE.out.1, HE.out.2]
    exact ⟨rfl, Below.refl _ _⟩
def gN : Option (Nat × List UInt8) → Nat
  | some (n, _) => n
  | none => 0
def gS : Option (Nat × List UInt8) → List UInt8
  | some (_, s) => s
  | none => []
def GetRes (o : Option (Nat × List UInt8)) (w : World) (e : Ending) (w' : World) : Prop := e = .returned (.tuple #[.int .u64 (gN o), .string ⟨(gS o).toArray⟩, .bool o.isSome]) ∧ Below w.heap.size w w'
theorem mid_ext (s : ByteArray) : s.extract 8 56 = ⟨(Lf.mid s.data.toList).toArray⟩ := by
  rw [ext_mid]
  unfold Lf.mid
  rw [List.drop_take]
theorem ends_64 (b : List UInt8) (h : (Lf.ends b).1 ≠ 0) : b.length = 64 := by
  unfold Lf.ends at h
  split at h
  · assumption
  · exact absurd rfl h
theorem get_0 (b : List UInt8) (h : (Lf.ends b).1 = 0) : Lf.get b = none := by unfold Lf.get; rw [if_pos (.inl h)]
theorem get_ne (b : List UInt8) (h : (Lf.ends b).1 ≠ (Lf.ends b).2) : Lf.get b = none := by unfold Lf.get; rw [if_pos (.inr h)]
theorem get_some (b : List UInt8) (h0 : (Lf.ends b).1 ≠ 0) (h : (Lf.ends b).1 = (Lf.ends b).2) : Lf.get b = some ((Lf.ends b).1, Lf.mid b) := by
  unfold Lf.get; rw [if_neg (by intro e; rcases e with e | e; exact h0 e; exact e h)]
theorem ends_lt (b : List UInt8) : (Lf.ends b).1 < 18446744073709551616 ∧ (Lf.ends b).2 < 18446744073709551616 := by
  unfold Lf.ends
  split
  · rename_i h
    refine ⟨Lf.num_lt8 _ (by rw [List.length_take]; omega), Lf.num_lt8 _ (by rw [List.length_reverse, List.length_drop]; omega)⟩
  · exact ⟨by decide, by decide⟩
theorem leaf_eq (b : List UInt8) (h0 : (Lf.ends b).1 ≠ 0) : (Lf.leaf (Lf.ends b).1 (Lf.mid b) = b) ↔ (Lf.ends b).1 = (Lf.ends b).2 := by
  have h := ends_64 b h0
  obtain ⟨e1, e2⟩ := ends_is b h
  rw [e1, e2]
  exact Lf.leaf_iff b h
set_option maxRecDepth 100000 in
theorem rget_c (s : ByteArray) (w : World) : Calls Tryd.prog 33 #[.string s] w (GetRes (Lf.get s.data.toList) w) := by
  have KE := Lib.hid (fun w => rends_c s w)
  have hlt := (ends_lt s.data.toList).1
  unfold EndsRes at KE
  by_cases h0 : (Lf.ends s.data.toList).1 = 0
  · have HG := Lib.hid (get_0 _ h0)
    have hz : (((Lf.ends s.data.toList).1 : Int) == 0) = true := beq_iff_eq.2 (by omega)
    clear h0
    generalize (Lf.ends s.data.toList).1 = n at *
    generalize (Lf.ends s.data.toList).2 = m at *
    go_enter Tryd.func33, Tryd.ntmps33
    go_wp2_with fail
    refine (KE.out _).mono ?_
    rintro e w1 ⟨rfl, b1⟩
    go_wp2_with fail
    go_ret3
    rw [HG.out]
    exact ⟨rfl, b1⟩
  · have h64 := ends_64 _ h0
    have hml := Lf.mid_len _ h64
    have hsz := sz_list s
    have q8 : (8 : Int) ≤ (s.size : Int) := by omega
    have q56 : (56 : Int) ≤ (s.size : Int) := by omega
    have hz : (((Lf.ends s.data.toList).1 : Int) == 0) = false := beq_eq_false_iff_ne.2 (by omega)
    have KP := Lib.hid (fun w => rput_c (Lf.ends s.data.toList).1 (Lf.mid s.data.toList) w hlt (by omega))
    have HP := put_ok (Lf.ends s.data.toList).1 (Lf.mid s.data.toList) h0 (by omega)
    unfold PutRes at KP
    rw [HP.1, HP.2] at KP
    have HX := Lib.hid (mid_ext s)
    have hli := leaf_eq _ h0
    have htl : s.toList = s.data.toList := ByteArray.toList_eq s
    by_cases he : (Lf.ends s.data.toList).1 = (Lf.ends s.data.toList).2
    · have HG := Lib.hid (get_some _ h0 he)
      have hq : (Lf.leaf (Lf.ends s.data.toList).1 (Lf.mid s.data.toList) == s.toList) = true := by rw [htl]; exact beq_iff_eq.2 (hli.2 he)
      clear h0 he hli htl h64 hml hsz HP
      generalize Lf.leaf (Lf.ends s.data.toList).1 (Lf.mid s.data.toList) = L at *
      generalize (Lf.ends s.data.toList).1 = n at *
      generalize (Lf.ends s.data.toList).2 = m at *
      generalize Lf.mid s.data.toList = M at *
      go_enter Tryd.func33, Tryd.ntmps33
      go_wp2_with fail
      refine (KE.out _).mono ?_
      rintro e w1 ⟨rfl, b1⟩
      go_wp2_with fail
      rw [HX.out]
      refine (KP.out _).mono ?_
      rintro e w2 ⟨rfl, b2⟩
      have B2 := Lib.hid (then_below b1 b2)
      clear b1 b2
      go_wp2_with fail
      go_quiet (fail)
      go_wp2_with fail
      go_ret3
      rw [HG.out]
      exact ⟨by rw [HX.out]; rfl, ⟨B2.out.os, B2.out.tape, B2.out.output, B2.out.size, B2.out.block⟩⟩
    · have HG := Lib.hid (get_ne _ he)
      have hq : (Lf.leaf (Lf.ends s.data.toList).1 (Lf.mid s.data.toList) == s.toList) = false := by rw [htl]; exact beq_eq_false_iff_ne.2 (fun e => he (hli.1 e))
      clear h0 he hli htl h64 hml hsz HP
      generalize Lf.leaf (Lf.ends s.data.toList).1 (Lf.mid s.data.toList) = L at *
      generalize (Lf.ends s.data.toList).1 = n at *
      generalize (Lf.ends s.data.toList).2 = m at *
      generalize Lf.mid s.data.toList = M at *
      go_enter Tryd.func33, Tryd.ntmps33
      go_wp2_with fail
      refine (KE.out _).mono ?_
      rintro e w1 ⟨rfl, b1⟩
      go_wp2_with fail
      rw [HX.out]
      refine (KP.out _).mono ?_
      rintro e w2 ⟨rfl, b2⟩
      have B2 := Lib.hid (then_below b1 b2)
      clear b1 b2
      go_wp2_with fail
      go_ret3
      rw [HG.out]
      exact ⟨rfl, B2.out⟩
end Go.Proofs.YtbmlnodimcalgaaDoor.Le
