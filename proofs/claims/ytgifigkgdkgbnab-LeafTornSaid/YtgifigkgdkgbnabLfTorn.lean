/- Package leaf: the law of torn writings. -/
import Derived.Test.YtgifigkgdkgbnabLfBack
import Derived.Test.YtgifigkgdkgbnabLfTorn0
namespace Go.Proofs.Ytgifigkgdkgbnab.Le
open Go.RowKit Cm
/-- A slice of three-cell structs: a number, a text, an integer. -/
def Ovs (w : World) (a : Option Addr) (L : List (Int × ByteArray × Int)) : Prop :=
  ∀ j (h : j < L.length), ∃ b off, a = some ⟨b, off, none⟩ ∧ b < w.heap.size ∧ w.cell? ⟨b, off + j * 3, none⟩ = some (.int .u32 L[j].1) ∧ w.cell? ⟨b, off + j * 3 + 1, none⟩ = some (.string L[j].2.1) ∧ w.cell? ⟨b, off + j * 3 + 2, none⟩ = some (.int .i64 L[j].2.2)
theorem Ovs.later {w w' : World} {a : Option Addr} {L : List (Int × ByteArray × Int)} (h : Ovs w a L) (hb : Below w.heap.size w w') : Ovs w' a L := by
  intro j hj
  obtain ⟨b, off, ha, hlt, c1, c2, c3⟩ := h j hj
  exact ⟨b, off, ha, Nat.lt_of_lt_of_le hlt hb.size, by rw [hb.cell (by simpa using hlt)]; exact c1, by rw [hb.cell (by simpa using hlt)]; exact c2, by rw [hb.cell (by simpa using hlt)]; exact c3⟩
def OvOk (x : Int × ByteArray × Int) : Prop := (0 ≤ x.1 ∧ x.1 ≤ 4294967295) ∧ x.2.1.size ≤ 9223372036854775807 ∧ -9223372036854775808 ≤ x.2.2 ∧ x.2.2 ≤ 9223372036854775807
/-- How many bytes. -/
def clamp (a : Int) : Nat := if a < 0 then 0 else if 64 < a then 64 else a.toNat
theorem clamp_le (a : Int) : clamp a ≤ 64 := by unfold clamp; split <;> (try split) <;> omega
theorem torn_str (X B : ByteArray) (n : Nat) : (X.extract 0 n ++ B.extract n B.size).data.toList = Lf.torn X.data.toList B.data.toList n := by
  rw [ext_take, ext_drop]
  unfold Lf.torn
  simp
structure Cells3 (g o : Nat) (m : Int) (S : ByteArray) (a : Int) (u : World) : Prop where
  lt : g < u.heap.size
  c0 : u.cell? ⟨g, o, none⟩ = some (.int .u32 m)
  c1 : u.cell? ⟨g, o + 1, none⟩ = some (.string S)
  c2 : u.cell? ⟨g, o + 2, none⟩ = some (.int .i64 a)
theorem Cells3.later {g o : Nat} {m : Int} {S : ByteArray} {a : Int} {u u' : World} (h : Cells3 g o m S a u) (hb : Below u.heap.size u u') : Cells3 g o m S a u' :=
  ⟨Nat.lt_of_lt_of_le h.lt hb.size, by rw [hb.cell (by simpa using h.lt)]; exact h.c0, by rw [hb.cell (by simpa using h.lt)]; exact h.c1, by rw [hb.cell (by simpa using h.lt)]; exact h.c2⟩
theorem Cells3.drewN {g o n : Nat} {m : Int} {S : ByteArray} {a : Int} {u : World} (h : Cells3 g o m S a u) : Cells3 g o m S a (u.drewN n) := ⟨h.lt, h.c0, h.c1, h.c2⟩
theorem below_drewN {w u : World} (h : Below w.heap.size w u) (n : Nat) : Below w.heap.size w (u.drewN n) := ⟨h.os, h.tape, h.output, h.size, h.block⟩
/-- What is told of torn bytes. -/
theorem told_of (T : List UInt8) (last : Nat) (C : ByteArray) (h : Lf.Whole T last C.data.toList) :
    (∀ (E : ByteArray) (w : World), E.data.toList = T → Calls Try.prog 29 #[.string E] w fun e w' => e = .returned (.tuple #[.int .u64 (Lf.headOf T), .int .u64 (Lf.footOf T)]) ∧ Below w.heap.size w w') ∧
    ((∀ (E : ByteArray) (w : World), E.data.toList = T → Calls Try.prog 27 #[.string E] w fun e w' => e = .returned (.tuple #[.int .u64 0, .string ⟨#[]⟩, .bool false]) ∧ Below w.heap.size w w') ∧ (Lf.headOf T = Lf.footOf T → Lf.headOf T = 0) ∨
     (∀ (E : ByteArray) (w : World), E.data.toList = T → Calls Try.prog 27 #[.string E] w fun e w' => e = .returned (.tuple #[.int .u64 last, .string C, .bool true]) ∧ Below w.heap.size w w')) := by
  refine ⟨fun E w hE => ?_, ?_⟩
  · subst hE
    have hen := ends_is E.data.toList h.len
    exact ends_at E _ _ w hen.1 hen.2
  · have hen := ends_is T h.len
    by_cases he : Lf.headOf T = Lf.footOf T
    · by_cases h0 : Lf.headOf T = 0
      · refine .inl ⟨fun E w hE => ?_, fun _ => h0⟩
        subst hE
        exact get_is E none w (get_0 _ (by rw [hen.1]; exact h0))
      · refine .inr fun E w hE => ?_
        subst hE
        obtain ⟨h1, h2⟩ := h.one he h0
        have h3 := get_is E _ w (get_some _ (by rw [hen.1]; exact h0) (by rw [hen.1, hen.2]; exact he))
        rw [hen.1, h1, h2] at h3
        exact h3
    · refine .inl ⟨fun E w hE => ?_, fun h => absurd h he⟩
      subst hE
      exact get_is E none w (get_ne _ (by rw [hen.1, hen.2]; exact he))
set_option maxRecDepth 100000 in
set_option maxHeartbeats 6400000 in
theorem torn_c (L : List (Int × ByteArray × Int)) (a : Option Addr) (cap : Nat) (w : World) (hL : Ovs w a L) (hok : ∀ x ∈ L, OvOk x) (hl : L.length ≤ 100) :
    Calls Try.prog 11 #[.slice a L.length cap] w fun e w' => e = .returned (.bool true) ∧ Below w.heap.size w w' := by
  have HL := Lib.hid hL
  have HK := Lib.hid hok
  have hl2 : ¬ (100 : Int) < (L.length : Int) := by omega
  have m64 : ∀ u, (Instr.makeSlice 55 (.int .i64 64) (.int .i64 64)).run Try.prog u = .ok (.slice (some ⟨u.heap.size, 0, none⟩) 64 64) (mkz 64 u) := fun u => makez 64 (by omega) u
  have c64 := fun u => conz 64 u
  have W0 := Lib.hid (show Lf.Whole (⟨(List.replicate 64 (0 : UInt8)).toArray⟩ : ByteArray).data.toList 0 (⟨#[]⟩ : ByteArray).data.toList from Lf.whole_zero)
  generalize (⟨(List.replicate 64 (0 : UInt8)).toArray⟩ : ByteArray) = Z at *
  have B0 := Lib.hid (below_mkz 64 w)
  clear hL hok
  go_enter Try.func11, Try.ntmps11
  go_wp2_with fail
  clear m64 c64
  go_loopw [3, 4, 5, 6] (fun s3 s4 s5 s6 wr => ∃ (k last : Nat) (B C : ByteArray), k ≤ L.length ∧ s6 = .int .i64 k ∧ s3 = .string B ∧ s4 = .int .u64 last ∧ s5 = .string C ∧ Lf.Whole B.data.toList last C.data.toList ∧ Below w.heap.size w wr) (fun _ _ _ s6 _ => L.length - (intOf s6).toNat)
  case atStart => exact ⟨0, 0, Z, ⟨#[]⟩, by omega, rfl, rfl, rfl, rfl, W0.out, B0.out⟩
  case round =>
    obtain ⟨k, last, B, C, hk, rfl, rfl, rfl, rfl, hW, hB⟩ := hrel
    have HW := Lib.hid hW
    have HB := Lib.hid hB
    clear hW hB W0 B0
    by_cases hlt : k < L.length
    · obtain ⟨g, off, rfl, hg, x0, x1, x2⟩ := HL.out k hlt
      obtain ⟨hm, hsz, ha⟩ := HK.out L[k] (List.getElem_mem hlt)
      have R0 := Lib.hid ((show Cells3 g (off + k * 3) L[k].1 L[k].2.1 L[k].2.2 w from ⟨hg, x0, x1, x2⟩).later HB.out)
      clear x0 x1 x2
      obtain ⟨m, hmN⟩ : ∃ m : Nat, L[k].1 = m := ⟨L[k].1.toNat, by omega⟩
      rw [hmN] at R0 hm
      generalize L[k].2.1 = S at *
      generalize L[k].2.2 = at_ at *
      clear hmN
      have hBs : B.size = 64 := by rw [← sz_list]; exact HW.out.len
      have hen := ends_is B.data.toList HW.out.len
      have htop := (ends_lt B.data.toList).1
      rw [hen.1] at htop
      have kE := Lib.hid (fun w => ends_at B (Lf.headOf B.data.toList) (Lf.footOf B.data.toList) w hen.1 hen.2)
      clear hen
      generalize hT : Lf.headOf B.data.toList = top at *
      generalize Lf.footOf B.data.toList = foot at *
      have HT := Lib.hid hT
      have hZ := Lib.hid hBs
      clear hT hBs
      go_wp2_with fail
      refine (kE.out _).mono ?_
      rintro e w1 ⟨rfl, b1⟩
      have R1 := Lib.hid (R0.out.later b1)
      have B1 := Lib.hid (then_below HB.out b1)
      clear b1 R0 HB
      have c0 := R1.out.c0
      have c1 := R1.out.c1
      have c2 := R1.out.c2
      by_cases htb : 9223372036854775808 ≤ top
      · have hh : (9223372036854775808 : Int) ≤ (top : Int) := by omega
        go_wp2_with fail
        refine (head_c _).mono ?_
        rintro e w2 ⟨rfl, b2⟩
        go_wp2_with fail
        go_ret
        exact ⟨rfl, then_below B1.out b2⟩
      · have hh : ¬ (9223372036854775808 : Int) ≤ (top : Int) := by omega
        by_cases hS : 48 < S.size
        · have hS2 : (48 : Int) < (S.size : Int) := by omega
          go_wp2_with fail
          refine (head_c _).mono ?_
          rintro e w2 ⟨rfl, b2⟩
          go_wp2_with fail
          go_ret
          exact ⟨rfl, then_below B1.out b2⟩
        · have hS2 : S.size ≤ 48 := by omega
          have hd : decide ((48 : Int) < (S.size : Int)) = false := decide_eq_false (by omega)
          have HTB := Lib.hid htb
          have HTOP := Lib.hid htop
          have htl : (top : Int) ≤ 9223372036854775807 := by omega
          obtain ⟨hm1, hm2⟩ := hm
          clear htb htop hS hsz
          iterate 113 (first | go_step | go_simp)
          obtain ⟨st, hst⟩ : ∃ st : Nat, st = top + 1 + m := ⟨_, rfl⟩
          have hst2 : ((top : Int) + 1 + (m : Int)) = (st : Int) := by omega
          have hst3 : st < 18446744073709551616 := by omega
          have hst4 : top < st := by omega
          rw [hst2]
          obtain ⟨X, hX⟩ : ∃ X : ByteArray, X = ⟨(Lf.leaf st S.data.toList).toArray⟩ := ⟨_, rfl⟩
          have hXl : X.data.toList = Lf.leaf st S.data.toList := by rw [hX]
          have hXs : X.size = 64 := by rw [← sz_list, hXl, Lf.leaf_len _ _ (by rw [sz_list]; omega)]
          have hpk := put_ok st S.data.toList (by omega) (by rw [sz_list]; omega)
          have kP := Lib.hid (show ∀ w, Calls Try.prog 25 #[.int .u64 st, .string S] w fun e w' => e = .returned (.tuple #[.string X, .int .i64 0]) ∧ Below w.heap.size w w' from fun w => by
            have h1 := put_c st S w hst3 (by omega)
            unfold PutRes at h1
            rwa [hpk.1, hpk.2, ← hX] at h1)
          have z1 : ((X.size : Int) != 64) = false := by rw [hXs]; rfl
          have z2 : ((X.size : Int) == 64) = true := by rw [hXs]; rfl
          have z3 : X.size ≤ 64 := by omega
          have z4 : 64 ≤ X.size := by omega
          have HXL := Lib.hid hXl
          have HS3 := Lib.hid hst3
          have HS4 := Lib.hid hst4
          clear hX hXl hXs hpk hst hst2 hst3 hst4
          refine (kP.out _).mono ?_
          rintro e w2 ⟨rfl, b2⟩
          clear htl hh hm1 hm2
          have R2 := Lib.hid (R1.out.later b2)
          have B2 := Lib.hid (then_below B1.out b2)
          clear b2 R1 B1 c0 c1 c2
          have c1 := R2.out.c1
          have c2 := R2.out.c2
          by_cases hneg : at_ < 0
          · clear ha
            have hstep := Lf.whole_step B.data.toList last st 0 C.data.toList S.data.toList HW.out (by rw [HT.out]; exact HS4.out) HS3.out (by rw [sz_list]; exact hS2) (by omega)
            rw [HT.out, ← HXL.out] at hstep
            rw [if_neg (by omega), if_neg (by omega)] at hstep
            obtain ⟨hw, hup⟩ := hstep
            obtain ⟨k1, k2⟩ := told_of _ _ C hw
            have hle := hw.le
            have HW2 := Lib.hid hw
            have kE2 := Lib.hid k1
            have HTS := Lib.hid (torn_str X B 0)
            clear k1 hw
            generalize Lf.torn X.data.toList B.data.toList 0 = T at *
            generalize hU : Lf.headOf T = up at *
            generalize hD : Lf.footOf T = down at *
            have hU1 : ¬ (up : Int) < (top : Int) := by omega
            have hU2 : ¬ (up : Int) < (down : Int) := by omega
            have hBsz := hZ.out
            have y1 : (X.extract 0 0).size ≤ 64 := by rw [ByteArray.size_extract]; omega
            have y2 : (B.extract 0 B.size).size ≤ 64 := by rw [ByteArray.size_extract]; omega
            have y3 : B.size ≤ 64 := by omega
            have y4 : 64 ≤ B.size := by omega
            clear hBsz
            have HU := Lib.hid hU
            have HD := Lib.hid hD
            clear hU hD hle hup
            rcases k2 with ⟨k2, hz0⟩ | k2
            · have kG := Lib.hid k2
              have HZ0 := Lib.hid hz0
              clear k2 hz0
              go_wp2_with fail
              go_quiet (fail)
              have R3 := Lib.hid (R2.out.drewN (n := nq))
              have B3 := Lib.hid (below_drewN B2.out nq)
              clear c1 c2
              have c1 := R3.out.c1
              go_wp2_with fail
              refine (kE2.out _ _ ?_).mono ?_
              · first | exact HTS.out | (rw [← HTS.out]; simp)
              rintro e w4 ⟨rfl, b4⟩
              go_wp2_with fail
              refine (kG.out _ _ ?_).mono ?_
              · first | exact HTS.out | (rw [← HTS.out]; simp)
              rintro e w5 ⟨rfl, b5⟩
              have B5 := Lib.hid (then_below (then_below B3.out b4) b5)
              clear b4 b5
              go_wp2_with fail
              go_roundw
              case rel => exact ⟨k + 1, last, _, C, by omega, by simp, rfl, rfl, rfl, by first | (rw [HTS.out]; exact HW2.out) | (have h := HW2.out; rw [← HTS.out] at h; simpa using h), B5.out⟩
              case measure => simp [intOf]; omega
            · have kG := Lib.hid k2
              clear k2
              go_wp2_with fail
              go_quiet (fail)
              have R3 := Lib.hid (R2.out.drewN (n := nq))
              have B3 := Lib.hid (below_drewN B2.out nq)
              clear c1 c2
              have c1 := R3.out.c1
              go_wp2_with fail
              refine (kE2.out _ _ ?_).mono ?_
              · first | exact HTS.out | (rw [← HTS.out]; simp)
              rintro e w4 ⟨rfl, b4⟩
              go_wp2_with fail
              refine (kG.out _ _ ?_).mono ?_
              · first | exact HTS.out | (rw [← HTS.out]; simp)
              rintro e w5 ⟨rfl, b5⟩
              have B5 := Lib.hid (then_below (then_below B3.out b4) b5)
              clear b4 b5
              go_wp2_with fail
              go_roundw
              case rel => exact ⟨k + 1, last, _, C, by omega, by simp, rfl, rfl, rfl, by first | (rw [HTS.out]; exact HW2.out) | (have h := HW2.out; rw [← HTS.out] at h; simpa using h), B5.out⟩
              case measure => simp [intOf]; omega
          · by_cases h64 : 64 < at_
            · clear ha
              have hstep := Lf.whole_step B.data.toList last st 64 C.data.toList S.data.toList HW.out (by rw [HT.out]; exact HS4.out) HS3.out (by rw [sz_list]; exact hS2) (by omega)
              rw [HT.out, ← HXL.out] at hstep
              rw [if_pos (by omega), if_pos (by omega)] at hstep
              obtain ⟨hw, hup⟩ := hstep
              have kF := Lib.hid (fun w => full_s S w hS2)
              unfold StrRes at kF
              have hFl : (⟨(Lf.full S.data.toList).toArray⟩ : ByteArray).data.toList = Lf.full S.data.toList := by simp
              generalize (⟨(Lf.full S.data.toList).toArray⟩ : ByteArray) = F at *
              rw [← hFl] at hw
              clear hFl
              obtain ⟨k1, k2⟩ := told_of _ _ F hw
              have hT64 : Lf.headOf (Lf.torn X.data.toList B.data.toList 64) = st ∧ Lf.footOf (Lf.torn X.data.toList B.data.toList 64) = st := by
                rw [Lf.torn_all _ _ (by rw [HXL.out]; exact Lf.leaf_len _ _ (by rw [sz_list]; exact hS2)) HW.out.len, HXL.out]
                exact ⟨Lf.head_leaf _ _ HS3.out, Lf.foot_leaf _ _ HS3.out (by rw [sz_list]; exact hS2)⟩
              have hle := hw.le
              have HW2 := Lib.hid hw
              have kE2 := Lib.hid k1
              have HTS := Lib.hid (torn_str X B 64)
              clear k1 hw
              generalize Lf.torn X.data.toList B.data.toList 64 = T at *
              generalize hU : Lf.headOf T = up at *
              generalize hD : Lf.footOf T = down at *
              have hU1 : ¬ (up : Int) < (top : Int) := by omega
              have hU2 : ¬ (up : Int) < (down : Int) := by omega
              have hBsz := hZ.out
              have y1 : (X.extract 0 64).size ≤ 64 := by rw [ByteArray.size_extract]; omega
              have y2 : (B.extract 64 B.size).size ≤ 64 := by rw [ByteArray.size_extract]; omega
              have y3 : B.size ≤ 64 := by omega
              have y4 : 64 ≤ B.size := by omega
              clear hBsz
              have HU := Lib.hid hU
              have HD := Lib.hid hD
              have HT64 := Lib.hid hT64
              clear hT64
              clear hU hD hle hup
              rcases k2 with ⟨k2, hz0⟩ | k2
              · have kG := Lib.hid k2
                have HZ0 := Lib.hid hz0
                clear k2 hz0
                exfalso
                have h1 := HT64.out
                have h2 := HZ0.out (by omega)
                have h3 := HS4.out
                omega
              · have kG := Lib.hid k2
                clear k2
                go_wp2_with fail
                go_quiet (fail)
                have R3 := Lib.hid (R2.out.drewN (n := nq))
                have B3 := Lib.hid (below_drewN B2.out nq)
                clear c1 c2
                have c1 := R3.out.c1
                go_wp2_with fail
                refine (kF.out _).mono ?_
                rintro e w3 ⟨rfl, b3⟩
                have B4 := Lib.hid (then_below B3.out b3)
                clear b3
                go_wp2_with fail
                refine (kE2.out _ _ ?_).mono ?_
                · first | exact HTS.out | (rw [← HTS.out]; simp)
                rintro e w4 ⟨rfl, b4⟩
                go_wp2_with fail
                refine (kG.out _ _ ?_).mono ?_
                · first | exact HTS.out | (rw [← HTS.out]; simp)
                rintro e w5 ⟨rfl, b5⟩
                have B5 := Lib.hid (then_below (then_below B4.out b4) b5)
                clear b4 b5
                go_wp2_with fail
                go_roundw
                case rel => exact ⟨k + 1, st, _, F, by omega, by simp, rfl, rfl, rfl, by first | (rw [HTS.out]; exact HW2.out) | (have h := HW2.out; rw [← HTS.out] at h; simpa using h), B5.out⟩
                case measure => simp [intOf]; omega
            · by_cases h64b : at_ = 64
              · subst h64b
                clear ha
                have hstep := Lf.whole_step B.data.toList last st 64 C.data.toList S.data.toList HW.out (by rw [HT.out]; exact HS4.out) HS3.out (by rw [sz_list]; exact hS2) (by omega)
                rw [HT.out, ← HXL.out] at hstep
                rw [if_pos (by omega), if_pos (by omega)] at hstep
                obtain ⟨hw, hup⟩ := hstep
                have kF := Lib.hid (fun w => full_s S w hS2)
                unfold StrRes at kF
                have hFl : (⟨(Lf.full S.data.toList).toArray⟩ : ByteArray).data.toList = Lf.full S.data.toList := by simp
                generalize (⟨(Lf.full S.data.toList).toArray⟩ : ByteArray) = F at *
                rw [← hFl] at hw
                clear hFl
                obtain ⟨k1, k2⟩ := told_of _ _ F hw
                have hT64 : Lf.headOf (Lf.torn X.data.toList B.data.toList 64) = st ∧ Lf.footOf (Lf.torn X.data.toList B.data.toList 64) = st := by
                  rw [Lf.torn_all _ _ (by rw [HXL.out]; exact Lf.leaf_len _ _ (by rw [sz_list]; exact hS2)) HW.out.len, HXL.out]
                  exact ⟨Lf.head_leaf _ _ HS3.out, Lf.foot_leaf _ _ HS3.out (by rw [sz_list]; exact hS2)⟩
                have hle := hw.le
                have HW2 := Lib.hid hw
                have kE2 := Lib.hid k1
                have HTS := Lib.hid (torn_str X B 64)
                clear k1 hw
                generalize Lf.torn X.data.toList B.data.toList 64 = T at *
                generalize hU : Lf.headOf T = up at *
                generalize hD : Lf.footOf T = down at *
                have hU1 : ¬ (up : Int) < (top : Int) := by omega
                have hU2 : ¬ (up : Int) < (down : Int) := by omega
                have hBsz := hZ.out
                have y1 : (X.extract 0 64).size ≤ 64 := by rw [ByteArray.size_extract]; omega
                have y2 : (B.extract 64 B.size).size ≤ 64 := by rw [ByteArray.size_extract]; omega
                have y3 : B.size ≤ 64 := by omega
                have y4 : 64 ≤ B.size := by omega
                clear hBsz
                have HU := Lib.hid hU
                have HD := Lib.hid hD
                have HT64 := Lib.hid hT64
                clear hT64
                clear hU hD hle hup
                rcases k2 with ⟨k2, hz0⟩ | k2
                · have kG := Lib.hid k2
                  have HZ0 := Lib.hid hz0
                  clear k2 hz0
                  exfalso
                  have h1 := HT64.out
                  have h2 := HZ0.out (by omega)
                  have h3 := HS4.out
                  omega
                · have kG := Lib.hid k2
                  clear k2
                  go_wp2_with fail
                  go_quiet (fail)
                  have R3 := Lib.hid (R2.out.drewN (n := nq))
                  have B3 := Lib.hid (below_drewN B2.out nq)
                  clear c1 c2
                  have c1 := R3.out.c1
                  go_wp2_with fail
                  refine (kF.out _).mono ?_
                  rintro e w3 ⟨rfl, b3⟩
                  have B4 := Lib.hid (then_below B3.out b3)
                  clear b3
                  go_wp2_with fail
                  refine (kE2.out _ _ ?_).mono ?_
                  · first | exact HTS.out | (rw [← HTS.out]; simp)
                  rintro e w4 ⟨rfl, b4⟩
                  go_wp2_with fail
                  refine (kG.out _ _ ?_).mono ?_
                  · first | exact HTS.out | (rw [← HTS.out]; simp)
                  rintro e w5 ⟨rfl, b5⟩
                  have B5 := Lib.hid (then_below (then_below B4.out b4) b5)
                  clear b4 b5
                  go_wp2_with fail
                  go_roundw
                  case rel => exact ⟨k + 1, st, _, F, by omega, by simp, rfl, rfl, rfl, by first | (rw [HTS.out]; exact HW2.out) | (have h := HW2.out; rw [← HTS.out] at h; simpa using h), B5.out⟩
                  case measure => simp [intOf]; omega
              · clear ha
                obtain ⟨n, rfl⟩ : ∃ n : Nat, at_ = n := ⟨at_.toNat, by omega⟩
                have hn64 : n < 64 := by omega
                have q0 : (0 : Int) ≤ (n : Int) := by omega
                have q1 : (n : Int) < 64 := by omega
                have hq : ((n : Int) == 64) = false := beq_eq_false_iff_ne.2 (by omega)
                clear h64b h64 hneg
                by_cases h8 : 8 ≤ n
                · have hstep := Lf.whole_step B.data.toList last st n C.data.toList S.data.toList HW.out (by rw [HT.out]; exact HS4.out) HS3.out (by rw [sz_list]; exact hS2) (by omega)
                  rw [HT.out, ← HXL.out] at hstep
                  rw [if_pos (by omega), if_pos (by omega)] at hstep
                  obtain ⟨hw, hup⟩ := hstep
                  have kF := Lib.hid (fun w => full_s S w hS2)
                  unfold StrRes at kF
                  have hFl : (⟨(Lf.full S.data.toList).toArray⟩ : ByteArray).data.toList = Lf.full S.data.toList := by simp
                  generalize (⟨(Lf.full S.data.toList).toArray⟩ : ByteArray) = F at *
                  rw [← hFl] at hw
                  clear hFl
                  obtain ⟨k1, k2⟩ := told_of _ _ F hw
                  have hle := hw.le
                  have HW2 := Lib.hid hw
                  have kE2 := Lib.hid k1
                  have HTS := Lib.hid (torn_str X B n)
                  clear k1 hw
                  generalize Lf.torn X.data.toList B.data.toList n = T at *
                  generalize hU : Lf.headOf T = up at *
                  generalize hD : Lf.footOf T = down at *
                  have hU1 : ¬ (up : Int) < (top : Int) := by omega
                  have hU2 : ¬ (up : Int) < (down : Int) := by omega
                  have hBsz := hZ.out
                  have y1 : (X.extract 0 n).size ≤ 64 := by rw [ByteArray.size_extract]; omega
                  have y2 : (B.extract n B.size).size ≤ 64 := by rw [ByteArray.size_extract]; omega
                  have y3 : B.size ≤ 64 := by omega
                  have y4 : 64 ≤ B.size := by omega
                  clear hBsz
                  have HU := Lib.hid hU
                  have HD := Lib.hid hD
                  clear hU hD hle hup
                  rcases k2 with ⟨k2, hz0⟩ | k2
                  · have kG := Lib.hid k2
                    have HZ0 := Lib.hid hz0
                    clear k2 hz0
                    go_wp2_with fail
                    go_quiet (fail)
                    have R3 := Lib.hid (R2.out.drewN (n := nq))
                    have B3 := Lib.hid (below_drewN B2.out nq)
                    clear c1 c2
                    have c1 := R3.out.c1
                    go_wp2_with fail
                    refine (kF.out _).mono ?_
                    rintro e w3 ⟨rfl, b3⟩
                    have B4 := Lib.hid (then_below B3.out b3)
                    clear b3
                    go_wp2_with fail
                    refine (kE2.out _ _ ?_).mono ?_
                    · first | exact HTS.out | (rw [← HTS.out]; simp)
                    rintro e w4 ⟨rfl, b4⟩
                    go_wp2_with fail
                    refine (kG.out _ _ ?_).mono ?_
                    · first | exact HTS.out | (rw [← HTS.out]; simp)
                    rintro e w5 ⟨rfl, b5⟩
                    have B5 := Lib.hid (then_below (then_below B4.out b4) b5)
                    clear b4 b5
                    go_wp2_with fail
                    go_roundw
                    case rel => exact ⟨k + 1, st, _, F, by omega, by simp, rfl, rfl, rfl, by first | (rw [HTS.out]; exact HW2.out) | (have h := HW2.out; rw [← HTS.out] at h; simpa using h), B5.out⟩
                    case measure => simp [intOf]; omega
                  · have kG := Lib.hid k2
                    clear k2
                    go_wp2_with fail
                    go_quiet (fail)
                    have R3 := Lib.hid (R2.out.drewN (n := nq))
                    have B3 := Lib.hid (below_drewN B2.out nq)
                    clear c1 c2
                    have c1 := R3.out.c1
                    go_wp2_with fail
                    refine (kF.out _).mono ?_
                    rintro e w3 ⟨rfl, b3⟩
                    have B4 := Lib.hid (then_below B3.out b3)
                    clear b3
                    go_wp2_with fail
                    refine (kE2.out _ _ ?_).mono ?_
                    · first | exact HTS.out | (rw [← HTS.out]; simp)
                    rintro e w4 ⟨rfl, b4⟩
                    go_wp2_with fail
                    refine (kG.out _ _ ?_).mono ?_
                    · first | exact HTS.out | (rw [← HTS.out]; simp)
                    rintro e w5 ⟨rfl, b5⟩
                    have B5 := Lib.hid (then_below (then_below B4.out b4) b5)
                    clear b4 b5
                    go_wp2_with fail
                    go_roundw
                    case rel => exact ⟨k + 1, st, _, F, by omega, by simp, rfl, rfl, rfl, by first | (rw [HTS.out]; exact HW2.out) | (have h := HW2.out; rw [← HTS.out] at h; simpa using h), B5.out⟩
                    case measure => simp [intOf]; omega
                · have hstep := Lf.whole_step B.data.toList last st n C.data.toList S.data.toList HW.out (by rw [HT.out]; exact HS4.out) HS3.out (by rw [sz_list]; exact hS2) (by omega)
                  rw [HT.out, ← HXL.out] at hstep
                  rw [if_neg (by omega), if_neg (by omega)] at hstep
                  obtain ⟨hw, hup⟩ := hstep
                  obtain ⟨k1, k2⟩ := told_of _ _ C hw
                  have hle := hw.le
                  have HW2 := Lib.hid hw
                  have kE2 := Lib.hid k1
                  have HTS := Lib.hid (torn_str X B n)
                  clear k1 hw
                  generalize Lf.torn X.data.toList B.data.toList n = T at *
                  generalize hU : Lf.headOf T = up at *
                  generalize hD : Lf.footOf T = down at *
                  have hU1 : ¬ (up : Int) < (top : Int) := by omega
                  have hU2 : ¬ (up : Int) < (down : Int) := by omega
                  have hBsz := hZ.out
                  have y1 : (X.extract 0 n).size ≤ 64 := by rw [ByteArray.size_extract]; omega
                  have y2 : (B.extract n B.size).size ≤ 64 := by rw [ByteArray.size_extract]; omega
                  have y3 : B.size ≤ 64 := by omega
                  have y4 : 64 ≤ B.size := by omega
                  clear hBsz
                  have HU := Lib.hid hU
                  have HD := Lib.hid hD
                  clear hU hD hle hup
                  rcases k2 with ⟨k2, hz0⟩ | k2
                  · have kG := Lib.hid k2
                    have HZ0 := Lib.hid hz0
                    clear k2 hz0
                    go_wp2_with fail
                    go_quiet (fail)
                    have R3 := Lib.hid (R2.out.drewN (n := nq))
                    have B3 := Lib.hid (below_drewN B2.out nq)
                    clear c1 c2
                    have c1 := R3.out.c1
                    go_wp2_with fail
                    refine (kE2.out _ _ ?_).mono ?_
                    · first | exact HTS.out | (rw [← HTS.out]; simp)
                    rintro e w4 ⟨rfl, b4⟩
                    go_wp2_with fail
                    refine (kG.out _ _ ?_).mono ?_
                    · first | exact HTS.out | (rw [← HTS.out]; simp)
                    rintro e w5 ⟨rfl, b5⟩
                    have B5 := Lib.hid (then_below (then_below B3.out b4) b5)
                    clear b4 b5
                    go_wp2_with fail
                    go_roundw
                    case rel => exact ⟨k + 1, last, _, C, by omega, by simp, rfl, rfl, rfl, by first | (rw [HTS.out]; exact HW2.out) | (have h := HW2.out; rw [← HTS.out] at h; simpa using h), B5.out⟩
                    case measure => simp [intOf]; omega
                  · have kG := Lib.hid k2
                    clear k2
                    go_wp2_with fail
                    go_quiet (fail)
                    have R3 := Lib.hid (R2.out.drewN (n := nq))
                    have B3 := Lib.hid (below_drewN B2.out nq)
                    clear c1 c2
                    have c1 := R3.out.c1
                    go_wp2_with fail
                    refine (kE2.out _ _ ?_).mono ?_
                    · first | exact HTS.out | (rw [← HTS.out]; simp)
                    rintro e w4 ⟨rfl, b4⟩
                    go_wp2_with fail
                    refine (kG.out _ _ ?_).mono ?_
                    · first | exact HTS.out | (rw [← HTS.out]; simp)
                    rintro e w5 ⟨rfl, b5⟩
                    have B5 := Lib.hid (then_below (then_below B3.out b4) b5)
                    clear b4 b5
                    go_wp2_with fail
                    go_roundw
                    case rel => exact ⟨k + 1, last, _, C, by omega, by simp, rfl, rfl, rfl, by first | (rw [HTS.out]; exact HW2.out) | (have h := HW2.out; rw [← HTS.out] at h; simpa using h), B5.out⟩
                    case measure => simp [intOf]; omega
    · obtain rfl : k = L.length := by omega
      go_wp2_with fail
      refine (head_c _).mono ?_
      rintro e w1 ⟨rfl, b1⟩
      go_wp2_with fail
      go_ret
      exact ⟨rfl, then_below HB.out b1⟩
end Go.Proofs.Ytgifigkgdkgbnab.Le
