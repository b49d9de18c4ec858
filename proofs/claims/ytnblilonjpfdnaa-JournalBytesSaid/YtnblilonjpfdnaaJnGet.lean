/- Package journal: Get. -/
import Derived.Test.YtnblilonjpfdnaaJnGet0
import Derived.Test.YtnblilonjpfdnaaJnLaw4
namespace Go.Proofs.Ytnblilonjpfdnaa.Jn
open Go Go.RowKit Ck
theorem mk_fn : ∀ (fn : Fn) (first cap : Array Value) (w : World), (Instr.makeFunc fn first cap).run Try.prog w = .ok (.func fn first cap) w := fun _ _ _ _ => rfl
section
set_option maxRecDepth 100000
set_option maxHeartbeats 6400000
theorem get_c (B : List UInt8) (w : World) (hB : B.length ≤ 1000000) : Calls Try.prog 27 #[.string (bs B)] w (GetR B w) := by
  have HINF := Lib.hid infoEn
  have HBL : Hid (B.length ≤ 1000000) := hB
  have MF := mk_fn
  clear hB
  have HB0 : Hid (Below w.heap.size w (((w.alloc (.cells #[.string (bs B)] TStr)).alloc (.cells #[.int .i64 0, .int .u8 0, .int .u64 0, .slice none 0 0] TEn)).alloc (.cells #[.bool true] TBl))) := (((Below.refl _ w).alloc (Nat.le_refl _) _).alloc (by simp) _).alloc (by simp <;> omega) _
  have R1 : Hid (Rw (((w.alloc (.cells #[.string (bs B)] TStr)).alloc (.cells #[.int .i64 0, .int .u8 0, .int .u64 0, .slice none 0 0] TEn)).alloc (.cells #[.bool true] TBl)) w.heap.size TStr [.string (bs B)]) := ((Rw.new w [.string (bs B)] TStr).later ((Below.refl _ _).alloc (Nat.le_refl _) _)).later ((Below.refl _ _).alloc (Nat.le_refl _) _)
  have RZ : Hid (Rw (((w.alloc (.cells #[.string (bs B)] TStr)).alloc (.cells #[.int .i64 0, .int .u8 0, .int .u64 0, .slice none 0 0] TEn)).alloc (.cells #[.bool true] TBl)) (w.heap.size + 1) TEn [.int .i64 0, .int .u8 0, .int .u64 0, .slice none 0 0]) := by
    have := Rw.new (w.alloc (.cells #[.string (bs B)] TStr)) [.int .i64 0, .int .u8 0, .int .u64 0, .slice none 0 0] TEn
    rw [show (w.alloc (.cells #[.string (bs B)] TStr)).heap.size = w.heap.size + 1 by simp] at this
    exact this.later ((Below.refl _ _).alloc (Nat.le_refl _) _)
  have R4 : Hid (Rw (((w.alloc (.cells #[.string (bs B)] TStr)).alloc (.cells #[.int .i64 0, .int .u8 0, .int .u64 0, .slice none 0 0] TEn)).alloc (.cells #[.bool true] TBl)) (w.heap.size + 1 + 1) TBl [.bool true]) := by
    have := Rw.new ((w.alloc (.cells #[.string (bs B)] TStr)).alloc (.cells #[.int .i64 0, .int .u8 0, .int .u64 0, .slice none 0 0] TEn)) [.bool true] TBl
    rwa [show ((w.alloc (.cells #[.string (bs B)] TStr)).alloc (.cells #[.int .i64 0, .int .u8 0, .int .u64 0, .slice none 0 0] TEn)).heap.size = w.heap.size + 1 + 1 by simp] at this
  go_enter Try.func27, Try.ntmps27
  go_upto_region 2 with (fail)
  obtain ⟨lo, hlo⟩ : ∃ lo, lo = w.heap.size := ⟨_, rfl⟩
  have HLO := Lib.hid hlo
  rw [← hlo] at HB0 R1 RZ R4 ⊢
  obtain ⟨bz, hbz⟩ : ∃ bz, bz = lo + 1 := ⟨_, rfl⟩
  rw [← hbz] at RZ R4 ⊢
  obtain ⟨b4, hb4⟩ : ∃ b4, b4 = bz + 1 := ⟨_, rfl⟩
  rw [← hb4] at R4 ⊢
  have HZ : Hid (lo < bz ∧ bz < b4 ∧ lo ≠ b4) := ⟨by omega, by omega, by omega⟩
  clear hlo hbz hb4
  generalize (((w.alloc (.cells #[.string (bs B)] TStr)).alloc (.cells #[.int .i64 0, .int .u8 0, .int .u64 0, .slice none 0 0] TEn)).alloc (.cells #[.bool true] TBl)) = W1 at HB0 R1 RZ R4 ⊢
  have HG := Lib.hid (G.start B)
  have L0 : Hid (B.length ≤ maxLen) := Nat.le_trans HBL.out (by decide)
  have K1 : Hid (Calls Try.prog 66 #[.int .u64 3652059, .pointer (some ⟨lo, 0, none⟩), .pointer (some ⟨b4, 0, none⟩)] W1 (NumG 3652059 lo b4 B ([]) B C1 W1)) := num_g (Cn := C1) 3652059 HG.out.s1 HZ.out.2.2 W1 R1.out R4.out L0.out
  go_wp2_with fail
  refine K1.out.mono ?_
  rintro _ W2 ⟨m1, i1', r1, rfl, hm, hl, hp, hq, kp, hg⟩
  have HM1 : Hid (m1 ≤ 3652059) := hm
  have L1 : Hid (r1.length ≤ maxLen) := Nat.le_trans hl L0.out
  have P1 := Lib.hid hp
  have Q1 := Lib.hid hq
  have KP1 := Lib.hid kp
  have HG1 := Lib.hid hg
  have HB1 : Hid (Below lo w W2) := Keeps.belowT HB0.out kp (fun j hj => by have := HZ.out; omega) (by rw [HLO.out]; exact HB0.out.size)
  clear hm hl hp hq kp hg K1 HB0 L0 R1 R4 HG
  have RZ2 := Lib.hid (RZ.out.keeps KP1.out (by have := HZ.out; omega))
  clear KP1 RZ
  have K2 : Hid (Calls Try.prog 66 #[.int .u64 255, .pointer (some ⟨lo, 0, none⟩), .pointer (some ⟨b4, 0, none⟩)] W2 (NumG 255 lo b4 B (([] ++ Ta.num m1)) r1 (C2 m1) W2)) := num_g (Cn := (C2 m1)) 255 HG1.out.s2 HZ.out.2.2 W2 P1.out Q1.out L1.out
  have hw1 : IntKind.i64.wrap (m1 : Int) = (m1 : Int) := IntWalk.i64_in _ (by have := HM1.out; exact ⟨by omega, by omega⟩)
  go_wp2_with fail
  refine K2.out.mono ?_
  rintro _ W3 ⟨m2, i2', r2, rfl, hm, hl, hp, hq, kp, hg⟩
  have HM2 : Hid (m2 ≤ 255) := hm
  have L2 : Hid (r2.length ≤ maxLen) := Nat.le_trans hl L1.out
  have P2 := Lib.hid hp
  have Q2 := Lib.hid hq
  have KP2 := Lib.hid kp
  have HG2 := Lib.hid hg
  have HB2 : Hid (Below lo w W3) := Keeps.belowT HB1.out kp (fun j hj => by have := HZ.out; omega) (by rw [HLO.out]; exact HB1.out.size)
  clear hm hl hp hq kp hg K2 HB1 L1 P1 Q1 HG1
  have RZ3 := Lib.hid (RZ2.out.keeps KP2.out (by have := HZ.out; omega))
  clear KP2 RZ2
  have K3 : Hid (Calls Try.prog 66 #[.int .u64 18446744073709551615, .pointer (some ⟨lo, 0, none⟩), .pointer (some ⟨b4, 0, none⟩)] W3 (NumG 18446744073709551615 lo b4 B (([] ++ Ta.num m1 ++ Ta.num m2)) r2 (C3 m1 m2) W3)) := num_g (Cn := (C3 m1 m2)) 18446744073709551615 HG2.out.s3 HZ.out.2.2 W3 P2.out Q2.out L2.out
  have hw2 : IntKind.u8.wrap (m2 : Int) = (m2 : Int) := by have := HM2.out; rw [IntKind.wrap_u8]; omega
  go_wp2_with fail
  refine K3.out.mono ?_
  rintro _ W4 ⟨m3, i3', r3, rfl, hm, hl, hp, hq, kp, hg⟩
  have HM3 : Hid (m3 ≤ 18446744073709551615) := hm
  have L3 : Hid (r3.length ≤ maxLen) := Nat.le_trans hl L2.out
  have P3 := Lib.hid hp
  have Q3 := Lib.hid hq
  have KP3 := Lib.hid kp
  have HG3 := Lib.hid hg
  have HB3 : Hid (Below lo w W4) := Keeps.belowT HB2.out kp (fun j hj => by have := HZ.out; omega) (by rw [HLO.out]; exact HB2.out.size)
  clear hm hl hp hq kp hg K3 HB2 L2 P2 Q2 HG2
  have RZ4 := Lib.hid (RZ3.out.keeps KP3.out (by have := HZ.out; omega))
  clear KP3 RZ3
  go_upto_region 5 with (fail)
  have hb1 : Below W4.heap.size W4 (W4.alloc (.cells #[.int .i64 (m1 : Int), .int .u8 (m2 : Int), .int .u64 (m3 : Int), .slice none 0 0] TEn)) := (Below.refl _ _).alloc (Nat.le_refl _) _
  have RE : Hid (Rw (W4.alloc (.cells #[.int .i64 (m1 : Int), .int .u8 (m2 : Int), .int .u64 (m3 : Int), .slice none 0 0] TEn)) W4.heap.size TEn [.int .i64 (m1 : Int), .int .u8 (m2 : Int), .int .u64 (m3 : Int), .slice none 0 0]) := Rw.new W4 [.int .i64 (m1 : Int), .int .u8 (m2 : Int), .int .u64 (m3 : Int), .slice none 0 0] TEn
  have HB4 : Hid (Below lo w (W4.alloc (.cells #[.int .i64 (m1 : Int), .int .u8 (m2 : Int), .int .u64 (m3 : Int), .slice none 0 0] TEn))) := HB3.out.trans (hb1.mono (by rw [HLO.out]; exact HB3.out.size))
  have P4 := Lib.hid (P3.out.later hb1)
  have Q4 := Lib.hid (Q3.out.later hb1)
  have RZ5 := Lib.hid (RZ4.out.later hb1)
  have HBE0 : Hid (b4 < W4.heap.size) := Q3.out.lt
  obtain ⟨be, hbe⟩ : ∃ be, be = W4.heap.size := ⟨_, rfl⟩
  rw [← hbe] at RE HBE0 ⊢
  generalize W4.alloc (.cells #[.int .i64 (m1 : Int), .int .u8 (m2 : Int), .int .u64 (m3 : Int), .slice none 0 0] TEn) = W5 at RE HB4 P4 Q4 RZ5 ⊢
  clear hb1 hbe HB3 P3 Q3 RZ4 hw1 hw2
  have K4 : Hid (Calls Try.prog 66 #[.int .u64 64, .pointer (some ⟨lo, 0, none⟩), .pointer (some ⟨b4, 0, none⟩)] W5 (NumG 64 lo b4 B (([] ++ Ta.num m1 ++ Ta.num m2 ++ Ta.num m3)) r3 (fun N r => CL m1 m2 m3 N [] r) W5)) := num_g (Cn := (fun N r => CL m1 m2 m3 N [] r)) 64 HG3.out.s4 HZ.out.2.2 W5 P4.out Q4.out L3.out
  go_wp2_with fail
  refine K4.out.mono ?_
  rintro _ W6 ⟨m4, i4', r4, rfl, hm, hl, hp, hq, kp, hg⟩
  have HM4 : Hid (m4 ≤ 64) := hm
  have L4 : Hid (r4.length ≤ maxLen) := Nat.le_trans hl L3.out
  have P5 := Lib.hid hp
  have Q5 := Lib.hid hq
  have KP4 := Lib.hid kp
  have HG4 := Lib.hid hg
  have HB5 : Hid (Below lo w W6) := Keeps.belowT HB4.out kp (fun j hj => by have := HZ.out; omega) (by rw [HLO.out]; exact HB4.out.size)
  clear hm hl hp hq kp hg K4 HB4 L3 P4 Q4 HG3
  have RZ6 := Lib.hid (RZ5.out.keeps KP4.out (by have := HZ.out; omega))
  have RE6 := Lib.hid (RE.out.keeps KP4.out (by have h1 := HZ.out; have h2 := HBE0.out; omega))
  clear KP4 RZ5 RE
  go_upto_region 6 with (fail)
  obtain ⟨PH, hPH⟩ : ∃ PH, PH = [] ++ Ta.num m1 ++ Ta.num m2 ++ Ta.num m3 ++ Ta.num m4 := ⟨_, rfl⟩
  rw [← hPH] at HG4
  have HPH : Hid (PH = headB m1 m2 m3 m4) := by show _ = _; rw [hPH]; rfl
  clear hPH MF
  obtain ⟨i4, z4, hk0, hk1, hk2, hk3, hk4⟩ := info_ln
  have HM4n : Hid (m4 ≤ 64) := HM4.out
  go_loopg [21] m4 (fun kx s21 wr => ∃ (A : List Ln) (vv : Value) (is : Bool) (r : List UInt8), s21 = .int .u64 (A.length : Int) ∧ A.length ≤ m4 ∧ Hid (wr.ownsRow (be + 1) TLine 4 vv A.length (flatL A)) ∧ Hid (Rw wr be TEn [.int .i64 (m1 : Int), .int .u8 (m2 : Int), .int .u64 (m3 : Int), vv]) ∧ Hid (Rw wr bz TEn [.int .i64 0, .int .u8 0, .int .u64 0, .slice none 0 0]) ∧ Hid (Rw wr lo TStr [.string (bs r)]) ∧ Hid (Rw wr b4 TBl [.bool is]) ∧ Hid (Below lo w wr) ∧ Hid (G B is (PH ++ linesB A) r (CL m1 m2 m3 m4 A r)) ∧ Hid (Lr A) ∧ Hid (r.length ≤ maxLen) ∧ m4 ≤ A.length + kx)
  case atStart => exact ⟨[], .slice none 0 0, i4', r4, rfl, Nat.zero_le _, World.ownsRow_nil _ _ _ _, RE6.out, RZ6.out, P5.out, Q5.out, HB5.out, by rw [show PH ++ linesB [] = PH from List.append_nil _]; exact HG4.out, fun x hx => by simp at hx, L4.out, by omega⟩
  case round =>
    obtain ⟨A, vv, is, r, rfl, hA9, HO, RE, RZ, P, Q, HB, HG, HLR, HL, hkx⟩ := hrel
    obtain ⟨va, vc, rfl⟩ := own_any HO.out
    by_cases hlt : A.length < m4
    · have j1 : (A.length : Int) < (m4 : Int) := by omega
      have e3 : wr.cell? ⟨be, 3, none⟩ = some (.slice va A.length vc) := RE.out.cell 3
      have HLT := Lib.hid hlt
      have HKX := Lib.hid hkx
      clear hlt hkx
      go_upto_region 7 with (fail)
      clear e3 j1
      have P0 : Hid (Rw wr.drew lo TStr [.string (bs r)]) := P.out.drew
      have Q0 : Hid (Rw wr.drew b4 TBl [.bool is]) := Q.out.drew
      have RE0 : Hid (Rw wr.drew be TEn [.int .i64 (m1 : Int), .int .u8 (m2 : Int), .int .u64 (m3 : Int), .slice va A.length vc]) := RE.out.drew
      have RZ0 : Hid (Rw wr.drew bz TEn [.int .i64 0, .int .u8 0, .int .u64 0, .slice none 0 0]) := RZ.out.drew
      have HO0 : Hid (wr.drew.ownsRow (be + 1) TLine 4 (.slice va A.length vc) A.length (flatL A)) := own_later HO.out (Below.refl _ wr).drew
      have HB0 : Hid (Below lo w wr.drew) := HB.out.drew
      have HG0 := HG
      have L0 := HL
      have HBE := HBE0
      refine wp_region_held_drew (S := (fun _ => True)) (by kernel_rfl) trivial (fun hHeld => ?_)
      generalize wr.drew = U0 at P0 Q0 RE0 RZ0 HO0 HB0 ⊢
      clear P Q RE RZ HO HB HG HL
      generalize r = r0 at P0 HG0 L0
      generalize is = is0 at Q0 HG0
      refine wpAnyH_take (i := 0) (oi := { dst := some 23, op := Op.fieldAddr 25 (Operand.tmp 7) 3, type := 0, pos := "journal.go:181", after := #[], guard := none }) (v := (.pointer (some ⟨be, 3, none⟩))) rfl (by kernel_rfl) (by kernel_rfl) (by kernel_rfl) (fun _ _ _ h => h) (Or.inl ⟨by rfl, ?_⟩) hHeld ?_
      · rintro u _
        go_simp <;> first | rfl | omega | kernel_rfl
      try simp only [Act.put, List.setIfInBounds_toArray, List.set_cons_zero, List.set_cons_succ]
      refine wpAnyH_take (i := 2) (oi := { dst := some 25, op := Op.move (Operand.tmp 5), type := 114, pos := "journal.go:181", after := #[], guard := none }) (v := (.func (Fn.func 66) #[] #[.pointer (some ⟨lo, 0, none⟩), .pointer (some ⟨b4, 0, none⟩)])) rfl (by kernel_rfl) (by kernel_rfl) (by kernel_rfl) (fun _ _ _ h => h) (Or.inl ⟨by rfl, ?_⟩) hHeld ?_
      · rintro u _
        go_simp <;> first | rfl | omega | kernel_rfl
      try simp only [Act.put, List.setIfInBounds_toArray, List.set_cons_zero, List.set_cons_succ]
      refine wpAnyH_take (i := 5) (oi := { dst := some 28, op := Op.move (Operand.tmp 5), type := 114, pos := "journal.go:181", after := #[], guard := none }) (v := (.func (Fn.func 66) #[] #[.pointer (some ⟨lo, 0, none⟩), .pointer (some ⟨b4, 0, none⟩)])) rfl (by kernel_rfl) (by kernel_rfl) (by kernel_rfl) (fun _ _ _ h => h) (Or.inl ⟨by rfl, ?_⟩) hHeld ?_
      · rintro u _
        go_simp <;> first | rfl | omega | kernel_rfl
      try simp only [Act.put, List.setIfInBounds_toArray, List.set_cons_zero, List.set_cons_succ]
      refine wpAnyH_take (i := 7) (oi := { dst := some 30, op := Op.move (Operand.tmp 5), type := 114, pos := "journal.go:181", after := #[], guard := none }) (v := (.func (Fn.func 66) #[] #[.pointer (some ⟨lo, 0, none⟩), .pointer (some ⟨b4, 0, none⟩)])) rfl (by kernel_rfl) (by kernel_rfl) (by kernel_rfl) (fun _ _ _ h => h) (Or.inl ⟨by rfl, ?_⟩) hHeld ?_
      · rintro u _
        go_simp <;> first | rfl | omega | kernel_rfl
      try simp only [Act.put, List.setIfInBounds_toArray, List.set_cons_zero, List.set_cons_succ]
      refine wpAnyH_take (i := 9) (oi := { dst := some 32, op := Op.move (Operand.tmp 6), type := 117, pos := "journal.go:181", after := #[], guard := none }) (v := (.func (Fn.func 68) #[] #[.pointer (some ⟨lo, 0, none⟩), .pointer (some ⟨b4, 0, none⟩)])) rfl (by kernel_rfl) (by kernel_rfl) (by kernel_rfl) (fun _ _ _ h => h) (Or.inl ⟨by rfl, ?_⟩) hHeld ?_
      · rintro u _
        go_simp <;> first | rfl | omega | kernel_rfl
      try simp only [Act.put, List.setIfInBounds_toArray, List.set_cons_zero, List.set_cons_succ]
      refine wpAnyH_ready (rs := [1, 3]) (by kernel_rfl) (by simp) ?_
      refine AllReadyH.cons (o := { dst := some 24, op := Op.load 23 (Operand.tmp 23), type := 23, pos := "journal.go:181", after := #[{ on := 0, ground := Ground.data }], guard := none }) rfl (fun Kq hKq => ?_) (AllReadyH.cons (o := { dst := some 26, op := Op.call { callee := Callee.value (Operand.tmp 25), args := #[Operand.const (Value.int IntKind.u64 9999)], argTypes := #[22] }, type := 22, pos := "journal.go:181", after := #[{ on := 2, ground := Ground.data }], guard := none }) rfl (fun Kq hKq => ?_) AllReadyH.nil)
      · have e3 : U0.cell? ⟨be, 3, none⟩ = some (.slice va A.length vc) := RE0.out.cell 3
        go_simp
        refine hKq.out _ _ trivial (fun _ => ?_)
        clear hKq Kq e3
        try simp only [Act.put, List.setIfInBounds_toArray, List.set_cons_zero, List.set_cons_succ]
        refine wpAnyH_ready (rs := [3]) (by kernel_rfl) (by simp) ?_
        refine AllReadyH.cons (o := { dst := some 26, op := Op.call { callee := Callee.value (Operand.tmp 25), args := #[Operand.const (Value.int IntKind.u64 9999)], argTypes := #[22] }, type := 22, pos := "journal.go:181", after := #[{ on := 2, ground := Ground.data }], guard := none }) rfl (fun Kq hKq => ?_) AllReadyH.nil
        have K : Hid (Calls Try.prog 66 #[.int .u64 9999, .pointer (some ⟨lo, 0, none⟩), .pointer (some ⟨b4, 0, none⟩)] U0 (NumG 9999 lo b4 B (PH ++ linesB A) r0 (CL1 m1 m2 m3 m4 A) U0)) := num_g (Cn := (CL1 m1 m2 m3 m4 A)) 9999 (HG0.out.l1 HLT.out) HZ.out.2.2 U0 P0.out Q0.out L0.out
        go_simp
        refine K.out.mono ?_
        rintro _ U1 ⟨a, is1, r1, rfl, hm, hl, hp, hq, kp, hg⟩
        have HM1 := Lib.hid hm
        have L1 : Hid (r1.length ≤ maxLen) := Nat.le_trans hl L0.out
        have P1 := Lib.hid hp
        have Q1 := Lib.hid hq
        have HG1 := Lib.hid hg
        have RE1 := Lib.hid (RE0.out.keeps kp (by have h1 := HZ.out; have h2 := HBE.out; omega))
        have RZ1 := Lib.hid (RZ0.out.keeps kp (by have := HZ.out; omega))
        have HO1 := Lib.hid (own_keeps HO0.out kp (fun j hj e => by have e1 : j = lo ∨ j = b4 := e; have := (HO0.out.lt j hj).1; have h1 := HZ.out; have h2 := HBE.out; omega))
        have HB1 : Hid (Below lo w U1) := Keeps.belowT HB0.out kp (fun j hj => by have e1 : j = lo ∨ j = b4 := hj; have := HZ.out; omega) (by rw [HLO.out]; exact HB0.out.size)
        clear hm hl hp hq kp hg K HG0 L0 P0 Q0 RE0 RZ0 HO0 HB0
        go_simp
        refine hKq.out _ _ trivial (fun _ => ?_)
        clear hKq Kq
        try simp only [Act.put, List.setIfInBounds_toArray, List.set_cons_zero, List.set_cons_succ]
        have hwa : IntKind.i64.wrap (a : Int) = (a : Int) := IntWalk.i64_in _ (by have := HM1.out; exact ⟨by omega, by omega⟩)
        refine wpAnyH_take (i := 4) (oi := { dst := some 27, op := Op.convert 22 3 (Operand.tmp 26), type := 3, pos := "journal.go:181", after := #[{ on := 3, ground := Ground.data }], guard := none }) (v := (.int .i64 (a : Int))) rfl (by kernel_rfl) (by kernel_rfl) (by kernel_rfl) (fun _ _ _ h => h) (Or.inl ⟨by rfl, ?_⟩) hHeld ?_
        · rintro u _
          go_simp <;> first | rfl | omega | kernel_rfl | exact hwa
        try simp only [Act.put, List.setIfInBounds_toArray, List.set_cons_zero, List.set_cons_succ]
        clear hwa
        refine wpAnyH_ready (rs := [6]) (by kernel_rfl) (by simp) ?_
        refine AllReadyH.cons (o := { dst := some 29, op := Op.call { callee := Callee.value (Operand.tmp 28), args := #[Operand.const (Value.int IntKind.u64 18446744073709551615)], argTypes := #[22] }, type := 22, pos := "journal.go:181", after := #[{ on := 5, ground := Ground.data }, { on := 3, ground := Ground.chain }], guard := none }) rfl (fun Kq hKq => ?_) AllReadyH.nil
        have K : Hid (Calls Try.prog 66 #[.int .u64 18446744073709551615, .pointer (some ⟨lo, 0, none⟩), .pointer (some ⟨b4, 0, none⟩)] U1 (NumG 18446744073709551615 lo b4 B (PH ++ linesB A ++ Ta.num a) r1 (CL2 m1 m2 m3 m4 A a) U1)) := num_g (Cn := (CL2 m1 m2 m3 m4 A a)) 18446744073709551615 (HG1.out.l2 HLT.out) HZ.out.2.2 U1 P1.out Q1.out L1.out
        go_simp
        refine K.out.mono ?_
        rintro _ U2 ⟨b, is2, r2, rfl, hm, hl, hp, hq, kp, hg⟩
        have HM2 := Lib.hid hm
        have L2 : Hid (r2.length ≤ maxLen) := Nat.le_trans hl L1.out
        have P2 := Lib.hid hp
        have Q2 := Lib.hid hq
        have HG2 := Lib.hid hg
        have RE2 := Lib.hid (RE1.out.keeps kp (by have h1 := HZ.out; have h2 := HBE.out; omega))
        have RZ2 := Lib.hid (RZ1.out.keeps kp (by have := HZ.out; omega))
        have HO2 := Lib.hid (own_keeps HO1.out kp (fun j hj e => by have e1 : j = lo ∨ j = b4 := e; have := (HO1.out.lt j hj).1; have h1 := HZ.out; have h2 := HBE.out; omega))
        have HB2 : Hid (Below lo w U2) := Keeps.belowT HB1.out kp (fun j hj => by have e1 : j = lo ∨ j = b4 := hj; have := HZ.out; omega) (by rw [HLO.out]; exact HB1.out.size)
        clear hm hl hp hq kp hg K HG1 L1 P1 Q1 RE1 RZ1 HO1 HB1
        go_simp
        refine hKq.out _ _ trivial (fun _ => ?_)
        clear hKq Kq
        try simp only [Act.put, List.setIfInBounds_toArray, List.set_cons_zero, List.set_cons_succ]
        refine wpAnyH_ready (rs := [8]) (by kernel_rfl) (by simp) ?_
        refine AllReadyH.cons (o := { dst := some 31, op := Op.call { callee := Callee.value (Operand.tmp 30), args := #[Operand.const (Value.int IntKind.u64 18446744073709551615)], argTypes := #[22] }, type := 22, pos := "journal.go:181", after := #[{ on := 7, ground := Ground.data }, { on := 6, ground := Ground.chain }], guard := none }) rfl (fun Kq hKq => ?_) AllReadyH.nil
        have K : Hid (Calls Try.prog 66 #[.int .u64 18446744073709551615, .pointer (some ⟨lo, 0, none⟩), .pointer (some ⟨b4, 0, none⟩)] U2 (NumG 18446744073709551615 lo b4 B (PH ++ linesB A ++ Ta.num a ++ Ta.num b) r2 (CL3 m1 m2 m3 m4 A a b) U2)) := num_g (Cn := (CL3 m1 m2 m3 m4 A a b)) 18446744073709551615 (HG2.out.l3 HLT.out) HZ.out.2.2 U2 P2.out Q2.out L2.out
        go_simp
        refine K.out.mono ?_
        rintro _ U3 ⟨c, is3, r3, rfl, hm, hl, hp, hq, kp, hg⟩
        have HM3 := Lib.hid hm
        have L3 : Hid (r3.length ≤ maxLen) := Nat.le_trans hl L2.out
        have P3 := Lib.hid hp
        have Q3 := Lib.hid hq
        have HG3 := Lib.hid hg
        have RE3 := Lib.hid (RE2.out.keeps kp (by have h1 := HZ.out; have h2 := HBE.out; omega))
        have RZ3 := Lib.hid (RZ2.out.keeps kp (by have := HZ.out; omega))
        have HO3 := Lib.hid (own_keeps HO2.out kp (fun j hj e => by have e1 : j = lo ∨ j = b4 := e; have := (HO2.out.lt j hj).1; have h1 := HZ.out; have h2 := HBE.out; omega))
        have HB3 : Hid (Below lo w U3) := Keeps.belowT HB2.out kp (fun j hj => by have e1 : j = lo ∨ j = b4 := hj; have := HZ.out; omega) (by rw [HLO.out]; exact HB2.out.size)
        clear hm hl hp hq kp hg K HG2 L2 P2 Q2 RE2 RZ2 HO2 HB2
        go_simp
        refine hKq.out _ _ trivial (fun _ => ?_)
        clear hKq Kq
        try simp only [Act.put, List.setIfInBounds_toArray, List.set_cons_zero, List.set_cons_succ]
        refine wpAnyH_ready (rs := [10]) (by kernel_rfl) (by simp) ?_
        refine AllReadyH.cons (o := { dst := some 33, op := Op.call { callee := Callee.value (Operand.tmp 32), args := #[], argTypes := #[] }, type := 2, pos := "journal.go:181", after := #[{ on := 9, ground := Ground.data }, { on := 8, ground := Ground.chain }], guard := none }) rfl (fun Kq hKq => ?_) AllReadyH.nil
        have K : Hid (Calls Try.prog 68 #[.pointer (some ⟨lo, 0, none⟩), .pointer (some ⟨b4, 0, none⟩)] U3 (AmtG lo b4 B (PH ++ linesB A ++ Ta.num a ++ Ta.num b ++ Ta.num c) r3 (fun (z : Int) (r : List UInt8) => CL m1 m2 m3 m4 (A ++ [(⟨(a : Int), (b : Int), (c : Int), z⟩ : Ln)]) r) U3)) := amt_g (Cn := (fun (z : Int) (r : List UInt8) => CL m1 m2 m3 m4 (A ++ [(⟨(a : Int), (b : Int), (c : Int), z⟩ : Ln)]) r)) (HG3.out.l4 HLT.out) HZ.out.2.2 U3 P3.out Q3.out L3.out
        go_simp
        refine K.out.mono ?_
        rintro _ U4 ⟨z, is4, r4, rfl, hm, hl, hp, hq, kp, hg⟩
        have HM4 := Lib.hid hm
        have L4 : Hid (r4.length ≤ maxLen) := Nat.le_trans hl L3.out
        have P4 := Lib.hid hp
        have Q4 := Lib.hid hq
        have HG4 := Lib.hid hg
        have RE4 := Lib.hid (RE3.out.keeps kp (by have h1 := HZ.out; have h2 := HBE.out; omega))
        have RZ4 := Lib.hid (RZ3.out.keeps kp (by have := HZ.out; omega))
        have HO4 := Lib.hid (own_keeps HO3.out kp (fun j hj e => by have e1 : j = lo ∨ j = b4 := e; have := (HO3.out.lt j hj).1; have h1 := HZ.out; have h2 := HBE.out; omega))
        have HB4 : Hid (Below lo w U4) := Keeps.belowT HB3.out kp (fun j hj => by have e1 : j = lo ∨ j = b4 := hj; have := HZ.out; omega) (by rw [HLO.out]; exact HB3.out.size)
        clear hm hl hp hq kp hg K HG3 L3 P3 Q3 RE3 RZ3 HO3 HB3
        go_simp
        refine hKq.out _ _ trivial (fun _ => ?_)
        clear hKq Kq
        try simp only [Act.put, List.setIfInBounds_toArray, List.set_cons_zero, List.set_cons_succ]
        refine wpAnyH_take (i := 11) (oi := { dst := some 34, op := Op.build 67 #[(0, Operand.tmp 27), (1, Operand.tmp 29), (2, Operand.tmp 31), (3, Operand.tmp 33)], type := 67, pos := "journal.go:181", after := #[{ on := 4, ground := Ground.data }, { on := 6, ground := Ground.data }, { on := 8, ground := Ground.data }, { on := 10, ground := Ground.data }], guard := none }) (v := (.agg #[.int .i64 (a : Int), .int .u64 (b : Int), .int .u64 (c : Int), .int .i64 z])) rfl (by kernel_rfl) (by kernel_rfl) (by kernel_rfl) (fun _ _ _ h => h) (Or.inl ⟨by rfl, ?_⟩) hHeld ?_
        · rintro u _
          go_simp <;> first | rfl | omega | kernel_rfl
        try simp only [Act.put, List.setIfInBounds_toArray, List.set_cons_zero, List.set_cons_succ]
        refine wpAnyH_ready (rs := [12]) (by kernel_rfl) (by simp) ?_
        refine AllReadyH.cons (o := { dst := some 35, op := Op.buildSlice 23 1 #[(0, Operand.tmp 34)], type := 23, pos := "journal.go:181", after := #[{ on := 11, ground := Ground.data }], guard := none }) rfl (fun Kq hKq => ?_) AllReadyH.nil
        go_simp
        have hb5 : Below U4.heap.size U4 (U4.alloc (.cells #[.int .i64 (a : Int), .int .u64 (b : Int), .int .u64 (c : Int), .int .i64 z] TLine)) := (Below.refl _ _).alloc (Nat.le_refl _) _
        have RX : Hid (Rw (U4.alloc (.cells #[.int .i64 (a : Int), .int .u64 (b : Int), .int .u64 (c : Int), .int .i64 z] TLine)) U4.heap.size TLine [.int .i64 (a : Int), .int .u64 (b : Int), .int .u64 (c : Int), .int .i64 z]) := Rw.new U4 [.int .i64 (a : Int), .int .u64 (b : Int), .int .u64 (c : Int), .int .i64 z] TLine
        have HB5 : Hid (Below lo w (U4.alloc (.cells #[.int .i64 (a : Int), .int .u64 (b : Int), .int .u64 (c : Int), .int .i64 z] TLine))) := HB4.out.trans (hb5.mono (by rw [HLO.out]; exact HB4.out.size))
        have P5 := Lib.hid (P4.out.later hb5)
        have Q5 := Lib.hid (Q4.out.later hb5)
        have RE5 := Lib.hid (RE4.out.later hb5)
        have RZ5 := Lib.hid (RZ4.out.later hb5)
        have HO5 := Lib.hid (own_later HO4.out hb5)
        refine hKq.out _ _ trivial (fun _ => ?_)
        clear hKq Kq hb5
        try simp only [Act.put, List.setIfInBounds_toArray, List.set_cons_zero, List.set_cons_succ]
        obtain ⟨bx, hbx⟩ : ∃ bx, bx = U4.heap.size := ⟨_, rfl⟩
        rw [← hbx] at RX ⊢
        clear hbx
        generalize U4.alloc (.cells #[.int .i64 (a : Int), .int .u64 (b : Int), .int .u64 (c : Int), .int .i64 z] TLine) = U5 at HB5 RX P5 Q5 RE5 RZ5 HO5 ⊢
        clear P4 Q4 RE4 RZ4 HO4 HB4
        obtain ⟨y, V, hrun, hown, hgrow, _, _⟩ := run_append_own_at (P := Try.prog) (w := U5) (be + 1) TLines TLines TLine i4 z4 4 32 Try.underlying23 hk0 hk1 hk2 hk3 hk4 (by decide) _ A.length (flatL A) HO5.out ⟨bx, 0, none⟩ 1 1 [.int .i64 (a : Int), .int .u64 (b : Int), .int .u64 (c : Int), .int .i64 z] rfl (rw_news RX.out) (by simp [Value.oneCell']) (by have h1 := HLT.out; have h2 := HM4n.out; unfold maxLen; omega) (by have h1 := HLT.out; have h2 := HM4n.out; omega) (RE5.out.lt)
        obtain ⟨x, hx⟩ : ∃ x : Ln, x = ⟨(a : Int), (b : Int), (c : Int), z⟩ := ⟨_, rfl⟩
        obtain ⟨Qn, hQn⟩ : ∃ Qn, Qn = A ++ [x] := ⟨_, rfl⟩
        have HOV : Hid (V.ownsRow (be + 1) TLine 4 y Qn.length (flatL Qn)) := by
          show World.ownsRow _ _ _ _ _ _ _
          rw [hQn, flatL_snoc, List.length_append, hx]
          exact hown
        have HBV : Hid (Below lo w V) := HB5.out.grown hgrow (by rw [HLO.out]; exact HB5.out.size) (fun j hj => by have := (HO5.out.lt j hj).1; have h1 := HZ.out; have h2 := HBE.out; omega)
        have P6 := Lib.hid (Rw.grown P5.out hgrow (fun e => by have := (HO5.out.lt lo e).1; have h1 := HZ.out; have h2 := HBE.out; omega))
        have Q6 := Lib.hid (Rw.grown Q5.out hgrow (fun e => by have := (HO5.out.lt b4 e).1; have h1 := HZ.out; have h2 := HBE.out; omega))
        have RE6 := Lib.hid (Rw.grown RE5.out hgrow (fun e => by have := (HO5.out.lt be e).1; have h1 := HZ.out; have h2 := HBE.out; omega))
        have RZ6 := Lib.hid (Rw.grown RZ5.out hgrow (fun e => by have := (HO5.out.lt bz e).1; have h1 := HZ.out; have h2 := HBE.out; omega))
        have HG6 : Hid (G B is4 (PH ++ linesB Qn) r4 (CL m1 m2 m3 m4 Qn r4)) := by
          show G _ _ _ _ _
          rw [hQn, hx, ← pre_ln]
          exact HG4.out
        have HLR6 : Hid (Lr Qn) := by
          show Lr _
          rw [hQn, hx]
          exact lr_snoc HLR.out HM1.out HM2.out HM3.out
        have HQL : Hid (Qn.length = A.length + 1) := by
          show _ = _
          rw [hQn, List.length_append]
          rfl
        clear hQn hx HG4 HLR hown hgrow
        refine wpAnyH_ready (rs := [13]) (by kernel_rfl) (by simp) ?_
        refine AllReadyH.cons (o := { dst := some 36, op := Op.call { callee := Callee.builtin Builtin.append, args := #[Operand.tmp 24, Operand.tmp 35], argTypes := #[23, 23] }, type := 23, pos := "journal.go:181", after := #[{ on := 1, ground := Ground.data }, { on := 12, ground := Ground.data }, { on := 10, ground := Ground.chain }], guard := none }) rfl (fun Kq hKq => ?_) AllReadyH.nil
        refine step_app4 rfl _ _ TLines rfl (.slice va A.length vc) (some ⟨bx, 0, none⟩) 1 1 y (by rfl) (by rfl) hrun ?_
        refine hKq.out _ _ trivial (fun _ => ?_)
        clear hKq Kq hrun HO5 P5 Q5 RE5 RZ5 HB5 RX
        try simp only [Act.put, List.setIfInBounds_toArray, List.set_cons_zero, List.set_cons_succ]
        obtain ⟨ya, yc, rfl⟩ := own_any HOV.out
        refine wpAnyH_take (i := 14) (oi := { dst := some 37, op := Op.fieldAddr 25 (Operand.tmp 7) 3, type := 0, pos := "journal.go:181", after := #[{ on := 0, ground := Ground.phase }, { on := 1, ground := Ground.phase }, { on := 2, ground := Ground.phase }, { on := 3, ground := Ground.phase }, { on := 4, ground := Ground.phase }, { on := 5, ground := Ground.phase }, { on := 6, ground := Ground.phase }, { on := 7, ground := Ground.phase }, { on := 8, ground := Ground.phase }, { on := 9, ground := Ground.phase }, { on := 10, ground := Ground.phase }, { on := 11, ground := Ground.phase }, { on := 12, ground := Ground.phase }, { on := 13, ground := Ground.phase }], guard := none }) (v := (.pointer (some ⟨be, 3, none⟩))) rfl (by kernel_rfl) (by kernel_rfl) (by kernel_rfl) (fun _ _ _ h => h) (Or.inl ⟨by rfl, ?_⟩) hHeld ?_
        · rintro u _
          go_simp <;> first | rfl | omega | kernel_rfl
        try simp only [Act.put, List.setIfInBounds_toArray, List.set_cons_zero, List.set_cons_succ]
        have o3 : V.cell? ⟨be, 3, none⟩ = some (.slice va A.length vc) := RE6.out.cell 3
        have f3 : V.frozen? ⟨be, 3, none⟩ = false := RE6.out.frozen 3
        refine wpAnyH_ready (rs := [15]) (by kernel_rfl) (by simp) ?_
        refine AllReadyH.cons (o := { dst := none, op := Op.store 23 (Operand.tmp 37) (Operand.tmp 36), type := 0, pos := "journal.go:181", after := #[{ on := 14, ground := Ground.data }, { on := 13, ground := Ground.data }, { on := 13, ground := Ground.chain }, { on := 0, ground := Ground.phase }, { on := 1, ground := Ground.phase }, { on := 2, ground := Ground.phase }, { on := 3, ground := Ground.phase }, { on := 4, ground := Ground.phase }, { on := 5, ground := Ground.phase }, { on := 6, ground := Ground.phase }, { on := 7, ground := Ground.phase }, { on := 8, ground := Ground.phase }, { on := 9, ground := Ground.phase }, { on := 10, ground := Ground.phase }, { on := 11, ground := Ground.phase }, { on := 12, ground := Ground.phase }, { on := 13, ground := Ground.phase }], guard := none }) rfl (fun Kq hKq => ?_) AllReadyH.nil
        go_simp
        refine hKq.out _ _ trivial (fun _ => ?_)
        clear hKq Kq o3 f3
        try simp only [Act.put, List.setIfInBounds_toArray, List.set_cons_zero, List.set_cons_succ]
        have kp : Keeps (fun j => j = be) V (V.setCell ⟨be, 3, none⟩ (.slice ya Qn.length yc)) := (Keeps.refl (fun j => j = be) V).setCell be 3 _ (.inl rfl)
        have HB7 : Hid (Below lo w (V.setCell ⟨be, 3, none⟩ (.slice ya Qn.length yc))) := Keeps.belowT HBV.out kp (fun j hj => by have e1 : j = be := hj; have h1 := HZ.out; have h2 := HBE.out; omega) (by rw [HLO.out]; exact HBV.out.size)
        have RE7 : Hid (Rw (V.setCell ⟨be, 3, none⟩ (.slice ya Qn.length yc)) be TEn [.int .i64 (m1 : Int), .int .u8 (m2 : Int), .int .u64 (m3 : Int), .slice ya Qn.length yc]) := RE6.out.setCell 3 _
        have P7 := Lib.hid (P6.out.keeps kp (by have h1 := HZ.out; have h2 := HBE.out; omega))
        have Q7 := Lib.hid (Q6.out.keeps kp (by have h1 := HZ.out; have h2 := HBE.out; omega))
        have RZ7 := Lib.hid (RZ6.out.keeps kp (by have h1 := HZ.out; have h2 := HBE.out; omega))
        have HO7 := Lib.hid (own_keeps HOV.out kp (fun j hj e => by have e1 : j = be := e; have := (HOV.out.lt j hj).1; omega))
        generalize V.setCell ⟨be, 3, none⟩ (.slice ya Qn.length yc) = V9 at HB7 RE7 P7 Q7 RZ7 HO7 ⊢
        clear kp HBV P6 Q6 RE6 RZ6 HOV
        refine wpAnyH_done (by kernel_rfl) ?_ _
        have hlt := HLT.out
        have j2 : m4 ≤ 64 := HM4n.out
        go_wp2_with fail
        have hkx := HKX.out
        have hql := HQL.out
        go_roundg (m4 - (A.length + 1))
        case measure => omega
        case rel => exact ⟨Qn, .slice ya Qn.length yc, is4, r4, by rw [hql]; simp, by omega, HO7, RE7, RZ7, P7, Q7, HB7, HG6, HLR6, L4, by omega⟩
      · have K : Hid (Calls Try.prog 66 #[.int .u64 9999, .pointer (some ⟨lo, 0, none⟩), .pointer (some ⟨b4, 0, none⟩)] U0 (NumG 9999 lo b4 B (PH ++ linesB A) r0 (CL1 m1 m2 m3 m4 A) U0)) := num_g (Cn := (CL1 m1 m2 m3 m4 A)) 9999 (HG0.out.l1 HLT.out) HZ.out.2.2 U0 P0.out Q0.out L0.out
        go_simp
        refine K.out.mono ?_
        rintro _ U1 ⟨a, is1, r1, rfl, hm, hl, hp, hq, kp, hg⟩
        have HM1 := Lib.hid hm
        have L1 : Hid (r1.length ≤ maxLen) := Nat.le_trans hl L0.out
        have P1 := Lib.hid hp
        have Q1 := Lib.hid hq
        have HG1 := Lib.hid hg
        have RE1 := Lib.hid (RE0.out.keeps kp (by have h1 := HZ.out; have h2 := HBE.out; omega))
        have RZ1 := Lib.hid (RZ0.out.keeps kp (by have := HZ.out; omega))
        have HO1 := Lib.hid (own_keeps HO0.out kp (fun j hj e => by have e1 : j = lo ∨ j = b4 := e; have := (HO0.out.lt j hj).1; have h1 := HZ.out; have h2 := HBE.out; omega))
        have HB1 : Hid (Below lo w U1) := Keeps.belowT HB0.out kp (fun j hj => by have e1 : j = lo ∨ j = b4 := hj; have := HZ.out; omega) (by rw [HLO.out]; exact HB0.out.size)
        clear hm hl hp hq kp hg K HG0 L0 P0 Q0 RE0 RZ0 HO0 HB0
        go_simp
        refine hKq.out _ _ trivial (fun _ => ?_)
        clear hKq Kq
        try simp only [Act.put, List.setIfInBounds_toArray, List.set_cons_zero, List.set_cons_succ]
        have hwa : IntKind.i64.wrap (a : Int) = (a : Int) := IntWalk.i64_in _ (by have := HM1.out; exact ⟨by omega, by omega⟩)
        refine wpAnyH_take (i := 4) (oi := { dst := some 27, op := Op.convert 22 3 (Operand.tmp 26), type := 3, pos := "journal.go:181", after := #[{ on := 3, ground := Ground.data }], guard := none }) (v := (.int .i64 (a : Int))) rfl (by kernel_rfl) (by kernel_rfl) (by kernel_rfl) (fun _ _ _ h => h) (Or.inl ⟨by rfl, ?_⟩) hHeld ?_
        · rintro u _
          go_simp <;> first | rfl | omega | kernel_rfl | exact hwa
        try simp only [Act.put, List.setIfInBounds_toArray, List.set_cons_zero, List.set_cons_succ]
        clear hwa
        refine wpAnyH_ready (rs := [1, 6]) (by kernel_rfl) (by simp) ?_
        refine AllReadyH.cons (o := { dst := some 24, op := Op.load 23 (Operand.tmp 23), type := 23, pos := "journal.go:181", after := #[{ on := 0, ground := Ground.data }], guard := none }) rfl (fun Kq hKq => ?_) (AllReadyH.cons (o := { dst := some 29, op := Op.call { callee := Callee.value (Operand.tmp 28), args := #[Operand.const (Value.int IntKind.u64 18446744073709551615)], argTypes := #[22] }, type := 22, pos := "journal.go:181", after := #[{ on := 5, ground := Ground.data }, { on := 3, ground := Ground.chain }], guard := none }) rfl (fun Kq hKq => ?_) AllReadyH.nil)
        · have e3 : U1.cell? ⟨be, 3, none⟩ = some (.slice va A.length vc) := RE1.out.cell 3
          go_simp
          refine hKq.out _ _ trivial (fun _ => ?_)
          clear hKq Kq e3
          try simp only [Act.put, List.setIfInBounds_toArray, List.set_cons_zero, List.set_cons_succ]
          refine wpAnyH_ready (rs := [6]) (by kernel_rfl) (by simp) ?_
          refine AllReadyH.cons (o := { dst := some 29, op := Op.call { callee := Callee.value (Operand.tmp 28), args := #[Operand.const (Value.int IntKind.u64 18446744073709551615)], argTypes := #[22] }, type := 22, pos := "journal.go:181", after := #[{ on := 5, ground := Ground.data }, { on := 3, ground := Ground.chain }], guard := none }) rfl (fun Kq hKq => ?_) AllReadyH.nil
          have K : Hid (Calls Try.prog 66 #[.int .u64 18446744073709551615, .pointer (some ⟨lo, 0, none⟩), .pointer (some ⟨b4, 0, none⟩)] U1 (NumG 18446744073709551615 lo b4 B (PH ++ linesB A ++ Ta.num a) r1 (CL2 m1 m2 m3 m4 A a) U1)) := num_g (Cn := (CL2 m1 m2 m3 m4 A a)) 18446744073709551615 (HG1.out.l2 HLT.out) HZ.out.2.2 U1 P1.out Q1.out L1.out
          go_simp
          refine K.out.mono ?_
          rintro _ U2 ⟨b, is2, r2, rfl, hm, hl, hp, hq, kp, hg⟩
          have HM2 := Lib.hid hm
          have L2 : Hid (r2.length ≤ maxLen) := Nat.le_trans hl L1.out
          have P2 := Lib.hid hp
          have Q2 := Lib.hid hq
          have HG2 := Lib.hid hg
          have RE2 := Lib.hid (RE1.out.keeps kp (by have h1 := HZ.out; have h2 := HBE.out; omega))
          have RZ2 := Lib.hid (RZ1.out.keeps kp (by have := HZ.out; omega))
          have HO2 := Lib.hid (own_keeps HO1.out kp (fun j hj e => by have e1 : j = lo ∨ j = b4 := e; have := (HO1.out.lt j hj).1; have h1 := HZ.out; have h2 := HBE.out; omega))
          have HB2 : Hid (Below lo w U2) := Keeps.belowT HB1.out kp (fun j hj => by have e1 : j = lo ∨ j = b4 := hj; have := HZ.out; omega) (by rw [HLO.out]; exact HB1.out.size)
          clear hm hl hp hq kp hg K HG1 L1 P1 Q1 RE1 RZ1 HO1 HB1
          go_simp
          refine hKq.out _ _ trivial (fun _ => ?_)
          clear hKq Kq
          try simp only [Act.put, List.setIfInBounds_toArray, List.set_cons_zero, List.set_cons_succ]
          refine wpAnyH_ready (rs := [8]) (by kernel_rfl) (by simp) ?_
          refine AllReadyH.cons (o := { dst := some 31, op := Op.call { callee := Callee.value (Operand.tmp 30), args := #[Operand.const (Value.int IntKind.u64 18446744073709551615)], argTypes := #[22] }, type := 22, pos := "journal.go:181", after := #[{ on := 7, ground := Ground.data }, { on := 6, ground := Ground.chain }], guard := none }) rfl (fun Kq hKq => ?_) AllReadyH.nil
          have K : Hid (Calls Try.prog 66 #[.int .u64 18446744073709551615, .pointer (some ⟨lo, 0, none⟩), .pointer (some ⟨b4, 0, none⟩)] U2 (NumG 18446744073709551615 lo b4 B (PH ++ linesB A ++ Ta.num a ++ Ta.num b) r2 (CL3 m1 m2 m3 m4 A a b) U2)) := num_g (Cn := (CL3 m1 m2 m3 m4 A a b)) 18446744073709551615 (HG2.out.l3 HLT.out) HZ.out.2.2 U2 P2.out Q2.out L2.out
          go_simp
          refine K.out.mono ?_
          rintro _ U3 ⟨c, is3, r3, rfl, hm, hl, hp, hq, kp, hg⟩
          have HM3 := Lib.hid hm
          have L3 : Hid (r3.length ≤ maxLen) := Nat.le_trans hl L2.out
          have P3 := Lib.hid hp
          have Q3 := Lib.hid hq
          have HG3 := Lib.hid hg
          have RE3 := Lib.hid (RE2.out.keeps kp (by have h1 := HZ.out; have h2 := HBE.out; omega))
          have RZ3 := Lib.hid (RZ2.out.keeps kp (by have := HZ.out; omega))
          have HO3 := Lib.hid (own_keeps HO2.out kp (fun j hj e => by have e1 : j = lo ∨ j = b4 := e; have := (HO2.out.lt j hj).1; have h1 := HZ.out; have h2 := HBE.out; omega))
          have HB3 : Hid (Below lo w U3) := Keeps.belowT HB2.out kp (fun j hj => by have e1 : j = lo ∨ j = b4 := hj; have := HZ.out; omega) (by rw [HLO.out]; exact HB2.out.size)
          clear hm hl hp hq kp hg K HG2 L2 P2 Q2 RE2 RZ2 HO2 HB2
          go_simp
          refine hKq.out _ _ trivial (fun _ => ?_)
          clear hKq Kq
          try simp only [Act.put, List.setIfInBounds_toArray, List.set_cons_zero, List.set_cons_succ]
          refine wpAnyH_ready (rs := [10]) (by kernel_rfl) (by simp) ?_
          refine AllReadyH.cons (o := { dst := some 33, op := Op.call { callee := Callee.value (Operand.tmp 32), args := #[], argTypes := #[] }, type := 2, pos := "journal.go:181", after := #[{ on := 9, ground := Ground.data }, { on := 8, ground := Ground.chain }], guard := none }) rfl (fun Kq hKq => ?_) AllReadyH.nil
          have K : Hid (Calls Try.prog 68 #[.pointer (some ⟨lo, 0, none⟩), .pointer (some ⟨b4, 0, none⟩)] U3 (AmtG lo b4 B (PH ++ linesB A ++ Ta.num a ++ Ta.num b ++ Ta.num c) r3 (fun (z : Int) (r : List UInt8) => CL m1 m2 m3 m4 (A ++ [(⟨(a : Int), (b : Int), (c : Int), z⟩ : Ln)]) r) U3)) := amt_g (Cn := (fun (z : Int) (r : List UInt8) => CL m1 m2 m3 m4 (A ++ [(⟨(a : Int), (b : Int), (c : Int), z⟩ : Ln)]) r)) (HG3.out.l4 HLT.out) HZ.out.2.2 U3 P3.out Q3.out L3.out
          go_simp
          refine K.out.mono ?_
          rintro _ U4 ⟨z, is4, r4, rfl, hm, hl, hp, hq, kp, hg⟩
          have HM4 := Lib.hid hm
          have L4 : Hid (r4.length ≤ maxLen) := Nat.le_trans hl L3.out
          have P4 := Lib.hid hp
          have Q4 := Lib.hid hq
          have HG4 := Lib.hid hg
          have RE4 := Lib.hid (RE3.out.keeps kp (by have h1 := HZ.out; have h2 := HBE.out; omega))
          have RZ4 := Lib.hid (RZ3.out.keeps kp (by have := HZ.out; omega))
          have HO4 := Lib.hid (own_keeps HO3.out kp (fun j hj e => by have e1 : j = lo ∨ j = b4 := e; have := (HO3.out.lt j hj).1; have h1 := HZ.out; have h2 := HBE.out; omega))
          have HB4 : Hid (Below lo w U4) := Keeps.belowT HB3.out kp (fun j hj => by have e1 : j = lo ∨ j = b4 := hj; have := HZ.out; omega) (by rw [HLO.out]; exact HB3.out.size)
          clear hm hl hp hq kp hg K HG3 L3 P3 Q3 RE3 RZ3 HO3 HB3
          go_simp
          refine hKq.out _ _ trivial (fun _ => ?_)
          clear hKq Kq
          try simp only [Act.put, List.setIfInBounds_toArray, List.set_cons_zero, List.set_cons_succ]
          refine wpAnyH_take (i := 11) (oi := { dst := some 34, op := Op.build 67 #[(0, Operand.tmp 27), (1, Operand.tmp 29), (2, Operand.tmp 31), (3, Operand.tmp 33)], type := 67, pos := "journal.go:181", after := #[{ on := 4, ground := Ground.data }, { on := 6, ground := Ground.data }, { on := 8, ground := Ground.data }, { on := 10, ground := Ground.data }], guard := none }) (v := (.agg #[.int .i64 (a : Int), .int .u64 (b : Int), .int .u64 (c : Int), .int .i64 z])) rfl (by kernel_rfl) (by kernel_rfl) (by kernel_rfl) (fun _ _ _ h => h) (Or.inl ⟨by rfl, ?_⟩) hHeld ?_
          · rintro u _
            go_simp <;> first | rfl | omega | kernel_rfl
          try simp only [Act.put, List.setIfInBounds_toArray, List.set_cons_zero, List.set_cons_succ]
          refine wpAnyH_ready (rs := [12]) (by kernel_rfl) (by simp) ?_
          refine AllReadyH.cons (o := { dst := some 35, op := Op.buildSlice 23 1 #[(0, Operand.tmp 34)], type := 23, pos := "journal.go:181", after := #[{ on := 11, ground := Ground.data }], guard := none }) rfl (fun Kq hKq => ?_) AllReadyH.nil
          go_simp
          have hb5 : Below U4.heap.size U4 (U4.alloc (.cells #[.int .i64 (a : Int), .int .u64 (b : Int), .int .u64 (c : Int), .int .i64 z] TLine)) := (Below.refl _ _).alloc (Nat.le_refl _) _
          have RX : Hid (Rw (U4.alloc (.cells #[.int .i64 (a : Int), .int .u64 (b : Int), .int .u64 (c : Int), .int .i64 z] TLine)) U4.heap.size TLine [.int .i64 (a : Int), .int .u64 (b : Int), .int .u64 (c : Int), .int .i64 z]) := Rw.new U4 [.int .i64 (a : Int), .int .u64 (b : Int), .int .u64 (c : Int), .int .i64 z] TLine
          have HB5 : Hid (Below lo w (U4.alloc (.cells #[.int .i64 (a : Int), .int .u64 (b : Int), .int .u64 (c : Int), .int .i64 z] TLine))) := HB4.out.trans (hb5.mono (by rw [HLO.out]; exact HB4.out.size))
          have P5 := Lib.hid (P4.out.later hb5)
          have Q5 := Lib.hid (Q4.out.later hb5)
          have RE5 := Lib.hid (RE4.out.later hb5)
          have RZ5 := Lib.hid (RZ4.out.later hb5)
          have HO5 := Lib.hid (own_later HO4.out hb5)
          refine hKq.out _ _ trivial (fun _ => ?_)
          clear hKq Kq hb5
          try simp only [Act.put, List.setIfInBounds_toArray, List.set_cons_zero, List.set_cons_succ]
          obtain ⟨bx, hbx⟩ : ∃ bx, bx = U4.heap.size := ⟨_, rfl⟩
          rw [← hbx] at RX ⊢
          clear hbx
          generalize U4.alloc (.cells #[.int .i64 (a : Int), .int .u64 (b : Int), .int .u64 (c : Int), .int .i64 z] TLine) = U5 at HB5 RX P5 Q5 RE5 RZ5 HO5 ⊢
          clear P4 Q4 RE4 RZ4 HO4 HB4
          obtain ⟨y, V, hrun, hown, hgrow, _, _⟩ := run_append_own_at (P := Try.prog) (w := U5) (be + 1) TLines TLines TLine i4 z4 4 32 Try.underlying23 hk0 hk1 hk2 hk3 hk4 (by decide) _ A.length (flatL A) HO5.out ⟨bx, 0, none⟩ 1 1 [.int .i64 (a : Int), .int .u64 (b : Int), .int .u64 (c : Int), .int .i64 z] rfl (rw_news RX.out) (by simp [Value.oneCell']) (by have h1 := HLT.out; have h2 := HM4n.out; unfold maxLen; omega) (by have h1 := HLT.out; have h2 := HM4n.out; omega) (RE5.out.lt)
          obtain ⟨x, hx⟩ : ∃ x : Ln, x = ⟨(a : Int), (b : Int), (c : Int), z⟩ := ⟨_, rfl⟩
          obtain ⟨Qn, hQn⟩ : ∃ Qn, Qn = A ++ [x] := ⟨_, rfl⟩
          have HOV : Hid (V.ownsRow (be + 1) TLine 4 y Qn.length (flatL Qn)) := by
            show World.ownsRow _ _ _ _ _ _ _
            rw [hQn, flatL_snoc, List.length_append, hx]
            exact hown
          have HBV : Hid (Below lo w V) := HB5.out.grown hgrow (by rw [HLO.out]; exact HB5.out.size) (fun j hj => by have := (HO5.out.lt j hj).1; have h1 := HZ.out; have h2 := HBE.out; omega)
          have P6 := Lib.hid (Rw.grown P5.out hgrow (fun e => by have := (HO5.out.lt lo e).1; have h1 := HZ.out; have h2 := HBE.out; omega))
          have Q6 := Lib.hid (Rw.grown Q5.out hgrow (fun e => by have := (HO5.out.lt b4 e).1; have h1 := HZ.out; have h2 := HBE.out; omega))
          have RE6 := Lib.hid (Rw.grown RE5.out hgrow (fun e => by have := (HO5.out.lt be e).1; have h1 := HZ.out; have h2 := HBE.out; omega))
          have RZ6 := Lib.hid (Rw.grown RZ5.out hgrow (fun e => by have := (HO5.out.lt bz e).1; have h1 := HZ.out; have h2 := HBE.out; omega))
          have HG6 : Hid (G B is4 (PH ++ linesB Qn) r4 (CL m1 m2 m3 m4 Qn r4)) := by
            show G _ _ _ _ _
            rw [hQn, hx, ← pre_ln]
            exact HG4.out
          have HLR6 : Hid (Lr Qn) := by
            show Lr _
            rw [hQn, hx]
            exact lr_snoc HLR.out HM1.out HM2.out HM3.out
          have HQL : Hid (Qn.length = A.length + 1) := by
            show _ = _
            rw [hQn, List.length_append]
            rfl
          clear hQn hx HG4 HLR hown hgrow
          refine wpAnyH_ready (rs := [13]) (by kernel_rfl) (by simp) ?_
          refine AllReadyH.cons (o := { dst := some 36, op := Op.call { callee := Callee.builtin Builtin.append, args := #[Operand.tmp 24, Operand.tmp 35], argTypes := #[23, 23] }, type := 23, pos := "journal.go:181", after := #[{ on := 1, ground := Ground.data }, { on := 12, ground := Ground.data }, { on := 10, ground := Ground.chain }], guard := none }) rfl (fun Kq hKq => ?_) AllReadyH.nil
          refine step_app4 rfl _ _ TLines rfl (.slice va A.length vc) (some ⟨bx, 0, none⟩) 1 1 y (by rfl) (by rfl) hrun ?_
          refine hKq.out _ _ trivial (fun _ => ?_)
          clear hKq Kq hrun HO5 P5 Q5 RE5 RZ5 HB5 RX
          try simp only [Act.put, List.setIfInBounds_toArray, List.set_cons_zero, List.set_cons_succ]
          obtain ⟨ya, yc, rfl⟩ := own_any HOV.out
          refine wpAnyH_take (i := 14) (oi := { dst := some 37, op := Op.fieldAddr 25 (Operand.tmp 7) 3, type := 0, pos := "journal.go:181", after := #[{ on := 0, ground := Ground.phase }, { on := 1, ground := Ground.phase }, { on := 2, ground := Ground.phase }, { on := 3, ground := Ground.phase }, { on := 4, ground := Ground.phase }, { on := 5, ground := Ground.phase }, { on := 6, ground := Ground.phase }, { on := 7, ground := Ground.phase }, { on := 8, ground := Ground.phase }, { on := 9, ground := Ground.phase }, { on := 10, ground := Ground.phase }, { on := 11, ground := Ground.phase }, { on := 12, ground := Ground.phase }, { on := 13, ground := Ground.phase }], guard := none }) (v := (.pointer (some ⟨be, 3, none⟩))) rfl (by kernel_rfl) (by kernel_rfl) (by kernel_rfl) (fun _ _ _ h => h) (Or.inl ⟨by rfl, ?_⟩) hHeld ?_
          · rintro u _
            go_simp <;> first | rfl | omega | kernel_rfl
          try simp only [Act.put, List.setIfInBounds_toArray, List.set_cons_zero, List.set_cons_succ]
          have o3 : V.cell? ⟨be, 3, none⟩ = some (.slice va A.length vc) := RE6.out.cell 3
          have f3 : V.frozen? ⟨be, 3, none⟩ = false := RE6.out.frozen 3
          refine wpAnyH_ready (rs := [15]) (by kernel_rfl) (by simp) ?_
          refine AllReadyH.cons (o := { dst := none, op := Op.store 23 (Operand.tmp 37) (Operand.tmp 36), type := 0, pos := "journal.go:181", after := #[{ on := 14, ground := Ground.data }, { on := 13, ground := Ground.data }, { on := 13, ground := Ground.chain }, { on := 0, ground := Ground.phase }, { on := 1, ground := Ground.phase }, { on := 2, ground := Ground.phase }, { on := 3, ground := Ground.phase }, { on := 4, ground := Ground.phase }, { on := 5, ground := Ground.phase }, { on := 6, ground := Ground.phase }, { on := 7, ground := Ground.phase }, { on := 8, ground := Ground.phase }, { on := 9, ground := Ground.phase }, { on := 10, ground := Ground.phase }, { on := 11, ground := Ground.phase }, { on := 12, ground := Ground.phase }, { on := 13, ground := Ground.phase }], guard := none }) rfl (fun Kq hKq => ?_) AllReadyH.nil
          go_simp
          refine hKq.out _ _ trivial (fun _ => ?_)
          clear hKq Kq o3 f3
          try simp only [Act.put, List.setIfInBounds_toArray, List.set_cons_zero, List.set_cons_succ]
          have kp : Keeps (fun j => j = be) V (V.setCell ⟨be, 3, none⟩ (.slice ya Qn.length yc)) := (Keeps.refl (fun j => j = be) V).setCell be 3 _ (.inl rfl)
          have HB7 : Hid (Below lo w (V.setCell ⟨be, 3, none⟩ (.slice ya Qn.length yc))) := Keeps.belowT HBV.out kp (fun j hj => by have e1 : j = be := hj; have h1 := HZ.out; have h2 := HBE.out; omega) (by rw [HLO.out]; exact HBV.out.size)
          have RE7 : Hid (Rw (V.setCell ⟨be, 3, none⟩ (.slice ya Qn.length yc)) be TEn [.int .i64 (m1 : Int), .int .u8 (m2 : Int), .int .u64 (m3 : Int), .slice ya Qn.length yc]) := RE6.out.setCell 3 _
          have P7 := Lib.hid (P6.out.keeps kp (by have h1 := HZ.out; have h2 := HBE.out; omega))
          have Q7 := Lib.hid (Q6.out.keeps kp (by have h1 := HZ.out; have h2 := HBE.out; omega))
          have RZ7 := Lib.hid (RZ6.out.keeps kp (by have h1 := HZ.out; have h2 := HBE.out; omega))
          have HO7 := Lib.hid (own_keeps HOV.out kp (fun j hj e => by have e1 : j = be := e; have := (HOV.out.lt j hj).1; omega))
          generalize V.setCell ⟨be, 3, none⟩ (.slice ya Qn.length yc) = V9 at HB7 RE7 P7 Q7 RZ7 HO7 ⊢
          clear kp HBV P6 Q6 RE6 RZ6 HOV
          refine wpAnyH_done (by kernel_rfl) ?_ _
          have hlt := HLT.out
          have j2 : m4 ≤ 64 := HM4n.out
          go_wp2_with fail
          have hkx := HKX.out
          have hql := HQL.out
          go_roundg (m4 - (A.length + 1))
          case measure => omega
          case rel => exact ⟨Qn, .slice ya Qn.length yc, is4, r4, by rw [hql]; simp, by omega, HO7, RE7, RZ7, P7, Q7, HB7, HG6, HLR6, L4, by omega⟩
        · have K : Hid (Calls Try.prog 66 #[.int .u64 18446744073709551615, .pointer (some ⟨lo, 0, none⟩), .pointer (some ⟨b4, 0, none⟩)] U1 (NumG 18446744073709551615 lo b4 B (PH ++ linesB A ++ Ta.num a) r1 (CL2 m1 m2 m3 m4 A a) U1)) := num_g (Cn := (CL2 m1 m2 m3 m4 A a)) 18446744073709551615 (HG1.out.l2 HLT.out) HZ.out.2.2 U1 P1.out Q1.out L1.out
          go_simp
          refine K.out.mono ?_
          rintro _ U2 ⟨b, is2, r2, rfl, hm, hl, hp, hq, kp, hg⟩
          have HM2 := Lib.hid hm
          have L2 : Hid (r2.length ≤ maxLen) := Nat.le_trans hl L1.out
          have P2 := Lib.hid hp
          have Q2 := Lib.hid hq
          have HG2 := Lib.hid hg
          have RE2 := Lib.hid (RE1.out.keeps kp (by have h1 := HZ.out; have h2 := HBE.out; omega))
          have RZ2 := Lib.hid (RZ1.out.keeps kp (by have := HZ.out; omega))
          have HO2 := Lib.hid (own_keeps HO1.out kp (fun j hj e => by have e1 : j = lo ∨ j = b4 := e; have := (HO1.out.lt j hj).1; have h1 := HZ.out; have h2 := HBE.out; omega))
          have HB2 : Hid (Below lo w U2) := Keeps.belowT HB1.out kp (fun j hj => by have e1 : j = lo ∨ j = b4 := hj; have := HZ.out; omega) (by rw [HLO.out]; exact HB1.out.size)
          clear hm hl hp hq kp hg K HG1 L1 P1 Q1 RE1 RZ1 HO1 HB1
          go_simp
          refine hKq.out _ _ trivial (fun _ => ?_)
          clear hKq Kq
          try simp only [Act.put, List.setIfInBounds_toArray, List.set_cons_zero, List.set_cons_succ]
          refine wpAnyH_ready (rs := [1, 8]) (by kernel_rfl) (by simp) ?_
          refine AllReadyH.cons (o := { dst := some 24, op := Op.load 23 (Operand.tmp 23), type := 23, pos := "journal.go:181", after := #[{ on := 0, ground := Ground.data }], guard := none }) rfl (fun Kq hKq => ?_) (AllReadyH.cons (o := { dst := some 31, op := Op.call { callee := Callee.value (Operand.tmp 30), args := #[Operand.const (Value.int IntKind.u64 18446744073709551615)], argTypes := #[22] }, type := 22, pos := "journal.go:181", after := #[{ on := 7, ground := Ground.data }, { on := 6, ground := Ground.chain }], guard := none }) rfl (fun Kq hKq => ?_) AllReadyH.nil)
          · have e3 : U2.cell? ⟨be, 3, none⟩ = some (.slice va A.length vc) := RE2.out.cell 3
            go_simp
            refine hKq.out _ _ trivial (fun _ => ?_)
            clear hKq Kq e3
            try simp only [Act.put, List.setIfInBounds_toArray, List.set_cons_zero, List.set_cons_succ]
            refine wpAnyH_ready (rs := [8]) (by kernel_rfl) (by simp) ?_
            refine AllReadyH.cons (o := { dst := some 31, op := Op.call { callee := Callee.value (Operand.tmp 30), args := #[Operand.const (Value.int IntKind.u64 18446744073709551615)], argTypes := #[22] }, type := 22, pos := "journal.go:181", after := #[{ on := 7, ground := Ground.data }, { on := 6, ground := Ground.chain }], guard := none }) rfl (fun Kq hKq => ?_) AllReadyH.nil
            have K : Hid (Calls Try.prog 66 #[.int .u64 18446744073709551615, .pointer (some ⟨lo, 0, none⟩), .pointer (some ⟨b4, 0, none⟩)] U2 (NumG 18446744073709551615 lo b4 B (PH ++ linesB A ++ Ta.num a ++ Ta.num b) r2 (CL3 m1 m2 m3 m4 A a b) U2)) := num_g (Cn := (CL3 m1 m2 m3 m4 A a b)) 18446744073709551615 (HG2.out.l3 HLT.out) HZ.out.2.2 U2 P2.out Q2.out L2.out
            go_simp
            refine K.out.mono ?_
            rintro _ U3 ⟨c, is3, r3, rfl, hm, hl, hp, hq, kp, hg⟩
            have HM3 := Lib.hid hm
            have L3 : Hid (r3.length ≤ maxLen) := Nat.le_trans hl L2.out
            have P3 := Lib.hid hp
            have Q3 := Lib.hid hq
            have HG3 := Lib.hid hg
            have RE3 := Lib.hid (RE2.out.keeps kp (by have h1 := HZ.out; have h2 := HBE.out; omega))
            have RZ3 := Lib.hid (RZ2.out.keeps kp (by have := HZ.out; omega))
            have HO3 := Lib.hid (own_keeps HO2.out kp (fun j hj e => by have e1 : j = lo ∨ j = b4 := e; have := (HO2.out.lt j hj).1; have h1 := HZ.out; have h2 := HBE.out; omega))
            have HB3 : Hid (Below lo w U3) := Keeps.belowT HB2.out kp (fun j hj => by have e1 : j = lo ∨ j = b4 := hj; have := HZ.out; omega) (by rw [HLO.out]; exact HB2.out.size)
            clear hm hl hp hq kp hg K HG2 L2 P2 Q2 RE2 RZ2 HO2 HB2
            go_simp
            refine hKq.out _ _ trivial (fun _ => ?_)
            clear hKq Kq
            try simp only [Act.put, List.setIfInBounds_toArray, List.set_cons_zero, List.set_cons_succ]
            refine wpAnyH_ready (rs := [10]) (by kernel_rfl) (by simp) ?_
            refine AllReadyH.cons (o := { dst := some 33, op := Op.call { callee := Callee.value (Operand.tmp 32), args := #[], argTypes := #[] }, type := 2, pos := "journal.go:181", after := #[{ on := 9, ground := Ground.data }, { on := 8, ground := Ground.chain }], guard := none }) rfl (fun Kq hKq => ?_) AllReadyH.nil
            have K : Hid (Calls Try.prog 68 #[.pointer (some ⟨lo, 0, none⟩), .pointer (some ⟨b4, 0, none⟩)] U3 (AmtG lo b4 B (PH ++ linesB A ++ Ta.num a ++ Ta.num b ++ Ta.num c) r3 (fun (z : Int) (r : List UInt8) => CL m1 m2 m3 m4 (A ++ [(⟨(a : Int), (b : Int), (c : Int), z⟩ : Ln)]) r) U3)) := amt_g (Cn := (fun (z : Int) (r : List UInt8) => CL m1 m2 m3 m4 (A ++ [(⟨(a : Int), (b : Int), (c : Int), z⟩ : Ln)]) r)) (HG3.out.l4 HLT.out) HZ.out.2.2 U3 P3.out Q3.out L3.out
            go_simp
            refine K.out.mono ?_
            rintro _ U4 ⟨z, is4, r4, rfl, hm, hl, hp, hq, kp, hg⟩
            have HM4 := Lib.hid hm
            have L4 : Hid (r4.length ≤ maxLen) := Nat.le_trans hl L3.out
            have P4 := Lib.hid hp
            have Q4 := Lib.hid hq
            have HG4 := Lib.hid hg
            have RE4 := Lib.hid (RE3.out.keeps kp (by have h1 := HZ.out; have h2 := HBE.out; omega))
            have RZ4 := Lib.hid (RZ3.out.keeps kp (by have := HZ.out; omega))
            have HO4 := Lib.hid (own_keeps HO3.out kp (fun j hj e => by have e1 : j = lo ∨ j = b4 := e; have := (HO3.out.lt j hj).1; have h1 := HZ.out; have h2 := HBE.out; omega))
            have HB4 : Hid (Below lo w U4) := Keeps.belowT HB3.out kp (fun j hj => by have e1 : j = lo ∨ j = b4 := hj; have := HZ.out; omega) (by rw [HLO.out]; exact HB3.out.size)
            clear hm hl hp hq kp hg K HG3 L3 P3 Q3 RE3 RZ3 HO3 HB3
            go_simp
            refine hKq.out _ _ trivial (fun _ => ?_)
            clear hKq Kq
            try simp only [Act.put, List.setIfInBounds_toArray, List.set_cons_zero, List.set_cons_succ]
            refine wpAnyH_take (i := 11) (oi := { dst := some 34, op := Op.build 67 #[(0, Operand.tmp 27), (1, Operand.tmp 29), (2, Operand.tmp 31), (3, Operand.tmp 33)], type := 67, pos := "journal.go:181", after := #[{ on := 4, ground := Ground.data }, { on := 6, ground := Ground.data }, { on := 8, ground := Ground.data }, { on := 10, ground := Ground.data }], guard := none }) (v := (.agg #[.int .i64 (a : Int), .int .u64 (b : Int), .int .u64 (c : Int), .int .i64 z])) rfl (by kernel_rfl) (by kernel_rfl) (by kernel_rfl) (fun _ _ _ h => h) (Or.inl ⟨by rfl, ?_⟩) hHeld ?_
            · rintro u _
              go_simp <;> first | rfl | omega | kernel_rfl
            try simp only [Act.put, List.setIfInBounds_toArray, List.set_cons_zero, List.set_cons_succ]
            refine wpAnyH_ready (rs := [12]) (by kernel_rfl) (by simp) ?_
            refine AllReadyH.cons (o := { dst := some 35, op := Op.buildSlice 23 1 #[(0, Operand.tmp 34)], type := 23, pos := "journal.go:181", after := #[{ on := 11, ground := Ground.data }], guard := none }) rfl (fun Kq hKq => ?_) AllReadyH.nil
            go_simp
            have hb5 : Below U4.heap.size U4 (U4.alloc (.cells #[.int .i64 (a : Int), .int .u64 (b : Int), .int .u64 (c : Int), .int .i64 z] TLine)) := (Below.refl _ _).alloc (Nat.le_refl _) _
            have RX : Hid (Rw (U4.alloc (.cells #[.int .i64 (a : Int), .int .u64 (b : Int), .int .u64 (c : Int), .int .i64 z] TLine)) U4.heap.size TLine [.int .i64 (a : Int), .int .u64 (b : Int), .int .u64 (c : Int), .int .i64 z]) := Rw.new U4 [.int .i64 (a : Int), .int .u64 (b : Int), .int .u64 (c : Int), .int .i64 z] TLine
            have HB5 : Hid (Below lo w (U4.alloc (.cells #[.int .i64 (a : Int), .int .u64 (b : Int), .int .u64 (c : Int), .int .i64 z] TLine))) := HB4.out.trans (hb5.mono (by rw [HLO.out]; exact HB4.out.size))
            have P5 := Lib.hid (P4.out.later hb5)
            have Q5 := Lib.hid (Q4.out.later hb5)
            have RE5 := Lib.hid (RE4.out.later hb5)
            have RZ5 := Lib.hid (RZ4.out.later hb5)
            have HO5 := Lib.hid (own_later HO4.out hb5)
            refine hKq.out _ _ trivial (fun _ => ?_)
            clear hKq Kq hb5
            try simp only [Act.put, List.setIfInBounds_toArray, List.set_cons_zero, List.set_cons_succ]
            obtain ⟨bx, hbx⟩ : ∃ bx, bx = U4.heap.size := ⟨_, rfl⟩
            rw [← hbx] at RX ⊢
            clear hbx
            generalize U4.alloc (.cells #[.int .i64 (a : Int), .int .u64 (b : Int), .int .u64 (c : Int), .int .i64 z] TLine) = U5 at HB5 RX P5 Q5 RE5 RZ5 HO5 ⊢
            clear P4 Q4 RE4 RZ4 HO4 HB4
            obtain ⟨y, V, hrun, hown, hgrow, _, _⟩ := run_append_own_at (P := Try.prog) (w := U5) (be + 1) TLines TLines TLine i4 z4 4 32 Try.underlying23 hk0 hk1 hk2 hk3 hk4 (by decide) _ A.length (flatL A) HO5.out ⟨bx, 0, none⟩ 1 1 [.int .i64 (a : Int), .int .u64 (b : Int), .int .u64 (c : Int), .int .i64 z] rfl (rw_news RX.out) (by simp [Value.oneCell']) (by have h1 := HLT.out; have h2 := HM4n.out; unfold maxLen; omega) (by have h1 := HLT.out; have h2 := HM4n.out; omega) (RE5.out.lt)
            obtain ⟨x, hx⟩ : ∃ x : Ln, x = ⟨(a : Int), (b : Int), (c : Int), z⟩ := ⟨_, rfl⟩
            obtain ⟨Qn, hQn⟩ : ∃ Qn, Qn = A ++ [x] := ⟨_, rfl⟩
            have HOV : Hid (V.ownsRow (be + 1) TLine 4 y Qn.length (flatL Qn)) := by
              show World.ownsRow _ _ _ _ _ _ _
              rw [hQn, flatL_snoc, List.length_append, hx]
              exact hown
            have HBV : Hid (Below lo w V) := HB5.out.grown hgrow (by rw [HLO.out]; exact HB5.out.size) (fun j hj => by have := (HO5.out.lt j hj).1; have h1 := HZ.out; have h2 := HBE.out; omega)
            have P6 := Lib.hid (Rw.grown P5.out hgrow (fun e => by have := (HO5.out.lt lo e).1; have h1 := HZ.out; have h2 := HBE.out; omega))
            have Q6 := Lib.hid (Rw.grown Q5.out hgrow (fun e => by have := (HO5.out.lt b4 e).1; have h1 := HZ.out; have h2 := HBE.out; omega))
            have RE6 := Lib.hid (Rw.grown RE5.out hgrow (fun e => by have := (HO5.out.lt be e).1; have h1 := HZ.out; have h2 := HBE.out; omega))
            have RZ6 := Lib.hid (Rw.grown RZ5.out hgrow (fun e => by have := (HO5.out.lt bz e).1; have h1 := HZ.out; have h2 := HBE.out; omega))
            have HG6 : Hid (G B is4 (PH ++ linesB Qn) r4 (CL m1 m2 m3 m4 Qn r4)) := by
              show G _ _ _ _ _
              rw [hQn, hx, ← pre_ln]
              exact HG4.out
            have HLR6 : Hid (Lr Qn) := by
              show Lr _
              rw [hQn, hx]
              exact lr_snoc HLR.out HM1.out HM2.out HM3.out
            have HQL : Hid (Qn.length = A.length + 1) := by
              show _ = _
              rw [hQn, List.length_append]
              rfl
            clear hQn hx HG4 HLR hown hgrow
            refine wpAnyH_ready (rs := [13]) (by kernel_rfl) (by simp) ?_
            refine AllReadyH.cons (o := { dst := some 36, op := Op.call { callee := Callee.builtin Builtin.append, args := #[Operand.tmp 24, Operand.tmp 35], argTypes := #[23, 23] }, type := 23, pos := "journal.go:181", after := #[{ on := 1, ground := Ground.data }, { on := 12, ground := Ground.data }, { on := 10, ground := Ground.chain }], guard := none }) rfl (fun Kq hKq => ?_) AllReadyH.nil
            refine step_app4 rfl _ _ TLines rfl (.slice va A.length vc) (some ⟨bx, 0, none⟩) 1 1 y (by rfl) (by rfl) hrun ?_
            refine hKq.out _ _ trivial (fun _ => ?_)
            clear hKq Kq hrun HO5 P5 Q5 RE5 RZ5 HB5 RX
            try simp only [Act.put, List.setIfInBounds_toArray, List.set_cons_zero, List.set_cons_succ]
            obtain ⟨ya, yc, rfl⟩ := own_any HOV.out
            refine wpAnyH_take (i := 14) (oi := { dst := some 37, op := Op.fieldAddr 25 (Operand.tmp 7) 3, type := 0, pos := "journal.go:181", after := #[{ on := 0, ground := Ground.phase }, { on := 1, ground := Ground.phase }, { on := 2, ground := Ground.phase }, { on := 3, ground := Ground.phase }, { on := 4, ground := Ground.phase }, { on := 5, ground := Ground.phase }, { on := 6, ground := Ground.phase }, { on := 7, ground := Ground.phase }, { on := 8, ground := Ground.phase }, { on := 9, ground := Ground.phase }, { on := 10, ground := Ground.phase }, { on := 11, ground := Ground.phase }, { on := 12, ground := Ground.phase }, { on := 13, ground := Ground.phase }], guard := none }) (v := (.pointer (some ⟨be, 3, none⟩))) rfl (by kernel_rfl) (by kernel_rfl) (by kernel_rfl) (fun _ _ _ h => h) (Or.inl ⟨by rfl, ?_⟩) hHeld ?_
            · rintro u _
              go_simp <;> first | rfl | omega | kernel_rfl
            try simp only [Act.put, List.setIfInBounds_toArray, List.set_cons_zero, List.set_cons_succ]
            have o3 : V.cell? ⟨be, 3, none⟩ = some (.slice va A.length vc) := RE6.out.cell 3
            have f3 : V.frozen? ⟨be, 3, none⟩ = false := RE6.out.frozen 3
            refine wpAnyH_ready (rs := [15]) (by kernel_rfl) (by simp) ?_
            refine AllReadyH.cons (o := { dst := none, op := Op.store 23 (Operand.tmp 37) (Operand.tmp 36), type := 0, pos := "journal.go:181", after := #[{ on := 14, ground := Ground.data }, { on := 13, ground := Ground.data }, { on := 13, ground := Ground.chain }, { on := 0, ground := Ground.phase }, { on := 1, ground := Ground.phase }, { on := 2, ground := Ground.phase }, { on := 3, ground := Ground.phase }, { on := 4, ground := Ground.phase }, { on := 5, ground := Ground.phase }, { on := 6, ground := Ground.phase }, { on := 7, ground := Ground.phase }, { on := 8, ground := Ground.phase }, { on := 9, ground := Ground.phase }, { on := 10, ground := Ground.phase }, { on := 11, ground := Ground.phase }, { on := 12, ground := Ground.phase }, { on := 13, ground := Ground.phase }], guard := none }) rfl (fun Kq hKq => ?_) AllReadyH.nil
            go_simp
            refine hKq.out _ _ trivial (fun _ => ?_)
            clear hKq Kq o3 f3
            try simp only [Act.put, List.setIfInBounds_toArray, List.set_cons_zero, List.set_cons_succ]
            have kp : Keeps (fun j => j = be) V (V.setCell ⟨be, 3, none⟩ (.slice ya Qn.length yc)) := (Keeps.refl (fun j => j = be) V).setCell be 3 _ (.inl rfl)
            have HB7 : Hid (Below lo w (V.setCell ⟨be, 3, none⟩ (.slice ya Qn.length yc))) := Keeps.belowT HBV.out kp (fun j hj => by have e1 : j = be := hj; have h1 := HZ.out; have h2 := HBE.out; omega) (by rw [HLO.out]; exact HBV.out.size)
            have RE7 : Hid (Rw (V.setCell ⟨be, 3, none⟩ (.slice ya Qn.length yc)) be TEn [.int .i64 (m1 : Int), .int .u8 (m2 : Int), .int .u64 (m3 : Int), .slice ya Qn.length yc]) := RE6.out.setCell 3 _
            have P7 := Lib.hid (P6.out.keeps kp (by have h1 := HZ.out; have h2 := HBE.out; omega))
            have Q7 := Lib.hid (Q6.out.keeps kp (by have h1 := HZ.out; have h2 := HBE.out; omega))
            have RZ7 := Lib.hid (RZ6.out.keeps kp (by have h1 := HZ.out; have h2 := HBE.out; omega))
            have HO7 := Lib.hid (own_keeps HOV.out kp (fun j hj e => by have e1 : j = be := e; have := (HOV.out.lt j hj).1; omega))
            generalize V.setCell ⟨be, 3, none⟩ (.slice ya Qn.length yc) = V9 at HB7 RE7 P7 Q7 RZ7 HO7 ⊢
            clear kp HBV P6 Q6 RE6 RZ6 HOV
            refine wpAnyH_done (by kernel_rfl) ?_ _
            have hlt := HLT.out
            have j2 : m4 ≤ 64 := HM4n.out
            go_wp2_with fail
            have hkx := HKX.out
            have hql := HQL.out
            go_roundg (m4 - (A.length + 1))
            case measure => omega
            case rel => exact ⟨Qn, .slice ya Qn.length yc, is4, r4, by rw [hql]; simp, by omega, HO7, RE7, RZ7, P7, Q7, HB7, HG6, HLR6, L4, by omega⟩
          · have K : Hid (Calls Try.prog 66 #[.int .u64 18446744073709551615, .pointer (some ⟨lo, 0, none⟩), .pointer (some ⟨b4, 0, none⟩)] U2 (NumG 18446744073709551615 lo b4 B (PH ++ linesB A ++ Ta.num a ++ Ta.num b) r2 (CL3 m1 m2 m3 m4 A a b) U2)) := num_g (Cn := (CL3 m1 m2 m3 m4 A a b)) 18446744073709551615 (HG2.out.l3 HLT.out) HZ.out.2.2 U2 P2.out Q2.out L2.out
            go_simp
            refine K.out.mono ?_
            rintro _ U3 ⟨c, is3, r3, rfl, hm, hl, hp, hq, kp, hg⟩
            have HM3 := Lib.hid hm
            have L3 : Hid (r3.length ≤ maxLen) := Nat.le_trans hl L2.out
            have P3 := Lib.hid hp
            have Q3 := Lib.hid hq
            have HG3 := Lib.hid hg
            have RE3 := Lib.hid (RE2.out.keeps kp (by have h1 := HZ.out; have h2 := HBE.out; omega))
            have RZ3 := Lib.hid (RZ2.out.keeps kp (by have := HZ.out; omega))
            have HO3 := Lib.hid (own_keeps HO2.out kp (fun j hj e => by have e1 : j = lo ∨ j = b4 := e; have := (HO2.out.lt j hj).1; have h1 := HZ.out; have h2 := HBE.out; omega))
            have HB3 : Hid (Below lo w U3) := Keeps.belowT HB2.out kp (fun j hj => by have e1 : j = lo ∨ j = b4 := hj; have := HZ.out; omega) (by rw [HLO.out]; exact HB2.out.size)
            clear hm hl hp hq kp hg K HG2 L2 P2 Q2 RE2 RZ2 HO2 HB2
            go_simp
            refine hKq.out _ _ trivial (fun _ => ?_)
            clear hKq Kq
            try simp only [Act.put, List.setIfInBounds_toArray, List.set_cons_zero, List.set_cons_succ]
            refine wpAnyH_ready (rs := [1, 10]) (by kernel_rfl) (by simp) ?_
            refine AllReadyH.cons (o := { dst := some 24, op := Op.load 23 (Operand.tmp 23), type := 23, pos := "journal.go:181", after := #[{ on := 0, ground := Ground.data }], guard := none }) rfl (fun Kq hKq => ?_) (AllReadyH.cons (o := { dst := some 33, op := Op.call { callee := Callee.value (Operand.tmp 32), args := #[], argTypes := #[] }, type := 2, pos := "journal.go:181", after := #[{ on := 9, ground := Ground.data }, { on := 8, ground := Ground.chain }], guard := none }) rfl (fun Kq hKq => ?_) AllReadyH.nil)
            · have e3 : U3.cell? ⟨be, 3, none⟩ = some (.slice va A.length vc) := RE3.out.cell 3
              go_simp
              refine hKq.out _ _ trivial (fun _ => ?_)
              clear hKq Kq e3
              try simp only [Act.put, List.setIfInBounds_toArray, List.set_cons_zero, List.set_cons_succ]
              refine wpAnyH_ready (rs := [10]) (by kernel_rfl) (by simp) ?_
              refine AllReadyH.cons (o := { dst := some 33, op := Op.call { callee := Callee.value (Operand.tmp 32), args := #[], argTypes := #[] }, type := 2, pos := "journal.go:181", after := #[{ on := 9, ground := Ground.data }, { on := 8, ground := Ground.chain }], guard := none }) rfl (fun Kq hKq => ?_) AllReadyH.nil
              have K : Hid (Calls Try.prog 68 #[.pointer (some ⟨lo, 0, none⟩), .pointer (some ⟨b4, 0, none⟩)] U3 (AmtG lo b4 B (PH ++ linesB A ++ Ta.num a ++ Ta.num b ++ Ta.num c) r3 (fun (z : Int) (r : List UInt8) => CL m1 m2 m3 m4 (A ++ [(⟨(a : Int), (b : Int), (c : Int), z⟩ : Ln)]) r) U3)) := amt_g (Cn := (fun (z : Int) (r : List UInt8) => CL m1 m2 m3 m4 (A ++ [(⟨(a : Int), (b : Int), (c : Int), z⟩ : Ln)]) r)) (HG3.out.l4 HLT.out) HZ.out.2.2 U3 P3.out Q3.out L3.out
              go_simp
              refine K.out.mono ?_
              rintro _ U4 ⟨z, is4, r4, rfl, hm, hl, hp, hq, kp, hg⟩
              have HM4 := Lib.hid hm
              have L4 : Hid (r4.length ≤ maxLen) := Nat.le_trans hl L3.out
              have P4 := Lib.hid hp
              have Q4 := Lib.hid hq
              have HG4 := Lib.hid hg
              have RE4 := Lib.hid (RE3.out.keeps kp (by have h1 := HZ.out; have h2 := HBE.out; omega))
              have RZ4 := Lib.hid (RZ3.out.keeps kp (by have := HZ.out; omega))
              have HO4 := Lib.hid (own_keeps HO3.out kp (fun j hj e => by have e1 : j = lo ∨ j = b4 := e; have := (HO3.out.lt j hj).1; have h1 := HZ.out; have h2 := HBE.out; omega))
              have HB4 : Hid (Below lo w U4) := Keeps.belowT HB3.out kp (fun j hj => by have e1 : j = lo ∨ j = b4 := hj; have := HZ.out; omega) (by rw [HLO.out]; exact HB3.out.size)
              clear hm hl hp hq kp hg K HG3 L3 P3 Q3 RE3 RZ3 HO3 HB3
              go_simp
              refine hKq.out _ _ trivial (fun _ => ?_)
              clear hKq Kq
              try simp only [Act.put, List.setIfInBounds_toArray, List.set_cons_zero, List.set_cons_succ]
              refine wpAnyH_take (i := 11) (oi := { dst := some 34, op := Op.build 67 #[(0, Operand.tmp 27), (1, Operand.tmp 29), (2, Operand.tmp 31), (3, Operand.tmp 33)], type := 67, pos := "journal.go:181", after := #[{ on := 4, ground := Ground.data }, { on := 6, ground := Ground.data }, { on := 8, ground := Ground.data }, { on := 10, ground := Ground.data }], guard := none }) (v := (.agg #[.int .i64 (a : Int), .int .u64 (b : Int), .int .u64 (c : Int), .int .i64 z])) rfl (by kernel_rfl) (by kernel_rfl) (by kernel_rfl) (fun _ _ _ h => h) (Or.inl ⟨by rfl, ?_⟩) hHeld ?_
              · rintro u _
                go_simp <;> first | rfl | omega | kernel_rfl
              try simp only [Act.put, List.setIfInBounds_toArray, List.set_cons_zero, List.set_cons_succ]
              refine wpAnyH_ready (rs := [12]) (by kernel_rfl) (by simp) ?_
              refine AllReadyH.cons (o := { dst := some 35, op := Op.buildSlice 23 1 #[(0, Operand.tmp 34)], type := 23, pos := "journal.go:181", after := #[{ on := 11, ground := Ground.data }], guard := none }) rfl (fun Kq hKq => ?_) AllReadyH.nil
              go_simp
              have hb5 : Below U4.heap.size U4 (U4.alloc (.cells #[.int .i64 (a : Int), .int .u64 (b : Int), .int .u64 (c : Int), .int .i64 z] TLine)) := (Below.refl _ _).alloc (Nat.le_refl _) _
              have RX : Hid (Rw (U4.alloc (.cells #[.int .i64 (a : Int), .int .u64 (b : Int), .int .u64 (c : Int), .int .i64 z] TLine)) U4.heap.size TLine [.int .i64 (a : Int), .int .u64 (b : Int), .int .u64 (c : Int), .int .i64 z]) := Rw.new U4 [.int .i64 (a : Int), .int .u64 (b : Int), .int .u64 (c : Int), .int .i64 z] TLine
              have HB5 : Hid (Below lo w (U4.alloc (.cells #[.int .i64 (a : Int), .int .u64 (b : Int), .int .u64 (c : Int), .int .i64 z] TLine))) := HB4.out.trans (hb5.mono (by rw [HLO.out]; exact HB4.out.size))
              have P5 := Lib.hid (P4.out.later hb5)
              have Q5 := Lib.hid (Q4.out.later hb5)
              have RE5 := Lib.hid (RE4.out.later hb5)
              have RZ5 := Lib.hid (RZ4.out.later hb5)
              have HO5 := Lib.hid (own_later HO4.out hb5)
              refine hKq.out _ _ trivial (fun _ => ?_)
              clear hKq Kq hb5
              try simp only [Act.put, List.setIfInBounds_toArray, List.set_cons_zero, List.set_cons_succ]
              obtain ⟨bx, hbx⟩ : ∃ bx, bx = U4.heap.size := ⟨_, rfl⟩
              rw [← hbx] at RX ⊢
              clear hbx
              generalize U4.alloc (.cells #[.int .i64 (a : Int), .int .u64 (b : Int), .int .u64 (c : Int), .int .i64 z] TLine) = U5 at HB5 RX P5 Q5 RE5 RZ5 HO5 ⊢
              clear P4 Q4 RE4 RZ4 HO4 HB4
              obtain ⟨y, V, hrun, hown, hgrow, _, _⟩ := run_append_own_at (P := Try.prog) (w := U5) (be + 1) TLines TLines TLine i4 z4 4 32 Try.underlying23 hk0 hk1 hk2 hk3 hk4 (by decide) _ A.length (flatL A) HO5.out ⟨bx, 0, none⟩ 1 1 [.int .i64 (a : Int), .int .u64 (b : Int), .int .u64 (c : Int), .int .i64 z] rfl (rw_news RX.out) (by simp [Value.oneCell']) (by have h1 := HLT.out; have h2 := HM4n.out; unfold maxLen; omega) (by have h1 := HLT.out; have h2 := HM4n.out; omega) (RE5.out.lt)
              obtain ⟨x, hx⟩ : ∃ x : Ln, x = ⟨(a : Int), (b : Int), (c : Int), z⟩ := ⟨_, rfl⟩
              obtain ⟨Qn, hQn⟩ : ∃ Qn, Qn = A ++ [x] := ⟨_, rfl⟩
              have HOV : Hid (V.ownsRow (be + 1) TLine 4 y Qn.length (flatL Qn)) := by
                show World.ownsRow _ _ _ _ _ _ _
                rw [hQn, flatL_snoc, List.length_append, hx]
                exact hown
              have HBV : Hid (Below lo w V) := HB5.out.grown hgrow (by rw [HLO.out]; exact HB5.out.size) (fun j hj => by have := (HO5.out.lt j hj).1; have h1 := HZ.out; have h2 := HBE.out; omega)
              have P6 := Lib.hid (Rw.grown P5.out hgrow (fun e => by have := (HO5.out.lt lo e).1; have h1 := HZ.out; have h2 := HBE.out; omega))
              have Q6 := Lib.hid (Rw.grown Q5.out hgrow (fun e => by have := (HO5.out.lt b4 e).1; have h1 := HZ.out; have h2 := HBE.out; omega))
              have RE6 := Lib.hid (Rw.grown RE5.out hgrow (fun e => by have := (HO5.out.lt be e).1; have h1 := HZ.out; have h2 := HBE.out; omega))
              have RZ6 := Lib.hid (Rw.grown RZ5.out hgrow (fun e => by have := (HO5.out.lt bz e).1; have h1 := HZ.out; have h2 := HBE.out; omega))
              have HG6 : Hid (G B is4 (PH ++ linesB Qn) r4 (CL m1 m2 m3 m4 Qn r4)) := by
                show G _ _ _ _ _
                rw [hQn, hx, ← pre_ln]
                exact HG4.out
              have HLR6 : Hid (Lr Qn) := by
                show Lr _
                rw [hQn, hx]
                exact lr_snoc HLR.out HM1.out HM2.out HM3.out
              have HQL : Hid (Qn.length = A.length + 1) := by
                show _ = _
                rw [hQn, List.length_append]
                rfl
              clear hQn hx HG4 HLR hown hgrow
              refine wpAnyH_ready (rs := [13]) (by kernel_rfl) (by simp) ?_
              refine AllReadyH.cons (o := { dst := some 36, op := Op.call { callee := Callee.builtin Builtin.append, args := #[Operand.tmp 24, Operand.tmp 35], argTypes := #[23, 23] }, type := 23, pos := "journal.go:181", after := #[{ on := 1, ground := Ground.data }, { on := 12, ground := Ground.data }, { on := 10, ground := Ground.chain }], guard := none }) rfl (fun Kq hKq => ?_) AllReadyH.nil
              refine step_app4 rfl _ _ TLines rfl (.slice va A.length vc) (some ⟨bx, 0, none⟩) 1 1 y (by rfl) (by rfl) hrun ?_
              refine hKq.out _ _ trivial (fun _ => ?_)
              clear hKq Kq hrun HO5 P5 Q5 RE5 RZ5 HB5 RX
              try simp only [Act.put, List.setIfInBounds_toArray, List.set_cons_zero, List.set_cons_succ]
              obtain ⟨ya, yc, rfl⟩ := own_any HOV.out
              refine wpAnyH_take (i := 14) (oi := { dst := some 37, op := Op.fieldAddr 25 (Operand.tmp 7) 3, type := 0, pos := "journal.go:181", after := #[{ on := 0, ground := Ground.phase }, { on := 1, ground := Ground.phase }, { on := 2, ground := Ground.phase }, { on := 3, ground := Ground.phase }, { on := 4, ground := Ground.phase }, { on := 5, ground := Ground.phase }, { on := 6, ground := Ground.phase }, { on := 7, ground := Ground.phase }, { on := 8, ground := Ground.phase }, { on := 9, ground := Ground.phase }, { on := 10, ground := Ground.phase }, { on := 11, ground := Ground.phase }, { on := 12, ground := Ground.phase }, { on := 13, ground := Ground.phase }], guard := none }) (v := (.pointer (some ⟨be, 3, none⟩))) rfl (by kernel_rfl) (by kernel_rfl) (by kernel_rfl) (fun _ _ _ h => h) (Or.inl ⟨by rfl, ?_⟩) hHeld ?_
              · rintro u _
                go_simp <;> first | rfl | omega | kernel_rfl
              try simp only [Act.put, List.setIfInBounds_toArray, List.set_cons_zero, List.set_cons_succ]
              have o3 : V.cell? ⟨be, 3, none⟩ = some (.slice va A.length vc) := RE6.out.cell 3
              have f3 : V.frozen? ⟨be, 3, none⟩ = false := RE6.out.frozen 3
              refine wpAnyH_ready (rs := [15]) (by kernel_rfl) (by simp) ?_
              refine AllReadyH.cons (o := { dst := none, op := Op.store 23 (Operand.tmp 37) (Operand.tmp 36), type := 0, pos := "journal.go:181", after := #[{ on := 14, ground := Ground.data }, { on := 13, ground := Ground.data }, { on := 13, ground := Ground.chain }, { on := 0, ground := Ground.phase }, { on := 1, ground := Ground.phase }, { on := 2, ground := Ground.phase }, { on := 3, ground := Ground.phase }, { on := 4, ground := Ground.phase }, { on := 5, ground := Ground.phase }, { on := 6, ground := Ground.phase }, { on := 7, ground := Ground.phase }, { on := 8, ground := Ground.phase }, { on := 9, ground := Ground.phase }, { on := 10, ground := Ground.phase }, { on := 11, ground := Ground.phase }, { on := 12, ground := Ground.phase }, { on := 13, ground := Ground.phase }], guard := none }) rfl (fun Kq hKq => ?_) AllReadyH.nil
              go_simp
              refine hKq.out _ _ trivial (fun _ => ?_)
              clear hKq Kq o3 f3
              try simp only [Act.put, List.setIfInBounds_toArray, List.set_cons_zero, List.set_cons_succ]
              have kp : Keeps (fun j => j = be) V (V.setCell ⟨be, 3, none⟩ (.slice ya Qn.length yc)) := (Keeps.refl (fun j => j = be) V).setCell be 3 _ (.inl rfl)
              have HB7 : Hid (Below lo w (V.setCell ⟨be, 3, none⟩ (.slice ya Qn.length yc))) := Keeps.belowT HBV.out kp (fun j hj => by have e1 : j = be := hj; have h1 := HZ.out; have h2 := HBE.out; omega) (by rw [HLO.out]; exact HBV.out.size)
              have RE7 : Hid (Rw (V.setCell ⟨be, 3, none⟩ (.slice ya Qn.length yc)) be TEn [.int .i64 (m1 : Int), .int .u8 (m2 : Int), .int .u64 (m3 : Int), .slice ya Qn.length yc]) := RE6.out.setCell 3 _
              have P7 := Lib.hid (P6.out.keeps kp (by have h1 := HZ.out; have h2 := HBE.out; omega))
              have Q7 := Lib.hid (Q6.out.keeps kp (by have h1 := HZ.out; have h2 := HBE.out; omega))
              have RZ7 := Lib.hid (RZ6.out.keeps kp (by have h1 := HZ.out; have h2 := HBE.out; omega))
              have HO7 := Lib.hid (own_keeps HOV.out kp (fun j hj e => by have e1 : j = be := e; have := (HOV.out.lt j hj).1; omega))
              generalize V.setCell ⟨be, 3, none⟩ (.slice ya Qn.length yc) = V9 at HB7 RE7 P7 Q7 RZ7 HO7 ⊢
              clear kp HBV P6 Q6 RE6 RZ6 HOV
              refine wpAnyH_done (by kernel_rfl) ?_ _
              have hlt := HLT.out
              have j2 : m4 ≤ 64 := HM4n.out
              go_wp2_with fail
              have hkx := HKX.out
              have hql := HQL.out
              go_roundg (m4 - (A.length + 1))
              case measure => omega
              case rel => exact ⟨Qn, .slice ya Qn.length yc, is4, r4, by rw [hql]; simp, by omega, HO7, RE7, RZ7, P7, Q7, HB7, HG6, HLR6, L4, by omega⟩
            · have K : Hid (Calls Try.prog 68 #[.pointer (some ⟨lo, 0, none⟩), .pointer (some ⟨b4, 0, none⟩)] U3 (AmtG lo b4 B (PH ++ linesB A ++ Ta.num a ++ Ta.num b ++ Ta.num c) r3 (fun (z : Int) (r : List UInt8) => CL m1 m2 m3 m4 (A ++ [(⟨(a : Int), (b : Int), (c : Int), z⟩ : Ln)]) r) U3)) := amt_g (Cn := (fun (z : Int) (r : List UInt8) => CL m1 m2 m3 m4 (A ++ [(⟨(a : Int), (b : Int), (c : Int), z⟩ : Ln)]) r)) (HG3.out.l4 HLT.out) HZ.out.2.2 U3 P3.out Q3.out L3.out
              go_simp
              refine K.out.mono ?_
              rintro _ U4 ⟨z, is4, r4, rfl, hm, hl, hp, hq, kp, hg⟩
              have HM4 := Lib.hid hm
              have L4 : Hid (r4.length ≤ maxLen) := Nat.le_trans hl L3.out
              have P4 := Lib.hid hp
              have Q4 := Lib.hid hq
              have HG4 := Lib.hid hg
              have RE4 := Lib.hid (RE3.out.keeps kp (by have h1 := HZ.out; have h2 := HBE.out; omega))
              have RZ4 := Lib.hid (RZ3.out.keeps kp (by have := HZ.out; omega))
              have HO4 := Lib.hid (own_keeps HO3.out kp (fun j hj e => by have e1 : j = lo ∨ j = b4 := e; have := (HO3.out.lt j hj).1; have h1 := HZ.out; have h2 := HBE.out; omega))
              have HB4 : Hid (Below lo w U4) := Keeps.belowT HB3.out kp (fun j hj => by have e1 : j = lo ∨ j = b4 := hj; have := HZ.out; omega) (by rw [HLO.out]; exact HB3.out.size)
              clear hm hl hp hq kp hg K HG3 L3 P3 Q3 RE3 RZ3 HO3 HB3
              go_simp
              refine hKq.out _ _ trivial (fun _ => ?_)
              clear hKq Kq
              try simp only [Act.put, List.setIfInBounds_toArray, List.set_cons_zero, List.set_cons_succ]
              refine wpAnyH_take (i := 11) (oi := { dst := some 34, op := Op.build 67 #[(0, Operand.tmp 27), (1, Operand.tmp 29), (2, Operand.tmp 31), (3, Operand.tmp 33)], type := 67, pos := "journal.go:181", after := #[{ on := 4, ground := Ground.data }, { on := 6, ground := Ground.data }, { on := 8, ground := Ground.data }, { on := 10, ground := Ground.data }], guard := none }) (v := (.agg #[.int .i64 (a : Int), .int .u64 (b : Int), .int .u64 (c : Int), .int .i64 z])) rfl (by kernel_rfl) (by kernel_rfl) (by kernel_rfl) (fun _ _ _ h => h) (Or.inl ⟨by rfl, ?_⟩) hHeld ?_
              · rintro u _
                go_simp <;> first | rfl | omega | kernel_rfl
              try simp only [Act.put, List.setIfInBounds_toArray, List.set_cons_zero, List.set_cons_succ]
              refine wpAnyH_ready (rs := [1, 12]) (by kernel_rfl) (by simp) ?_
              refine AllReadyH.cons (o := { dst := some 24, op := Op.load 23 (Operand.tmp 23), type := 23, pos := "journal.go:181", after := #[{ on := 0, ground := Ground.data }], guard := none }) rfl (fun Kq hKq => ?_) (AllReadyH.cons (o := { dst := some 35, op := Op.buildSlice 23 1 #[(0, Operand.tmp 34)], type := 23, pos := "journal.go:181", after := #[{ on := 11, ground := Ground.data }], guard := none }) rfl (fun Kq hKq => ?_) AllReadyH.nil)
              · have e3 : U4.cell? ⟨be, 3, none⟩ = some (.slice va A.length vc) := RE4.out.cell 3
                go_simp
                refine hKq.out _ _ trivial (fun _ => ?_)
                clear hKq Kq e3
                try simp only [Act.put, List.setIfInBounds_toArray, List.set_cons_zero, List.set_cons_succ]
                refine wpAnyH_ready (rs := [12]) (by kernel_rfl) (by simp) ?_
                refine AllReadyH.cons (o := { dst := some 35, op := Op.buildSlice 23 1 #[(0, Operand.tmp 34)], type := 23, pos := "journal.go:181", after := #[{ on := 11, ground := Ground.data }], guard := none }) rfl (fun Kq hKq => ?_) AllReadyH.nil
                go_simp
                have hb5 : Below U4.heap.size U4 (U4.alloc (.cells #[.int .i64 (a : Int), .int .u64 (b : Int), .int .u64 (c : Int), .int .i64 z] TLine)) := (Below.refl _ _).alloc (Nat.le_refl _) _
                have RX : Hid (Rw (U4.alloc (.cells #[.int .i64 (a : Int), .int .u64 (b : Int), .int .u64 (c : Int), .int .i64 z] TLine)) U4.heap.size TLine [.int .i64 (a : Int), .int .u64 (b : Int), .int .u64 (c : Int), .int .i64 z]) := Rw.new U4 [.int .i64 (a : Int), .int .u64 (b : Int), .int .u64 (c : Int), .int .i64 z] TLine
                have HB5 : Hid (Below lo w (U4.alloc (.cells #[.int .i64 (a : Int), .int .u64 (b : Int), .int .u64 (c : Int), .int .i64 z] TLine))) := HB4.out.trans (hb5.mono (by rw [HLO.out]; exact HB4.out.size))
                have P5 := Lib.hid (P4.out.later hb5)
                have Q5 := Lib.hid (Q4.out.later hb5)
                have RE5 := Lib.hid (RE4.out.later hb5)
                have RZ5 := Lib.hid (RZ4.out.later hb5)
                have HO5 := Lib.hid (own_later HO4.out hb5)
                refine hKq.out _ _ trivial (fun _ => ?_)
                clear hKq Kq hb5
                try simp only [Act.put, List.setIfInBounds_toArray, List.set_cons_zero, List.set_cons_succ]
                obtain ⟨bx, hbx⟩ : ∃ bx, bx = U4.heap.size := ⟨_, rfl⟩
                rw [← hbx] at RX ⊢
                clear hbx
                generalize U4.alloc (.cells #[.int .i64 (a : Int), .int .u64 (b : Int), .int .u64 (c : Int), .int .i64 z] TLine) = U5 at HB5 RX P5 Q5 RE5 RZ5 HO5 ⊢
                clear P4 Q4 RE4 RZ4 HO4 HB4
                obtain ⟨y, V, hrun, hown, hgrow, _, _⟩ := run_append_own_at (P := Try.prog) (w := U5) (be + 1) TLines TLines TLine i4 z4 4 32 Try.underlying23 hk0 hk1 hk2 hk3 hk4 (by decide) _ A.length (flatL A) HO5.out ⟨bx, 0, none⟩ 1 1 [.int .i64 (a : Int), .int .u64 (b : Int), .int .u64 (c : Int), .int .i64 z] rfl (rw_news RX.out) (by simp [Value.oneCell']) (by have h1 := HLT.out; have h2 := HM4n.out; unfold maxLen; omega) (by have h1 := HLT.out; have h2 := HM4n.out; omega) (RE5.out.lt)
                obtain ⟨x, hx⟩ : ∃ x : Ln, x = ⟨(a : Int), (b : Int), (c : Int), z⟩ := ⟨_, rfl⟩
                obtain ⟨Qn, hQn⟩ : ∃ Qn, Qn = A ++ [x] := ⟨_, rfl⟩
                have HOV : Hid (V.ownsRow (be + 1) TLine 4 y Qn.length (flatL Qn)) := by
                  show World.ownsRow _ _ _ _ _ _ _
                  rw [hQn, flatL_snoc, List.length_append, hx]
                  exact hown
                have HBV : Hid (Below lo w V) := HB5.out.grown hgrow (by rw [HLO.out]; exact HB5.out.size) (fun j hj => by have := (HO5.out.lt j hj).1; have h1 := HZ.out; have h2 := HBE.out; omega)
                have P6 := Lib.hid (Rw.grown P5.out hgrow (fun e => by have := (HO5.out.lt lo e).1; have h1 := HZ.out; have h2 := HBE.out; omega))
                have Q6 := Lib.hid (Rw.grown Q5.out hgrow (fun e => by have := (HO5.out.lt b4 e).1; have h1 := HZ.out; have h2 := HBE.out; omega))
                have RE6 := Lib.hid (Rw.grown RE5.out hgrow (fun e => by have := (HO5.out.lt be e).1; have h1 := HZ.out; have h2 := HBE.out; omega))
                have RZ6 := Lib.hid (Rw.grown RZ5.out hgrow (fun e => by have := (HO5.out.lt bz e).1; have h1 := HZ.out; have h2 := HBE.out; omega))
                have HG6 : Hid (G B is4 (PH ++ linesB Qn) r4 (CL m1 m2 m3 m4 Qn r4)) := by
                  show G _ _ _ _ _
                  rw [hQn, hx, ← pre_ln]
                  exact HG4.out
                have HLR6 : Hid (Lr Qn) := by
                  show Lr _
                  rw [hQn, hx]
                  exact lr_snoc HLR.out HM1.out HM2.out HM3.out
                have HQL : Hid (Qn.length = A.length + 1) := by
                  show _ = _
                  rw [hQn, List.length_append]
                  rfl
                clear hQn hx HG4 HLR hown hgrow
                refine wpAnyH_ready (rs := [13]) (by kernel_rfl) (by simp) ?_
                refine AllReadyH.cons (o := { dst := some 36, op := Op.call { callee := Callee.builtin Builtin.append, args := #[Operand.tmp 24, Operand.tmp 35], argTypes := #[23, 23] }, type := 23, pos := "journal.go:181", after := #[{ on := 1, ground := Ground.data }, { on := 12, ground := Ground.data }, { on := 10, ground := Ground.chain }], guard := none }) rfl (fun Kq hKq => ?_) AllReadyH.nil
                refine step_app4 rfl _ _ TLines rfl (.slice va A.length vc) (some ⟨bx, 0, none⟩) 1 1 y (by rfl) (by rfl) hrun ?_
                refine hKq.out _ _ trivial (fun _ => ?_)
                clear hKq Kq hrun HO5 P5 Q5 RE5 RZ5 HB5 RX
                try simp only [Act.put, List.setIfInBounds_toArray, List.set_cons_zero, List.set_cons_succ]
                obtain ⟨ya, yc, rfl⟩ := own_any HOV.out
                refine wpAnyH_take (i := 14) (oi := { dst := some 37, op := Op.fieldAddr 25 (Operand.tmp 7) 3, type := 0, pos := "journal.go:181", after := #[{ on := 0, ground := Ground.phase }, { on := 1, ground := Ground.phase }, { on := 2, ground := Ground.phase }, { on := 3, ground := Ground.phase }, { on := 4, ground := Ground.phase }, { on := 5, ground := Ground.phase }, { on := 6, ground := Ground.phase }, { on := 7, ground := Ground.phase }, { on := 8, ground := Ground.phase }, { on := 9, ground := Ground.phase }, { on := 10, ground := Ground.phase }, { on := 11, ground := Ground.phase }, { on := 12, ground := Ground.phase }, { on := 13, ground := Ground.phase }], guard := none }) (v := (.pointer (some ⟨be, 3, none⟩))) rfl (by kernel_rfl) (by kernel_rfl) (by kernel_rfl) (fun _ _ _ h => h) (Or.inl ⟨by rfl, ?_⟩) hHeld ?_
                · rintro u _
                  go_simp <;> first | rfl | omega | kernel_rfl
                try simp only [Act.put, List.setIfInBounds_toArray, List.set_cons_zero, List.set_cons_succ]
                have o3 : V.cell? ⟨be, 3, none⟩ = some (.slice va A.length vc) := RE6.out.cell 3
                have f3 : V.frozen? ⟨be, 3, none⟩ = false := RE6.out.frozen 3
                refine wpAnyH_ready (rs := [15]) (by kernel_rfl) (by simp) ?_
                refine AllReadyH.cons (o := { dst := none, op := Op.store 23 (Operand.tmp 37) (Operand.tmp 36), type := 0, pos := "journal.go:181", after := #[{ on := 14, ground := Ground.data }, { on := 13, ground := Ground.data }, { on := 13, ground := Ground.chain }, { on := 0, ground := Ground.phase }, { on := 1, ground := Ground.phase }, { on := 2, ground := Ground.phase }, { on := 3, ground := Ground.phase }, { on := 4, ground := Ground.phase }, { on := 5, ground := Ground.phase }, { on := 6, ground := Ground.phase }, { on := 7, ground := Ground.phase }, { on := 8, ground := Ground.phase }, { on := 9, ground := Ground.phase }, { on := 10, ground := Ground.phase }, { on := 11, ground := Ground.phase }, { on := 12, ground := Ground.phase }, { on := 13, ground := Ground.phase }], guard := none }) rfl (fun Kq hKq => ?_) AllReadyH.nil
                go_simp
                refine hKq.out _ _ trivial (fun _ => ?_)
                clear hKq Kq o3 f3
                try simp only [Act.put, List.setIfInBounds_toArray, List.set_cons_zero, List.set_cons_succ]
                have kp : Keeps (fun j => j = be) V (V.setCell ⟨be, 3, none⟩ (.slice ya Qn.length yc)) := (Keeps.refl (fun j => j = be) V).setCell be 3 _ (.inl rfl)
                have HB7 : Hid (Below lo w (V.setCell ⟨be, 3, none⟩ (.slice ya Qn.length yc))) := Keeps.belowT HBV.out kp (fun j hj => by have e1 : j = be := hj; have h1 := HZ.out; have h2 := HBE.out; omega) (by rw [HLO.out]; exact HBV.out.size)
                have RE7 : Hid (Rw (V.setCell ⟨be, 3, none⟩ (.slice ya Qn.length yc)) be TEn [.int .i64 (m1 : Int), .int .u8 (m2 : Int), .int .u64 (m3 : Int), .slice ya Qn.length yc]) := RE6.out.setCell 3 _
                have P7 := Lib.hid (P6.out.keeps kp (by have h1 := HZ.out; have h2 := HBE.out; omega))
                have Q7 := Lib.hid (Q6.out.keeps kp (by have h1 := HZ.out; have h2 := HBE.out; omega))
                have RZ7 := Lib.hid (RZ6.out.keeps kp (by have h1 := HZ.out; have h2 := HBE.out; omega))
                have HO7 := Lib.hid (own_keeps HOV.out kp (fun j hj e => by have e1 : j = be := e; have := (HOV.out.lt j hj).1; omega))
                generalize V.setCell ⟨be, 3, none⟩ (.slice ya Qn.length yc) = V9 at HB7 RE7 P7 Q7 RZ7 HO7 ⊢
                clear kp HBV P6 Q6 RE6 RZ6 HOV
                refine wpAnyH_done (by kernel_rfl) ?_ _
                have hlt := HLT.out
                have j2 : m4 ≤ 64 := HM4n.out
                go_wp2_with fail
                have hkx := HKX.out
                have hql := HQL.out
                go_roundg (m4 - (A.length + 1))
                case measure => omega
                case rel => exact ⟨Qn, .slice ya Qn.length yc, is4, r4, by rw [hql]; simp, by omega, HO7, RE7, RZ7, P7, Q7, HB7, HG6, HLR6, L4, by omega⟩
              · go_simp
                have hb5 : Below U4.heap.size U4 (U4.alloc (.cells #[.int .i64 (a : Int), .int .u64 (b : Int), .int .u64 (c : Int), .int .i64 z] TLine)) := (Below.refl _ _).alloc (Nat.le_refl _) _
                have RX : Hid (Rw (U4.alloc (.cells #[.int .i64 (a : Int), .int .u64 (b : Int), .int .u64 (c : Int), .int .i64 z] TLine)) U4.heap.size TLine [.int .i64 (a : Int), .int .u64 (b : Int), .int .u64 (c : Int), .int .i64 z]) := Rw.new U4 [.int .i64 (a : Int), .int .u64 (b : Int), .int .u64 (c : Int), .int .i64 z] TLine
                have HB5 : Hid (Below lo w (U4.alloc (.cells #[.int .i64 (a : Int), .int .u64 (b : Int), .int .u64 (c : Int), .int .i64 z] TLine))) := HB4.out.trans (hb5.mono (by rw [HLO.out]; exact HB4.out.size))
                have P5 := Lib.hid (P4.out.later hb5)
                have Q5 := Lib.hid (Q4.out.later hb5)
                have RE5 := Lib.hid (RE4.out.later hb5)
                have RZ5 := Lib.hid (RZ4.out.later hb5)
                have HO5 := Lib.hid (own_later HO4.out hb5)
                refine hKq.out _ _ trivial (fun _ => ?_)
                clear hKq Kq hb5
                try simp only [Act.put, List.setIfInBounds_toArray, List.set_cons_zero, List.set_cons_succ]
                obtain ⟨bx, hbx⟩ : ∃ bx, bx = U4.heap.size := ⟨_, rfl⟩
                rw [← hbx] at RX ⊢
                clear hbx
                generalize U4.alloc (.cells #[.int .i64 (a : Int), .int .u64 (b : Int), .int .u64 (c : Int), .int .i64 z] TLine) = U5 at HB5 RX P5 Q5 RE5 RZ5 HO5 ⊢
                clear P4 Q4 RE4 RZ4 HO4 HB4
                refine wpAnyH_ready (rs := [1]) (by kernel_rfl) (by simp) ?_
                refine AllReadyH.cons (o := { dst := some 24, op := Op.load 23 (Operand.tmp 23), type := 23, pos := "journal.go:181", after := #[{ on := 0, ground := Ground.data }], guard := none }) rfl (fun Kq hKq => ?_) AllReadyH.nil
                have e3 : U5.cell? ⟨be, 3, none⟩ = some (.slice va A.length vc) := RE5.out.cell 3
                go_simp
                refine hKq.out _ _ trivial (fun _ => ?_)
                clear hKq Kq e3
                try simp only [Act.put, List.setIfInBounds_toArray, List.set_cons_zero, List.set_cons_succ]
                obtain ⟨y, V, hrun, hown, hgrow, _, _⟩ := run_append_own_at (P := Try.prog) (w := U5) (be + 1) TLines TLines TLine i4 z4 4 32 Try.underlying23 hk0 hk1 hk2 hk3 hk4 (by decide) _ A.length (flatL A) HO5.out ⟨bx, 0, none⟩ 1 1 [.int .i64 (a : Int), .int .u64 (b : Int), .int .u64 (c : Int), .int .i64 z] rfl (rw_news RX.out) (by simp [Value.oneCell']) (by have h1 := HLT.out; have h2 := HM4n.out; unfold maxLen; omega) (by have h1 := HLT.out; have h2 := HM4n.out; omega) (RE5.out.lt)
                obtain ⟨x, hx⟩ : ∃ x : Ln, x = ⟨(a : Int), (b : Int), (c : Int), z⟩ := ⟨_, rfl⟩
                obtain ⟨Qn, hQn⟩ : ∃ Qn, Qn = A ++ [x] := ⟨_, rfl⟩
                have HOV : Hid (V.ownsRow (be + 1) TLine 4 y Qn.length (flatL Qn)) := by
                  show World.ownsRow _ _ _ _ _ _ _
                  rw [hQn, flatL_snoc, List.length_append, hx]
                  exact hown
                have HBV : Hid (Below lo w V) := HB5.out.grown hgrow (by rw [HLO.out]; exact HB5.out.size) (fun j hj => by have := (HO5.out.lt j hj).1; have h1 := HZ.out; have h2 := HBE.out; omega)
                have P6 := Lib.hid (Rw.grown P5.out hgrow (fun e => by have := (HO5.out.lt lo e).1; have h1 := HZ.out; have h2 := HBE.out; omega))
                have Q6 := Lib.hid (Rw.grown Q5.out hgrow (fun e => by have := (HO5.out.lt b4 e).1; have h1 := HZ.out; have h2 := HBE.out; omega))
                have RE6 := Lib.hid (Rw.grown RE5.out hgrow (fun e => by have := (HO5.out.lt be e).1; have h1 := HZ.out; have h2 := HBE.out; omega))
                have RZ6 := Lib.hid (Rw.grown RZ5.out hgrow (fun e => by have := (HO5.out.lt bz e).1; have h1 := HZ.out; have h2 := HBE.out; omega))
                have HG6 : Hid (G B is4 (PH ++ linesB Qn) r4 (CL m1 m2 m3 m4 Qn r4)) := by
                  show G _ _ _ _ _
                  rw [hQn, hx, ← pre_ln]
                  exact HG4.out
                have HLR6 : Hid (Lr Qn) := by
                  show Lr _
                  rw [hQn, hx]
                  exact lr_snoc HLR.out HM1.out HM2.out HM3.out
                have HQL : Hid (Qn.length = A.length + 1) := by
                  show _ = _
                  rw [hQn, List.length_append]
                  rfl
                clear hQn hx HG4 HLR hown hgrow
                refine wpAnyH_ready (rs := [13]) (by kernel_rfl) (by simp) ?_
                refine AllReadyH.cons (o := { dst := some 36, op := Op.call { callee := Callee.builtin Builtin.append, args := #[Operand.tmp 24, Operand.tmp 35], argTypes := #[23, 23] }, type := 23, pos := "journal.go:181", after := #[{ on := 1, ground := Ground.data }, { on := 12, ground := Ground.data }, { on := 10, ground := Ground.chain }], guard := none }) rfl (fun Kq hKq => ?_) AllReadyH.nil
                refine step_app4 rfl _ _ TLines rfl (.slice va A.length vc) (some ⟨bx, 0, none⟩) 1 1 y (by rfl) (by rfl) hrun ?_
                refine hKq.out _ _ trivial (fun _ => ?_)
                clear hKq Kq hrun HO5 P5 Q5 RE5 RZ5 HB5 RX
                try simp only [Act.put, List.setIfInBounds_toArray, List.set_cons_zero, List.set_cons_succ]
                obtain ⟨ya, yc, rfl⟩ := own_any HOV.out
                refine wpAnyH_take (i := 14) (oi := { dst := some 37, op := Op.fieldAddr 25 (Operand.tmp 7) 3, type := 0, pos := "journal.go:181", after := #[{ on := 0, ground := Ground.phase }, { on := 1, ground := Ground.phase }, { on := 2, ground := Ground.phase }, { on := 3, ground := Ground.phase }, { on := 4, ground := Ground.phase }, { on := 5, ground := Ground.phase }, { on := 6, ground := Ground.phase }, { on := 7, ground := Ground.phase }, { on := 8, ground := Ground.phase }, { on := 9, ground := Ground.phase }, { on := 10, ground := Ground.phase }, { on := 11, ground := Ground.phase }, { on := 12, ground := Ground.phase }, { on := 13, ground := Ground.phase }], guard := none }) (v := (.pointer (some ⟨be, 3, none⟩))) rfl (by kernel_rfl) (by kernel_rfl) (by kernel_rfl) (fun _ _ _ h => h) (Or.inl ⟨by rfl, ?_⟩) hHeld ?_
                · rintro u _
                  go_simp <;> first | rfl | omega | kernel_rfl
                try simp only [Act.put, List.setIfInBounds_toArray, List.set_cons_zero, List.set_cons_succ]
                have o3 : V.cell? ⟨be, 3, none⟩ = some (.slice va A.length vc) := RE6.out.cell 3
                have f3 : V.frozen? ⟨be, 3, none⟩ = false := RE6.out.frozen 3
                refine wpAnyH_ready (rs := [15]) (by kernel_rfl) (by simp) ?_
                refine AllReadyH.cons (o := { dst := none, op := Op.store 23 (Operand.tmp 37) (Operand.tmp 36), type := 0, pos := "journal.go:181", after := #[{ on := 14, ground := Ground.data }, { on := 13, ground := Ground.data }, { on := 13, ground := Ground.chain }, { on := 0, ground := Ground.phase }, { on := 1, ground := Ground.phase }, { on := 2, ground := Ground.phase }, { on := 3, ground := Ground.phase }, { on := 4, ground := Ground.phase }, { on := 5, ground := Ground.phase }, { on := 6, ground := Ground.phase }, { on := 7, ground := Ground.phase }, { on := 8, ground := Ground.phase }, { on := 9, ground := Ground.phase }, { on := 10, ground := Ground.phase }, { on := 11, ground := Ground.phase }, { on := 12, ground := Ground.phase }, { on := 13, ground := Ground.phase }], guard := none }) rfl (fun Kq hKq => ?_) AllReadyH.nil
                go_simp
                refine hKq.out _ _ trivial (fun _ => ?_)
                clear hKq Kq o3 f3
                try simp only [Act.put, List.setIfInBounds_toArray, List.set_cons_zero, List.set_cons_succ]
                have kp : Keeps (fun j => j = be) V (V.setCell ⟨be, 3, none⟩ (.slice ya Qn.length yc)) := (Keeps.refl (fun j => j = be) V).setCell be 3 _ (.inl rfl)
                have HB7 : Hid (Below lo w (V.setCell ⟨be, 3, none⟩ (.slice ya Qn.length yc))) := Keeps.belowT HBV.out kp (fun j hj => by have e1 : j = be := hj; have h1 := HZ.out; have h2 := HBE.out; omega) (by rw [HLO.out]; exact HBV.out.size)
                have RE7 : Hid (Rw (V.setCell ⟨be, 3, none⟩ (.slice ya Qn.length yc)) be TEn [.int .i64 (m1 : Int), .int .u8 (m2 : Int), .int .u64 (m3 : Int), .slice ya Qn.length yc]) := RE6.out.setCell 3 _
                have P7 := Lib.hid (P6.out.keeps kp (by have h1 := HZ.out; have h2 := HBE.out; omega))
                have Q7 := Lib.hid (Q6.out.keeps kp (by have h1 := HZ.out; have h2 := HBE.out; omega))
                have RZ7 := Lib.hid (RZ6.out.keeps kp (by have h1 := HZ.out; have h2 := HBE.out; omega))
                have HO7 := Lib.hid (own_keeps HOV.out kp (fun j hj e => by have e1 : j = be := e; have := (HOV.out.lt j hj).1; omega))
                generalize V.setCell ⟨be, 3, none⟩ (.slice ya Qn.length yc) = V9 at HB7 RE7 P7 Q7 RZ7 HO7 ⊢
                clear kp HBV P6 Q6 RE6 RZ6 HOV
                refine wpAnyH_done (by kernel_rfl) ?_ _
                have hlt := HLT.out
                have j2 : m4 ≤ 64 := HM4n.out
                go_wp2_with fail
                have hkx := HKX.out
                have hql := HQL.out
                go_roundg (m4 - (A.length + 1))
                case measure => omega
                case rel => exact ⟨Qn, .slice ya Qn.length yc, is4, r4, by rw [hql]; simp, by omega, HO7, RE7, RZ7, P7, Q7, HB7, HG6, HLR6, L4, by omega⟩
    · have hAl : A.length = m4 := by omega
      have HAL := Lib.hid hAl
      have j1 : ¬ (A.length : Int) < (m4 : Int) := by omega
      have HZL : Hid (lo ≤ bz) := Nat.le_of_lt HZ.out.1
      have q0 : wr.cell? ⟨b4, 0, none⟩ = some (.bool is) := Q.out.cell 0
      clear hlt hkx hA9 hAl
      cases is with
      | false =>
        have HNO := Lib.hid (HG.out.no rfl)
        have R9 : Rw (wr.setCells bz 0 #[.int .i64 0, .int .u8 0, .int .u64 0, .slice none 0 0].toList) bz TEn [.int .i64 0, .int .u8 0, .int .u64 0, .slice none 0 0] := RZ.out.setCells (cs := [.int .i64 0, .int .u8 0, .int .u64 0, .slice none 0 0]) 0 (by simp)
        have kp9 : Keeps (fun j => j = bz) wr (wr.setCells bz 0 #[.int .i64 0, .int .u8 0, .int .u64 0, .slice none 0 0].toList) := (Keeps.refl (fun j => j = bz) _).setCells bz 0 _ (.inl rfl)
        have B9 : Below lo w (wr.setCells bz 0 #[.int .i64 0, .int .u8 0, .int .u64 0, .slice none 0 0].toList) := Keeps.belowT HB.out kp9 (fun j hj => by rw [hj]; exact HZL.out) (by rw [HLO.out]; exact HB.out.size)
        have RZ9 := Lib.hid R9
        have HB9 := Lib.hid B9
        have KP9 := Lib.hid kp9
        clear R9 B9 kp9
        go_wp2_with (with_reducible refine wpList_store_mid rfl TEn _ _ rfl bz 0 #[.int .i64 0, .int .u8 0, .int .u64 0, .slice none 0 0] rfl rfl ?thr ?inf ?one ?_)
        case thr => exact RZ.out.there 0 4 (by simp)
        case inf => simpa using HINF.out
        case one => simp [Value.oneCell']
        generalize wr.setCells bz 0 #[.int .i64 0, .int .u8 0, .int .u64 0, .slice none 0 0].toList = W9 at RZ9 HB9 KP9 ⊢
        go_wp2_with fail
        have r0 : W9.cell? ⟨bz, 0, none⟩ = some (.int .i64 0) := RZ9.out.cell 0
        have r1 : W9.cell? ⟨bz, 1, none⟩ = some (.int .u8 0) := RZ9.out.cell 1
        have r2 : W9.cell? ⟨bz, 2, none⟩ = some (.int .u64 0) := RZ9.out.cell 2
        have r3 : W9.cell? ⟨bz, 3, none⟩ = some (.slice none 0 0) := RZ9.out.cell 3
        refine bodyPost_ret (v := .tuple #[.agg #[.int .i64 0, .int .u8 0, .int .u64 0, .slice none 0 0], .int .i64 5]) (by simp [results, Try.results27, go_sem, r0, r1, r2, r3]) rfl ?_
        exact ⟨by rw [← HLO.out]; exact HB9.out, .inr ⟨HNO.out, rfl⟩⟩
      | true =>
        cases r with
        | cons x t =>
          have HNO : Hid (∀ d k s L, ¬ IsEn B d k s L) := fun d k s L hE => by
            have := (HG.out.same rfl HAL.out hE).2.2.2.2
            cases this
          have p0 : wr.cell? ⟨lo, 0, none⟩ = some (.string (bs (x :: t))) := P.out.cell 0
          have hs2 : (bs (x :: t)).toList.isEmpty = false := by rw [ByteArray.toList_eq, bs_list]; rfl
          have hs3 : ¬ (bs (x :: t)).toList = [] := by rw [ByteArray.toList_eq, bs_list]; simp
          generalize bs (x :: t) = sx at p0 hs2 hs3
          have R9 : Rw (wr.setCells bz 0 #[.int .i64 0, .int .u8 0, .int .u64 0, .slice none 0 0].toList) bz TEn [.int .i64 0, .int .u8 0, .int .u64 0, .slice none 0 0] := RZ.out.setCells (cs := [.int .i64 0, .int .u8 0, .int .u64 0, .slice none 0 0]) 0 (by simp)
          have kp9 : Keeps (fun j => j = bz) wr (wr.setCells bz 0 #[.int .i64 0, .int .u8 0, .int .u64 0, .slice none 0 0].toList) := (Keeps.refl (fun j => j = bz) _).setCells bz 0 _ (.inl rfl)
          have B9 : Below lo w (wr.setCells bz 0 #[.int .i64 0, .int .u8 0, .int .u64 0, .slice none 0 0].toList) := Keeps.belowT HB.out kp9 (fun j hj => by rw [hj]; exact HZL.out) (by rw [HLO.out]; exact HB.out.size)
          have RZ9 := Lib.hid R9
          have HB9 := Lib.hid B9
          have KP9 := Lib.hid kp9
          clear R9 B9 kp9
          go_wp2_with (with_reducible refine wpList_store_mid rfl TEn _ _ rfl bz 0 #[.int .i64 0, .int .u8 0, .int .u64 0, .slice none 0 0] rfl rfl ?thr ?inf ?one ?_)
          case thr => exact RZ.out.there 0 4 (by simp)
          case inf => simpa using HINF.out
          case one => simp [Value.oneCell']
          generalize wr.setCells bz 0 #[.int .i64 0, .int .u8 0, .int .u64 0, .slice none 0 0].toList = W9 at RZ9 HB9 KP9 ⊢
          go_wp2_with fail
          have r0 : W9.cell? ⟨bz, 0, none⟩ = some (.int .i64 0) := RZ9.out.cell 0
          have r1 : W9.cell? ⟨bz, 1, none⟩ = some (.int .u8 0) := RZ9.out.cell 1
          have r2 : W9.cell? ⟨bz, 2, none⟩ = some (.int .u64 0) := RZ9.out.cell 2
          have r3 : W9.cell? ⟨bz, 3, none⟩ = some (.slice none 0 0) := RZ9.out.cell 3
          refine bodyPost_ret (v := .tuple #[.agg #[.int .i64 0, .int .u8 0, .int .u64 0, .slice none 0 0], .int .i64 5]) (by simp [results, Try.results27, go_sem, r0, r1, r2, r3]) rfl ?_
          exact ⟨by rw [← HLO.out]; exact HB9.out, .inr ⟨HNO.out, rfl⟩⟩
        | nil =>
          have p0 : wr.cell? ⟨lo, 0, none⟩ = some (.string (bs [])) := P.out.cell 0
          have hs2 : (bs []).toList.isEmpty = true := by rw [ByteArray.toList_eq, bs_list]; rfl
          have hs3 : (bs []).toList = [] := by rw [ByteArray.toList_eq, bs_list]
          generalize bs [] = sx at p0 hs2 hs3
          have e0 : wr.cell? ⟨be, 0, none⟩ = some (.int .i64 (m1 : Int)) := RE.out.cell 0
          have e1 : wr.cell? ⟨be, 1, none⟩ = some (.int .u8 (m2 : Int)) := RE.out.cell 1
          have e2 : wr.cell? ⟨be, 2, none⟩ = some (.int .u64 (m3 : Int)) := RE.out.cell 2
          have e3 : wr.cell? ⟨be, 3, none⟩ = some (.slice va A.length vc) := RE.out.cell 3
          have HLN : Hid (Lns wr va A) := by
            obtain ⟨a', c', he, hln, _⟩ := lns_own HO.out
            obtain ⟨rfl, _⟩ := (Value.slice.injEq _ _ _ _ _ _).mp he
            exact hln
          have KC := Lib.hid (check_c (m1 : Int) (m2 : Int) (m3 : Int) A va vc wr HLN.out (by have h1 := HAL.out; have h2 := HM4n.out; omega))
          obtain ⟨ch, hch⟩ : ∃ ch, ch = chkM (m1 : Int) (m2 : Int) A := ⟨_, rfl⟩
          rw [← hch] at KC
          have HCH := Lib.hid hch
          clear hch
          go_wp2_with fail
          refine KC.out.mono ?_
          rintro _ wk ⟨rfl, hbk⟩
          have HBK : Hid (Below lo w wk) := HB.out.trans (hbk.mono (by rw [HLO.out]; exact HB.out.size))
          have RZK := Lib.hid (RZ.out.later hbk)
          have REK := Lib.hid (RE.out.later hbk)
          have HOK := Lib.hid (own_later HO.out hbk)
          clear p0 q0 e0 e1 e2 e3 KC hbk j1 hs2 hs3
          by_cases hc0 : ch = 0
          · subst hc0
            have HYES : Hid (IsEn B (m1 : Int) (m2 : Int) (m3 : Int) A) := HG.out.all rfl (by rw [HPH.out, ← HAL.out]; unfold enB; rw [Int.toNat_natCast, Int.toNat_natCast, Int.toNat_natCast]) HCH.out.symm ⟨by have := HM2.out; omega, by have := HM3.out; omega, HLR.out⟩
            have e0 : wk.cell? ⟨be, 0, none⟩ = some (.int .i64 (m1 : Int)) := REK.out.cell 0
            have e1 : wk.cell? ⟨be, 1, none⟩ = some (.int .u8 (m2 : Int)) := REK.out.cell 1
            have e2 : wk.cell? ⟨be, 2, none⟩ = some (.int .u64 (m3 : Int)) := REK.out.cell 2
            have e3 : wk.cell? ⟨be, 3, none⟩ = some (.slice va A.length vc) := REK.out.cell 3
            have R9 : Rw (wk.setCells bz 0 #[.int .i64 (m1 : Int), .int .u8 (m2 : Int), .int .u64 (m3 : Int), .slice va A.length vc].toList) bz TEn [.int .i64 (m1 : Int), .int .u8 (m2 : Int), .int .u64 (m3 : Int), .slice va A.length vc] := RZK.out.setCells (cs := [.int .i64 (m1 : Int), .int .u8 (m2 : Int), .int .u64 (m3 : Int), .slice va A.length vc]) 0 (by simp)
            have kp9 : Keeps (fun j => j = bz) wk (wk.setCells bz 0 #[.int .i64 (m1 : Int), .int .u8 (m2 : Int), .int .u64 (m3 : Int), .slice va A.length vc].toList) := (Keeps.refl (fun j => j = bz) _).setCells bz 0 _ (.inl rfl)
            have B9 : Below lo w (wk.setCells bz 0 #[.int .i64 (m1 : Int), .int .u8 (m2 : Int), .int .u64 (m3 : Int), .slice va A.length vc].toList) := Keeps.belowT HBK.out kp9 (fun j hj => by rw [hj]; exact HZL.out) (by rw [HLO.out]; exact HBK.out.size)
            have RZ9 := Lib.hid R9
            have HB9 := Lib.hid B9
            have KP9 := Lib.hid kp9
            clear R9 B9 kp9
            go_wp2_with (with_reducible refine wpList_store_mid rfl TEn _ _ rfl bz 0 #[.int .i64 (m1 : Int), .int .u8 (m2 : Int), .int .u64 (m3 : Int), .slice va A.length vc] rfl rfl ?thr ?inf ?one ?_)
            case thr => exact RZK.out.there 0 4 (by simp)
            case inf => simpa using HINF.out
            case one => simp [Value.oneCell']
            generalize wk.setCells bz 0 #[.int .i64 (m1 : Int), .int .u8 (m2 : Int), .int .u64 (m3 : Int), .slice va A.length vc].toList = W9 at RZ9 HB9 KP9 ⊢
            go_wp2_with fail
            have HO9 := Lib.hid (own_keeps HOK.out KP9.out (fun j hj e => by have e1 : j = bz := e; have h1 := (HOK.out.lt j hj).1; have h2 := HBE0.out; have h3 := HZ.out; omega))
            have r0 : W9.cell? ⟨bz, 0, none⟩ = some (.int .i64 (m1 : Int)) := RZ9.out.cell 0
            have r1 : W9.cell? ⟨bz, 1, none⟩ = some (.int .u8 (m2 : Int)) := RZ9.out.cell 1
            have r2 : W9.cell? ⟨bz, 2, none⟩ = some (.int .u64 (m3 : Int)) := RZ9.out.cell 2
            have r3 : W9.cell? ⟨bz, 3, none⟩ = some (.slice va A.length vc) := RZ9.out.cell 3
            refine bodyPost_ret (v := .tuple #[.agg #[.int .i64 (m1 : Int), .int .u8 (m2 : Int), .int .u64 (m3 : Int), .slice va A.length vc], .int .i64 0]) (by simp [results, Try.results27, go_sem, r0, r1, r2, r3]) rfl ?_
            exact ⟨by rw [← HLO.out]; exact HB9.out, .inl ⟨(m1 : Int), (m2 : Int), (m3 : Int), A, _, HYES.out, rfl, own_low HO9.out (by rw [← HLO.out]; have h2 := HBE0.out; have h3 := HZ.out; omega)⟩⟩
          · have n1 : (ch == 0) = false := beq_eq_false_iff_ne.2 hc0
            have n2 : (ch != 0) = true := by simpa using hc0
            have HNO : Hid (∀ d k s L, ¬ IsEn B d k s L) := fun d k s L hE => by
              obtain ⟨g1, g2, g3, g4, _⟩ := HG.out.same rfl HAL.out hE
              have := hE.c
              rw [g1, g2, g4, ← HCH.out] at this
              exact hc0 this
            have HNC := Lib.hid hc0
            clear hc0
            have R9 : Rw (wk.setCells bz 0 #[.int .i64 0, .int .u8 0, .int .u64 0, .slice none 0 0].toList) bz TEn [.int .i64 0, .int .u8 0, .int .u64 0, .slice none 0 0] := RZK.out.setCells (cs := [.int .i64 0, .int .u8 0, .int .u64 0, .slice none 0 0]) 0 (by simp)
            have kp9 : Keeps (fun j => j = bz) wk (wk.setCells bz 0 #[.int .i64 0, .int .u8 0, .int .u64 0, .slice none 0 0].toList) := (Keeps.refl (fun j => j = bz) _).setCells bz 0 _ (.inl rfl)
            have B9 : Below lo w (wk.setCells bz 0 #[.int .i64 0, .int .u8 0, .int .u64 0, .slice none 0 0].toList) := Keeps.belowT HBK.out kp9 (fun j hj => by rw [hj]; exact HZL.out) (by rw [HLO.out]; exact HBK.out.size)
            have RZ9 := Lib.hid R9
            have HB9 := Lib.hid B9
            have KP9 := Lib.hid kp9
            clear R9 B9 kp9
            go_wp2_with (with_reducible refine wpList_store_mid rfl TEn _ _ rfl bz 0 #[.int .i64 0, .int .u8 0, .int .u64 0, .slice none 0 0] rfl rfl ?thr ?inf ?one ?_)
            case thr => exact RZK.out.there 0 4 (by simp)
            case inf => simpa using HINF.out
            case one => simp [Value.oneCell']
            generalize wk.setCells bz 0 #[.int .i64 0, .int .u8 0, .int .u64 0, .slice none 0 0].toList = W9 at RZ9 HB9 KP9 ⊢
            go_wp2_with fail
            have r0 : W9.cell? ⟨bz, 0, none⟩ = some (.int .i64 0) := RZ9.out.cell 0
            have r1 : W9.cell? ⟨bz, 1, none⟩ = some (.int .u8 0) := RZ9.out.cell 1
            have r2 : W9.cell? ⟨bz, 2, none⟩ = some (.int .u64 0) := RZ9.out.cell 2
            have r3 : W9.cell? ⟨bz, 3, none⟩ = some (.slice none 0 0) := RZ9.out.cell 3
            refine bodyPost_ret (v := .tuple #[.agg #[.int .i64 0, .int .u8 0, .int .u64 0, .slice none 0 0], .int .i64 5]) (by simp [results, Try.results27, go_sem, r0, r1, r2, r3]) rfl ?_
            exact ⟨by rw [← HLO.out]; exact HB9.out, .inr ⟨HNO.out, rfl⟩⟩
end
end Go.Proofs.Ytnblilonjpfdnaa.Jn
