/- Package journal: the law's sum of alike lines. -/
import Derived.Test.YtnblilonjpfdnaaJnLaw1
namespace Go.Proofs.Ytnblilonjpfdnaa.Jn
open Go Go.RowKit Ck
section
set_option maxRecDepth 100000
set_option maxHeartbeats 3200000
theorem of_c (L : List Ln) (a : Option Addr) (cap : Nat) (x : Ln) (w : World) (h : Lns w a L) (hI : ∀ y ∈ L, I64 y.amt) (hl : L.length ≤ 1000) : Calls Try.prog 30 #[.slice a L.length cap, x.val] w (Told (ksum L x.key) w) := by
  have H := Lib.hid h
  have HL := Lib.hid hl
  have HI := Lib.hid hI
  obtain ⟨ka, kb, kc, kd⟩ := x
  unfold Ln.val
  simp only
  obtain ⟨K, hK⟩ : ∃ K : Key, K = (ka, kb, kc) := ⟨_, rfl⟩
  have HK := Lib.hid hK
  have hKK : (Ln.mk ka kb kc kd).key = K := hK.symm
  rw [hKK]
  obtain ⟨i0, hi0, hz0, hz1, hz2⟩ := info_parts infoI64
  have HB0 : Hid (Below w.heap.size w (w.alloc (.cells #[.int .i64 ka, .int .u64 kb, .int .u64 kc, .int .i64 kd] TLine))) := (Below.refl _ w).alloc (Nat.le_refl _) _
  have RX0 : Hid (Rw (w.alloc (.cells #[.int .i64 ka, .int .u64 kb, .int .u64 kc, .int .i64 kd] TLine)) w.heap.size TLine [.int .i64 ka, .int .u64 kb, .int .u64 kc, .int .i64 kd]) := Rw.new w [.int .i64 ka, .int .u64 kb, .int .u64 kc, .int .i64 kd] TLine
  clear h hl hI hK hKK
  go_enter Try.func30, Try.ntmps30
  go_upto_region 3 with (fail)
  obtain ⟨be, hbe⟩ : ∃ be, be = w.heap.size := ⟨_, rfl⟩
  rw [← hbe] at RX0 ⊢
  have HBE := Lib.hid hbe
  clear hbe
  generalize w.alloc (.cells #[.int .i64 ka, .int .u64 kb, .int .u64 kc, .int .i64 kd] TLine) = W1 at HB0 RX0 ⊢
  have HS1 : Hid (be < W1.heap.size) := RX0.out.lt
  go_loopg [6, 7] L.length (fun kx s6 s7 wr => ∃ (i : Nat) (vv : Value), s7 = .int .i64 (i : Int) ∧ vv = s6 ∧ i ≤ L.length ∧ Hid (wr.ownsRow (be + 1) TI64 1 vv (ofKey (L.take i) K).length ((ofKey (L.take i) K).map iv)) ∧ Hid (Below be w wr) ∧ Hid (Rw wr be TLine [.int .i64 ka, .int .u64 kb, .int .u64 kc, .int .i64 kd]) ∧ L.length ≤ i + kx)
  case atStart => exact ⟨0, _, rfl, rfl, Nat.zero_le _, World.ownsRow_nil _ _ _ _, by rw [HBE.out]; exact HB0.out, RX0.out, by omega⟩
  case round =>
    obtain ⟨i, vv, rfl, hvv, hi9, HO, HB, RX, hkx⟩ := hrel
    obtain ⟨a9, c9, rfl⟩ := own_any HO.out
    subst hvv
    by_cases hlt : i < L.length
    · obtain ⟨ab, ao, rfl, hab, hc⟩ := (H.out.later (by rw [← HBE.out]; exact HB.out)) i hlt
      have HAB := Lib.hid hab
      have C0 := Lib.hid (hc 0 _ rfl)
      have C1 := Lib.hid (hc 1 _ rfl)
      have C2 := Lib.hid (hc 2 _ rfl)
      have C3 := Lib.hid (hc 3 _ rfl)
      have HSN : Hid (ofKey (L.take (i + 1)) K = if L[i].key = K then ofKey (L.take i) K ++ [L[i].amt] else ofKey (L.take i) K) := by
        show _ = _
        rw [List.take_succ_eq_append_getElem hlt, ofKey_app, ofKey_one]
        split
        · rfl
        · rw [List.append_nil]
      have HN : Hid ((ofKey (L.take i) K).length ≤ 1000) := by
        have h1 := ofKey_len (L.take i) K
        rw [List.length_take] at h1
        have := HL.out
        show _ ≤ _
        omega
      obtain ⟨P, hP⟩ : ∃ P, P = ofKey (L.take i) K := ⟨_, rfl⟩
      rw [← hP] at HO HSN HN ⊢
      obtain ⟨y, hy⟩ : ∃ y, y = L[i] := ⟨_, rfl⟩
      rw [← hy] at C0 C1 C2 C3 HSN
      have j0 : (0 : Int) ≤ (i : Int) := by omega
      have j1 : (i : Int) < (L.length : Int) := by omega
      have j2 : L.length ≤ 1000 := HL.out
      have HLT := Lib.hid hlt
      have HKX := Lib.hid hkx
      rw [Nat.add_zero] at C0
      clear hc hy hP hlt hkx hab
      obtain ⟨ya, yb, yc, yd⟩ := y
      simp only at C0 C1 C2 C3
      have RX' : Hid (Rw wr.drew be TLine [.int .i64 ka, .int .u64 kb, .int .u64 kc, .int .i64 kd]) := RX.out.drew
      have HO' : Hid (wr.drew.ownsRow (be + 1) TI64 1 (.slice a9 P.length c9) P.length (P.map iv)) := HO.out
      have HB' : Hid (Below be w wr.drew) := HB.out.drew
      have HBX : Hid (be < wr.heap.size) := RX.out.lt
      have c3 : wr.drew.cell? ⟨ab, ao + i * 4 + 3, none⟩ = some (.int .i64 yd) := C3.out
      by_cases h1 : ya = ka
      · by_cases h2 : yb = kb
        · by_cases h3 : yc = kc
          · subst h1 h2 h3
            have HS2 : Hid (ofKey (L.take (i + 1)) K = P ++ [yd]) := by show _ = _; rw [HSN.out, if_pos (by rw [HK.out]; rfl)]
            clear HSN HO HB
            go_upto_region 5 with (fail)
            refine wp_region_held_drew (S := (fun u => (ab < u.heap.size ∧ u.cell? ⟨ab, ao + i * 4, none⟩ = some (.int .i64 ya) ∧ u.cell? ⟨ab, ao + i * 4 + 1, none⟩ = some (.int .u64 yb) ∧ u.cell? ⟨ab, ao + i * 4 + 2, none⟩ = some (.int .u64 yc) ∧ u.cell? ⟨be, 0, none⟩ = some (.int .i64 ya) ∧ u.cell? ⟨be, 1, none⟩ = some (.int .u64 yb) ∧ u.cell? ⟨be, 2, none⟩ = some (.int .u64 yc)))) (by kernel_rfl) ?_ (fun hHeld => ?_)
            · exact ⟨HAB.out, C0.out, C1.out, C2.out, RX.out.cell 0, RX.out.cell 1, RX.out.cell 2⟩
            refine wpAnyH_take (i := 0) (oi := { dst := some 14, op := Op.move (Operand.tmp 0), type := 23, pos := "law.go:163", after := #[], guard := none }) (v := (.slice (some ⟨ab, ao, none⟩) L.length cap)) rfl (by kernel_rfl) (by kernel_rfl) (by kernel_rfl) (fun _ _ _ h => h) (Or.inl ⟨by rfl, ?_⟩) hHeld ?_
            · rintro u ⟨h0, p0, p1, p2, q0, q1, q2⟩
              go_simp <;> first | rfl | kernel_rfl
            try simp only [Act.put, List.setIfInBounds_toArray, List.set_cons_zero, List.set_cons_succ]
            refine wpAnyH_take (i := 1) (oi := { dst := some 15, op := Op.move (Operand.tmp 7), type := 3, pos := "law.go:163", after := #[], guard := none }) (v := (.int .i64 (i : Int))) rfl (by kernel_rfl) (by kernel_rfl) (by kernel_rfl) (fun _ _ _ h => h) (Or.inl ⟨by rfl, ?_⟩) hHeld ?_
            · rintro u ⟨h0, p0, p1, p2, q0, q1, q2⟩
              go_simp <;> first | rfl | kernel_rfl
            try simp only [Act.put, List.setIfInBounds_toArray, List.set_cons_zero, List.set_cons_succ]
            refine wpAnyH_take (i := 2) (oi := { dst := some 16, op := Op.indexAddr 23 (Operand.tmp 14) (Operand.tmp 15), type := 0, pos := "law.go:163", after := #[{ on := 0, ground := Ground.data }, { on := 1, ground := Ground.data }], guard := none }) (v := (.pointer (some ⟨ab, ao + i * 4, none⟩))) rfl (by kernel_rfl) (by kernel_rfl) (by kernel_rfl) (fun _ _ _ h => h) (Or.inl ⟨by rfl, ?_⟩) hHeld ?_
            · rintro u ⟨h0, p0, p1, p2, q0, q1, q2⟩
              go_simp <;> first | rfl | kernel_rfl
            try simp only [Act.put, List.setIfInBounds_toArray, List.set_cons_zero, List.set_cons_succ]
            refine wpAnyH_take (i := 3) (oi := { dst := some 17, op := Op.fieldAddr 67 (Operand.tmp 16) 0, type := 0, pos := "law.go:163", after := #[{ on := 2, ground := Ground.data }], guard := none }) (v := (.pointer (some ⟨ab, ao + i * 4, none⟩))) rfl (by kernel_rfl) (by kernel_rfl) (by kernel_rfl) (fun _ _ _ h => h) (Or.inl ⟨by rfl, ?_⟩) hHeld ?_
            · rintro u ⟨h0, p0, p1, p2, q0, q1, q2⟩
              go_simp <;> first | rfl | kernel_rfl
            try simp only [Act.put, List.setIfInBounds_toArray, List.set_cons_zero, List.set_cons_succ]
            refine wpAnyH_take (i := 4) (oi := { dst := some 18, op := Op.load 3 (Operand.tmp 17), type := 3, pos := "law.go:163", after := #[{ on := 3, ground := Ground.data }], guard := none }) (v := (.int .i64 ya)) rfl (by kernel_rfl) (by kernel_rfl) (by kernel_rfl) (fun _ _ _ h => h) (Or.inl ⟨by rfl, ?_⟩) hHeld ?_
            · rintro u ⟨h0, p0, p1, p2, q0, q1, q2⟩
              go_simp <;> first | rfl | kernel_rfl
            try simp only [Act.put, List.setIfInBounds_toArray, List.set_cons_zero, List.set_cons_succ]
            refine wpAnyH_take (i := 5) (oi := { dst := some 19, op := Op.fieldAddr 67 (Operand.tmp 3) 0, type := 0, pos := "law.go:163", after := #[], guard := none }) (v := (.pointer (some ⟨be, 0, none⟩))) rfl (by kernel_rfl) (by kernel_rfl) (by kernel_rfl) (fun _ _ _ h => h) (Or.inl ⟨by rfl, ?_⟩) hHeld ?_
            · rintro u ⟨h0, p0, p1, p2, q0, q1, q2⟩
              go_simp <;> first | rfl | kernel_rfl
            try simp only [Act.put, List.setIfInBounds_toArray, List.set_cons_zero, List.set_cons_succ]
            refine wpAnyH_take (i := 6) (oi := { dst := some 20, op := Op.load 3 (Operand.tmp 19), type := 3, pos := "law.go:163", after := #[{ on := 5, ground := Ground.data }], guard := none }) (v := (.int .i64 ya)) rfl (by kernel_rfl) (by kernel_rfl) (by kernel_rfl) (fun _ _ _ h => h) (Or.inl ⟨by rfl, ?_⟩) hHeld ?_
            · rintro u ⟨h0, p0, p1, p2, q0, q1, q2⟩
              go_simp <;> first | rfl | kernel_rfl
            try simp only [Act.put, List.setIfInBounds_toArray, List.set_cons_zero, List.set_cons_succ]
            refine wpAnyH_take (i := 7) (oi := { dst := some 21, op := Op.binOp BinOp.eql 3 (Operand.tmp 18) (Operand.tmp 20) 3, type := 4, pos := "law.go:163", after := #[{ on := 4, ground := Ground.data }, { on := 6, ground := Ground.data }], guard := none }) (v := (.bool true)) rfl (by kernel_rfl) (by kernel_rfl) (by kernel_rfl) (fun _ _ _ h => h) (Or.inl ⟨by rfl, ?_⟩) hHeld ?_
            · rintro u ⟨h0, p0, p1, p2, q0, q1, q2⟩
              go_simp <;> first | rfl | kernel_rfl
            try simp only [Act.put, List.setIfInBounds_toArray, List.set_cons_zero, List.set_cons_succ]
            refine wpAnyH_take (i := 8) (oi := { dst := some 22, op := Op.move (Operand.tmp 21), type := 4, pos := "law.go:163", after := #[{ on := 7, ground := Ground.data }], guard := none }) (v := (.bool true)) rfl (by kernel_rfl) (by kernel_rfl) (by kernel_rfl) (fun _ _ _ h => h) (Or.inl ⟨by rfl, ?_⟩) hHeld ?_
            · rintro u ⟨h0, p0, p1, p2, q0, q1, q2⟩
              go_simp <;> first | rfl | kernel_rfl
            try simp only [Act.put, List.setIfInBounds_toArray, List.set_cons_zero, List.set_cons_succ]
            refine wpAnyH_take (i := 9) (oi := { dst := some 23, op := Op.move (Operand.tmp 0), type := 23, pos := "law.go:163", after := #[{ on := 8, ground := Ground.guard }], guard := some (8, true) }) (v := (.slice (some ⟨ab, ao, none⟩) L.length cap)) rfl (by kernel_rfl) (by kernel_rfl) (by kernel_rfl) (fun _ _ _ h => h) (Or.inl ⟨by rfl, ?_⟩) hHeld ?_
            · rintro u ⟨h0, p0, p1, p2, q0, q1, q2⟩
              go_simp <;> first | rfl | kernel_rfl
            try simp only [Act.put, List.setIfInBounds_toArray, List.set_cons_zero, List.set_cons_succ]
            refine wpAnyH_take (i := 10) (oi := { dst := some 24, op := Op.move (Operand.tmp 7), type := 3, pos := "law.go:163", after := #[{ on := 8, ground := Ground.guard }], guard := some (8, true) }) (v := (.int .i64 (i : Int))) rfl (by kernel_rfl) (by kernel_rfl) (by kernel_rfl) (fun _ _ _ h => h) (Or.inl ⟨by rfl, ?_⟩) hHeld ?_
            · rintro u ⟨h0, p0, p1, p2, q0, q1, q2⟩
              go_simp <;> first | rfl | kernel_rfl
            try simp only [Act.put, List.setIfInBounds_toArray, List.set_cons_zero, List.set_cons_succ]
            refine wpAnyH_take (i := 11) (oi := { dst := some 25, op := Op.indexAddr 23 (Operand.tmp 23) (Operand.tmp 24), type := 0, pos := "law.go:163", after := #[{ on := 9, ground := Ground.data }, { on := 10, ground := Ground.data }, { on := 8, ground := Ground.guard }], guard := some (8, true) }) (v := (.pointer (some ⟨ab, ao + i * 4, none⟩))) rfl (by kernel_rfl) (by kernel_rfl) (by kernel_rfl) (fun _ _ _ h => h) (Or.inl ⟨by rfl, ?_⟩) hHeld ?_
            · rintro u ⟨h0, p0, p1, p2, q0, q1, q2⟩
              go_simp <;> first | rfl | kernel_rfl
            try simp only [Act.put, List.setIfInBounds_toArray, List.set_cons_zero, List.set_cons_succ]
            refine wpAnyH_take (i := 12) (oi := { dst := some 26, op := Op.fieldAddr 67 (Operand.tmp 25) 1, type := 0, pos := "law.go:163", after := #[{ on := 11, ground := Ground.data }, { on := 8, ground := Ground.guard }], guard := some (8, true) }) (v := (.pointer (some ⟨ab, ao + i * 4 + 1, none⟩))) rfl (by kernel_rfl) (by kernel_rfl) (by kernel_rfl) (fun _ _ _ h => h) (Or.inl ⟨by rfl, ?_⟩) hHeld ?_
            · rintro u ⟨h0, p0, p1, p2, q0, q1, q2⟩
              go_simp <;> first | rfl | kernel_rfl
            try simp only [Act.put, List.setIfInBounds_toArray, List.set_cons_zero, List.set_cons_succ]
            refine wpAnyH_take (i := 13) (oi := { dst := some 27, op := Op.load 22 (Operand.tmp 26), type := 22, pos := "law.go:163", after := #[{ on := 12, ground := Ground.data }, { on := 8, ground := Ground.guard }], guard := some (8, true) }) (v := (.int .u64 yb)) rfl (by kernel_rfl) (by kernel_rfl) (by kernel_rfl) (fun _ _ _ h => h) (Or.inl ⟨by rfl, ?_⟩) hHeld ?_
            · rintro u ⟨h0, p0, p1, p2, q0, q1, q2⟩
              go_simp <;> first | rfl | kernel_rfl
            try simp only [Act.put, List.setIfInBounds_toArray, List.set_cons_zero, List.set_cons_succ]
            refine wpAnyH_take (i := 14) (oi := { dst := some 28, op := Op.fieldAddr 67 (Operand.tmp 3) 1, type := 0, pos := "law.go:163", after := #[{ on := 8, ground := Ground.guard }], guard := some (8, true) }) (v := (.pointer (some ⟨be, 1, none⟩))) rfl (by kernel_rfl) (by kernel_rfl) (by kernel_rfl) (fun _ _ _ h => h) (Or.inl ⟨by rfl, ?_⟩) hHeld ?_
            · rintro u ⟨h0, p0, p1, p2, q0, q1, q2⟩
              go_simp <;> first | rfl | kernel_rfl
            try simp only [Act.put, List.setIfInBounds_toArray, List.set_cons_zero, List.set_cons_succ]
            refine wpAnyH_take (i := 15) (oi := { dst := some 29, op := Op.load 22 (Operand.tmp 28), type := 22, pos := "law.go:163", after := #[{ on := 14, ground := Ground.data }, { on := 8, ground := Ground.guard }], guard := some (8, true) }) (v := (.int .u64 yb)) rfl (by kernel_rfl) (by kernel_rfl) (by kernel_rfl) (fun _ _ _ h => h) (Or.inl ⟨by rfl, ?_⟩) hHeld ?_
            · rintro u ⟨h0, p0, p1, p2, q0, q1, q2⟩
              go_simp <;> first | rfl | kernel_rfl
            try simp only [Act.put, List.setIfInBounds_toArray, List.set_cons_zero, List.set_cons_succ]
            refine wpAnyH_take (i := 16) (oi := { dst := some 30, op := Op.binOp BinOp.eql 22 (Operand.tmp 27) (Operand.tmp 29) 22, type := 4, pos := "law.go:163", after := #[{ on := 13, ground := Ground.data }, { on := 15, ground := Ground.data }, { on := 8, ground := Ground.guard }], guard := some (8, true) }) (v := (.bool true)) rfl (by kernel_rfl) (by kernel_rfl) (by kernel_rfl) (fun _ _ _ h => h) (Or.inl ⟨by rfl, ?_⟩) hHeld ?_
            · rintro u ⟨h0, p0, p1, p2, q0, q1, q2⟩
              go_simp <;> first | rfl | kernel_rfl
            try simp only [Act.put, List.setIfInBounds_toArray, List.set_cons_zero, List.set_cons_succ]
            refine wpAnyH_take (i := 17) (oi := { dst := some 31, op := Op.pick (Operand.tmp 22) (Operand.tmp 30) (Operand.const (Value.bool false)), type := 4, pos := "law.go:163", after := #[{ on := 8, ground := Ground.data }, { on := 16, ground := Ground.data }], guard := none }) (v := (.bool true)) rfl (by kernel_rfl) (by kernel_rfl) (by kernel_rfl) (fun _ _ _ h => h) (Or.inl ⟨by rfl, ?_⟩) hHeld ?_
            · rintro u ⟨h0, p0, p1, p2, q0, q1, q2⟩
              go_simp <;> first | rfl | kernel_rfl
            try simp only [Act.put, List.setIfInBounds_toArray, List.set_cons_zero, List.set_cons_succ]
            refine wpAnyH_take (i := 18) (oi := { dst := some 32, op := Op.move (Operand.tmp 31), type := 4, pos := "law.go:163", after := #[{ on := 17, ground := Ground.data }, { on := 8, ground := Ground.chain }], guard := none }) (v := (.bool true)) rfl (by kernel_rfl) (by kernel_rfl) (by kernel_rfl) (fun _ _ _ h => h) (Or.inl ⟨by rfl, ?_⟩) hHeld ?_
            · rintro u ⟨h0, p0, p1, p2, q0, q1, q2⟩
              go_simp <;> first | rfl | kernel_rfl
            try simp only [Act.put, List.setIfInBounds_toArray, List.set_cons_zero, List.set_cons_succ]
            refine wpAnyH_take (i := 19) (oi := { dst := some 33, op := Op.move (Operand.tmp 0), type := 23, pos := "law.go:163", after := #[{ on := 18, ground := Ground.guard }], guard := some (18, true) }) (v := (.slice (some ⟨ab, ao, none⟩) L.length cap)) rfl (by kernel_rfl) (by kernel_rfl) (by kernel_rfl) (fun _ _ _ h => h) (Or.inl ⟨by rfl, ?_⟩) hHeld ?_
            · rintro u ⟨h0, p0, p1, p2, q0, q1, q2⟩
              go_simp <;> first | rfl | kernel_rfl
            try simp only [Act.put, List.setIfInBounds_toArray, List.set_cons_zero, List.set_cons_succ]
            refine wpAnyH_take (i := 20) (oi := { dst := some 34, op := Op.move (Operand.tmp 7), type := 3, pos := "law.go:163", after := #[{ on := 18, ground := Ground.guard }], guard := some (18, true) }) (v := (.int .i64 (i : Int))) rfl (by kernel_rfl) (by kernel_rfl) (by kernel_rfl) (fun _ _ _ h => h) (Or.inl ⟨by rfl, ?_⟩) hHeld ?_
            · rintro u ⟨h0, p0, p1, p2, q0, q1, q2⟩
              go_simp <;> first | rfl | kernel_rfl
            try simp only [Act.put, List.setIfInBounds_toArray, List.set_cons_zero, List.set_cons_succ]
            refine wpAnyH_take (i := 21) (oi := { dst := some 35, op := Op.indexAddr 23 (Operand.tmp 33) (Operand.tmp 34), type := 0, pos := "law.go:163", after := #[{ on := 19, ground := Ground.data }, { on := 20, ground := Ground.data }, { on := 18, ground := Ground.guard }], guard := some (18, true) }) (v := (.pointer (some ⟨ab, ao + i * 4, none⟩))) rfl (by kernel_rfl) (by kernel_rfl) (by kernel_rfl) (fun _ _ _ h => h) (Or.inl ⟨by rfl, ?_⟩) hHeld ?_
            · rintro u ⟨h0, p0, p1, p2, q0, q1, q2⟩
              go_simp <;> first | rfl | kernel_rfl
            try simp only [Act.put, List.setIfInBounds_toArray, List.set_cons_zero, List.set_cons_succ]
            refine wpAnyH_take (i := 22) (oi := { dst := some 36, op := Op.fieldAddr 67 (Operand.tmp 35) 2, type := 0, pos := "law.go:163", after := #[{ on := 21, ground := Ground.data }, { on := 18, ground := Ground.guard }], guard := some (18, true) }) (v := (.pointer (some ⟨ab, ao + i * 4 + 2, none⟩))) rfl (by kernel_rfl) (by kernel_rfl) (by kernel_rfl) (fun _ _ _ h => h) (Or.inl ⟨by rfl, ?_⟩) hHeld ?_
            · rintro u ⟨h0, p0, p1, p2, q0, q1, q2⟩
              go_simp <;> first | rfl | kernel_rfl
            try simp only [Act.put, List.setIfInBounds_toArray, List.set_cons_zero, List.set_cons_succ]
            refine wpAnyH_take (i := 23) (oi := { dst := some 37, op := Op.load 22 (Operand.tmp 36), type := 22, pos := "law.go:163", after := #[{ on := 22, ground := Ground.data }, { on := 18, ground := Ground.guard }], guard := some (18, true) }) (v := (.int .u64 yc)) rfl (by kernel_rfl) (by kernel_rfl) (by kernel_rfl) (fun _ _ _ h => h) (Or.inl ⟨by rfl, ?_⟩) hHeld ?_
            · rintro u ⟨h0, p0, p1, p2, q0, q1, q2⟩
              go_simp <;> first | rfl | kernel_rfl
            try simp only [Act.put, List.setIfInBounds_toArray, List.set_cons_zero, List.set_cons_succ]
            refine wpAnyH_take (i := 24) (oi := { dst := some 38, op := Op.fieldAddr 67 (Operand.tmp 3) 2, type := 0, pos := "law.go:163", after := #[{ on := 18, ground := Ground.guard }], guard := some (18, true) }) (v := (.pointer (some ⟨be, 2, none⟩))) rfl (by kernel_rfl) (by kernel_rfl) (by kernel_rfl) (fun _ _ _ h => h) (Or.inl ⟨by rfl, ?_⟩) hHeld ?_
            · rintro u ⟨h0, p0, p1, p2, q0, q1, q2⟩
              go_simp <;> first | rfl | kernel_rfl
            try simp only [Act.put, List.setIfInBounds_toArray, List.set_cons_zero, List.set_cons_succ]
            refine wpAnyH_take (i := 25) (oi := { dst := some 39, op := Op.load 22 (Operand.tmp 38), type := 22, pos := "law.go:163", after := #[{ on := 24, ground := Ground.data }, { on := 18, ground := Ground.guard }], guard := some (18, true) }) (v := (.int .u64 yc)) rfl (by kernel_rfl) (by kernel_rfl) (by kernel_rfl) (fun _ _ _ h => h) (Or.inl ⟨by rfl, ?_⟩) hHeld ?_
            · rintro u ⟨h0, p0, p1, p2, q0, q1, q2⟩
              go_simp <;> first | rfl | kernel_rfl
            try simp only [Act.put, List.setIfInBounds_toArray, List.set_cons_zero, List.set_cons_succ]
            refine wpAnyH_take (i := 26) (oi := { dst := some 40, op := Op.binOp BinOp.eql 22 (Operand.tmp 37) (Operand.tmp 39) 22, type := 4, pos := "law.go:163", after := #[{ on := 23, ground := Ground.data }, { on := 25, ground := Ground.data }, { on := 18, ground := Ground.guard }], guard := some (18, true) }) (v := (.bool true)) rfl (by kernel_rfl) (by kernel_rfl) (by kernel_rfl) (fun _ _ _ h => h) (Or.inl ⟨by rfl, ?_⟩) hHeld ?_
            · rintro u ⟨h0, p0, p1, p2, q0, q1, q2⟩
              go_simp <;> first | rfl | kernel_rfl
            try simp only [Act.put, List.setIfInBounds_toArray, List.set_cons_zero, List.set_cons_succ]
            refine wpAnyH_take (i := 27) (oi := { dst := some 41, op := Op.pick (Operand.tmp 32) (Operand.tmp 40) (Operand.const (Value.bool false)), type := 4, pos := "law.go:163", after := #[{ on := 18, ground := Ground.data }, { on := 26, ground := Ground.data }], guard := none }) (v := (.bool true)) rfl (by kernel_rfl) (by kernel_rfl) (by kernel_rfl) (fun _ _ _ h => h) (Or.inl ⟨by rfl, ?_⟩) hHeld ?_
            · rintro u ⟨h0, p0, p1, p2, q0, q1, q2⟩
              go_simp <;> first | rfl | kernel_rfl
            try simp only [Act.put, List.setIfInBounds_toArray, List.set_cons_zero, List.set_cons_succ]
            have hHeldE := hHeld
            refine wpAnyH_done (by kernel_rfl) ?_ _
            clear hHeldE RX C0 C1 C2 C3
            generalize wr.drew = W2 at RX' HO' HB' c3 ⊢
            have hs : be ≤ W2.heap.size := by rw [HBE.out]; exact HB'.out.size
            go_wp2_with (at_builtin; refine wpList_append_own_at _ rfl _ _ TI64s rfl (be + 1) TI64 i0 (.int .i64 0) 1 8 Try.underlying91 hi0 hz0 hz1 hz2 rfl (by decide) _ _ _ rfl (HO'.out.alloc _) ⟨W2.heap.size, 0, none⟩ 1 1 [iv yd] rfl rfl (cell_one_new _ _ _) (by simp [Value.oneCell']) (by have := HN.out; unfold maxLen; omega) (by have := HN.out; omega) (by have := RX'.out.lt; simp; omega) ?_)
            intro v2 w2 hown2 hg2 hnil2 hat2
            have kp : Keeps (fun j => (Value.slice a9 P.length c9).ownBlock = some j) W2 w2 := (Keeps.of _ ((Below.refl _ W2).alloc (Nat.le_refl _) _)).grown hg2 fun j hj => .inl hj
            have HB2 : Hid (Below be w w2) := Keeps.belowT HB'.out kp (fun j hj => Nat.le_of_succ_le (HO'.out.lt j hj).1) hs
            have RX2 := Lib.hid (RX'.out.keeps kp (fun hj => by have := (HO'.out.lt _ hj).1; omega))
            have HO2 : Hid (w2.ownsRow (be + 1) TI64 1 v2 (ofKey (L.take (i + 1)) K).length ((ofKey (L.take (i + 1)) K).map iv)) := by
              show w2.ownsRow _ _ _ _ _ _
              rw [HS2.out, List.length_append, List.map_append]
              exact hown2
            clear hown2 hg2 hnil2 hat2 c3 HB' HO' RX' HS2 kp hs
            go_wp2_with fail
            have hlt := HLT.out
            have hkx := HKX.out
            go_roundg (L.length - (i + 1))
            case measure => omega
            case rel => exact ⟨i + 1, _, by simp, rfl, by omega, HO2, HB2, RX2, by omega⟩
          · have n1 : (yc == kc) = false := beq_eq_false_iff_ne.2 h3
            have HS2 : Hid (ofKey (L.take (i + 1)) K = P) := by show _ = _; rw [HSN.out, if_neg (by rw [HK.out]; intro e; exact h3 (congrArg (fun q : Key => q.2.2) e))]
            subst h1 h2
            clear HSN h3
            go_upto_region 5 with (fail)
            refine wp_region_held_drew (S := (fun u => (ab < u.heap.size ∧ u.cell? ⟨ab, ao + i * 4, none⟩ = some (.int .i64 ya) ∧ u.cell? ⟨ab, ao + i * 4 + 1, none⟩ = some (.int .u64 yb) ∧ u.cell? ⟨ab, ao + i * 4 + 2, none⟩ = some (.int .u64 yc) ∧ u.cell? ⟨be, 0, none⟩ = some (.int .i64 ya) ∧ u.cell? ⟨be, 1, none⟩ = some (.int .u64 yb) ∧ u.cell? ⟨be, 2, none⟩ = some (.int .u64 kc)))) (by kernel_rfl) ?_ (fun hHeld => ?_)
            · exact ⟨HAB.out, C0.out, C1.out, C2.out, RX.out.cell 0, RX.out.cell 1, RX.out.cell 2⟩
            refine wpAnyH_take (i := 0) (oi := { dst := some 14, op := Op.move (Operand.tmp 0), type := 23, pos := "law.go:163", after := #[], guard := none }) (v := (.slice (some ⟨ab, ao, none⟩) L.length cap)) rfl (by kernel_rfl) (by kernel_rfl) (by kernel_rfl) (fun _ _ _ h => h) (Or.inl ⟨by rfl, ?_⟩) hHeld ?_
            · rintro u ⟨h0, p0, p1, p2, q0, q1, q2⟩
              go_simp <;> first | rfl | kernel_rfl
            try simp only [Act.put, List.setIfInBounds_toArray, List.set_cons_zero, List.set_cons_succ]
            refine wpAnyH_take (i := 1) (oi := { dst := some 15, op := Op.move (Operand.tmp 7), type := 3, pos := "law.go:163", after := #[], guard := none }) (v := (.int .i64 (i : Int))) rfl (by kernel_rfl) (by kernel_rfl) (by kernel_rfl) (fun _ _ _ h => h) (Or.inl ⟨by rfl, ?_⟩) hHeld ?_
            · rintro u ⟨h0, p0, p1, p2, q0, q1, q2⟩
              go_simp <;> first | rfl | kernel_rfl
            try simp only [Act.put, List.setIfInBounds_toArray, List.set_cons_zero, List.set_cons_succ]
            refine wpAnyH_take (i := 2) (oi := { dst := some 16, op := Op.indexAddr 23 (Operand.tmp 14) (Operand.tmp 15), type := 0, pos := "law.go:163", after := #[{ on := 0, ground := Ground.data }, { on := 1, ground := Ground.data }], guard := none }) (v := (.pointer (some ⟨ab, ao + i * 4, none⟩))) rfl (by kernel_rfl) (by kernel_rfl) (by kernel_rfl) (fun _ _ _ h => h) (Or.inl ⟨by rfl, ?_⟩) hHeld ?_
            · rintro u ⟨h0, p0, p1, p2, q0, q1, q2⟩
              go_simp <;> first | rfl | kernel_rfl
            try simp only [Act.put, List.setIfInBounds_toArray, List.set_cons_zero, List.set_cons_succ]
            refine wpAnyH_take (i := 3) (oi := { dst := some 17, op := Op.fieldAddr 67 (Operand.tmp 16) 0, type := 0, pos := "law.go:163", after := #[{ on := 2, ground := Ground.data }], guard := none }) (v := (.pointer (some ⟨ab, ao + i * 4, none⟩))) rfl (by kernel_rfl) (by kernel_rfl) (by kernel_rfl) (fun _ _ _ h => h) (Or.inl ⟨by rfl, ?_⟩) hHeld ?_
            · rintro u ⟨h0, p0, p1, p2, q0, q1, q2⟩
              go_simp <;> first | rfl | kernel_rfl
            try simp only [Act.put, List.setIfInBounds_toArray, List.set_cons_zero, List.set_cons_succ]
            refine wpAnyH_take (i := 4) (oi := { dst := some 18, op := Op.load 3 (Operand.tmp 17), type := 3, pos := "law.go:163", after := #[{ on := 3, ground := Ground.data }], guard := none }) (v := (.int .i64 ya)) rfl (by kernel_rfl) (by kernel_rfl) (by kernel_rfl) (fun _ _ _ h => h) (Or.inl ⟨by rfl, ?_⟩) hHeld ?_
            · rintro u ⟨h0, p0, p1, p2, q0, q1, q2⟩
              go_simp <;> first | rfl | kernel_rfl
            try simp only [Act.put, List.setIfInBounds_toArray, List.set_cons_zero, List.set_cons_succ]
            refine wpAnyH_take (i := 5) (oi := { dst := some 19, op := Op.fieldAddr 67 (Operand.tmp 3) 0, type := 0, pos := "law.go:163", after := #[], guard := none }) (v := (.pointer (some ⟨be, 0, none⟩))) rfl (by kernel_rfl) (by kernel_rfl) (by kernel_rfl) (fun _ _ _ h => h) (Or.inl ⟨by rfl, ?_⟩) hHeld ?_
            · rintro u ⟨h0, p0, p1, p2, q0, q1, q2⟩
              go_simp <;> first | rfl | kernel_rfl
            try simp only [Act.put, List.setIfInBounds_toArray, List.set_cons_zero, List.set_cons_succ]
            refine wpAnyH_take (i := 6) (oi := { dst := some 20, op := Op.load 3 (Operand.tmp 19), type := 3, pos := "law.go:163", after := #[{ on := 5, ground := Ground.data }], guard := none }) (v := (.int .i64 ya)) rfl (by kernel_rfl) (by kernel_rfl) (by kernel_rfl) (fun _ _ _ h => h) (Or.inl ⟨by rfl, ?_⟩) hHeld ?_
            · rintro u ⟨h0, p0, p1, p2, q0, q1, q2⟩
              go_simp <;> first | rfl | kernel_rfl
            try simp only [Act.put, List.setIfInBounds_toArray, List.set_cons_zero, List.set_cons_succ]
            refine wpAnyH_take (i := 7) (oi := { dst := some 21, op := Op.binOp BinOp.eql 3 (Operand.tmp 18) (Operand.tmp 20) 3, type := 4, pos := "law.go:163", after := #[{ on := 4, ground := Ground.data }, { on := 6, ground := Ground.data }], guard := none }) (v := (.bool true)) rfl (by kernel_rfl) (by kernel_rfl) (by kernel_rfl) (fun _ _ _ h => h) (Or.inl ⟨by rfl, ?_⟩) hHeld ?_
            · rintro u ⟨h0, p0, p1, p2, q0, q1, q2⟩
              go_simp <;> first | rfl | kernel_rfl
            try simp only [Act.put, List.setIfInBounds_toArray, List.set_cons_zero, List.set_cons_succ]
            refine wpAnyH_take (i := 8) (oi := { dst := some 22, op := Op.move (Operand.tmp 21), type := 4, pos := "law.go:163", after := #[{ on := 7, ground := Ground.data }], guard := none }) (v := (.bool true)) rfl (by kernel_rfl) (by kernel_rfl) (by kernel_rfl) (fun _ _ _ h => h) (Or.inl ⟨by rfl, ?_⟩) hHeld ?_
            · rintro u ⟨h0, p0, p1, p2, q0, q1, q2⟩
              go_simp <;> first | rfl | kernel_rfl
            try simp only [Act.put, List.setIfInBounds_toArray, List.set_cons_zero, List.set_cons_succ]
            refine wpAnyH_take (i := 9) (oi := { dst := some 23, op := Op.move (Operand.tmp 0), type := 23, pos := "law.go:163", after := #[{ on := 8, ground := Ground.guard }], guard := some (8, true) }) (v := (.slice (some ⟨ab, ao, none⟩) L.length cap)) rfl (by kernel_rfl) (by kernel_rfl) (by kernel_rfl) (fun _ _ _ h => h) (Or.inl ⟨by rfl, ?_⟩) hHeld ?_
            · rintro u ⟨h0, p0, p1, p2, q0, q1, q2⟩
              go_simp <;> first | rfl | kernel_rfl
            try simp only [Act.put, List.setIfInBounds_toArray, List.set_cons_zero, List.set_cons_succ]
            refine wpAnyH_take (i := 10) (oi := { dst := some 24, op := Op.move (Operand.tmp 7), type := 3, pos := "law.go:163", after := #[{ on := 8, ground := Ground.guard }], guard := some (8, true) }) (v := (.int .i64 (i : Int))) rfl (by kernel_rfl) (by kernel_rfl) (by kernel_rfl) (fun _ _ _ h => h) (Or.inl ⟨by rfl, ?_⟩) hHeld ?_
            · rintro u ⟨h0, p0, p1, p2, q0, q1, q2⟩
              go_simp <;> first | rfl | kernel_rfl
            try simp only [Act.put, List.setIfInBounds_toArray, List.set_cons_zero, List.set_cons_succ]
            refine wpAnyH_take (i := 11) (oi := { dst := some 25, op := Op.indexAddr 23 (Operand.tmp 23) (Operand.tmp 24), type := 0, pos := "law.go:163", after := #[{ on := 9, ground := Ground.data }, { on := 10, ground := Ground.data }, { on := 8, ground := Ground.guard }], guard := some (8, true) }) (v := (.pointer (some ⟨ab, ao + i * 4, none⟩))) rfl (by kernel_rfl) (by kernel_rfl) (by kernel_rfl) (fun _ _ _ h => h) (Or.inl ⟨by rfl, ?_⟩) hHeld ?_
            · rintro u ⟨h0, p0, p1, p2, q0, q1, q2⟩
              go_simp <;> first | rfl | kernel_rfl
            try simp only [Act.put, List.setIfInBounds_toArray, List.set_cons_zero, List.set_cons_succ]
            refine wpAnyH_take (i := 12) (oi := { dst := some 26, op := Op.fieldAddr 67 (Operand.tmp 25) 1, type := 0, pos := "law.go:163", after := #[{ on := 11, ground := Ground.data }, { on := 8, ground := Ground.guard }], guard := some (8, true) }) (v := (.pointer (some ⟨ab, ao + i * 4 + 1, none⟩))) rfl (by kernel_rfl) (by kernel_rfl) (by kernel_rfl) (fun _ _ _ h => h) (Or.inl ⟨by rfl, ?_⟩) hHeld ?_
            · rintro u ⟨h0, p0, p1, p2, q0, q1, q2⟩
              go_simp <;> first | rfl | kernel_rfl
            try simp only [Act.put, List.setIfInBounds_toArray, List.set_cons_zero, List.set_cons_succ]
            refine wpAnyH_take (i := 13) (oi := { dst := some 27, op := Op.load 22 (Operand.tmp 26), type := 22, pos := "law.go:163", after := #[{ on := 12, ground := Ground.data }, { on := 8, ground := Ground.guard }], guard := some (8, true) }) (v := (.int .u64 yb)) rfl (by kernel_rfl) (by kernel_rfl) (by kernel_rfl) (fun _ _ _ h => h) (Or.inl ⟨by rfl, ?_⟩) hHeld ?_
            · rintro u ⟨h0, p0, p1, p2, q0, q1, q2⟩
              go_simp <;> first | rfl | kernel_rfl
            try simp only [Act.put, List.setIfInBounds_toArray, List.set_cons_zero, List.set_cons_succ]
            refine wpAnyH_take (i := 14) (oi := { dst := some 28, op := Op.fieldAddr 67 (Operand.tmp 3) 1, type := 0, pos := "law.go:163", after := #[{ on := 8, ground := Ground.guard }], guard := some (8, true) }) (v := (.pointer (some ⟨be, 1, none⟩))) rfl (by kernel_rfl) (by kernel_rfl) (by kernel_rfl) (fun _ _ _ h => h) (Or.inl ⟨by rfl, ?_⟩) hHeld ?_
            · rintro u ⟨h0, p0, p1, p2, q0, q1, q2⟩
              go_simp <;> first | rfl | kernel_rfl
            try simp only [Act.put, List.setIfInBounds_toArray, List.set_cons_zero, List.set_cons_succ]
            refine wpAnyH_take (i := 15) (oi := { dst := some 29, op := Op.load 22 (Operand.tmp 28), type := 22, pos := "law.go:163", after := #[{ on := 14, ground := Ground.data }, { on := 8, ground := Ground.guard }], guard := some (8, true) }) (v := (.int .u64 yb)) rfl (by kernel_rfl) (by kernel_rfl) (by kernel_rfl) (fun _ _ _ h => h) (Or.inl ⟨by rfl, ?_⟩) hHeld ?_
            · rintro u ⟨h0, p0, p1, p2, q0, q1, q2⟩
              go_simp <;> first | rfl | kernel_rfl
            try simp only [Act.put, List.setIfInBounds_toArray, List.set_cons_zero, List.set_cons_succ]
            refine wpAnyH_take (i := 16) (oi := { dst := some 30, op := Op.binOp BinOp.eql 22 (Operand.tmp 27) (Operand.tmp 29) 22, type := 4, pos := "law.go:163", after := #[{ on := 13, ground := Ground.data }, { on := 15, ground := Ground.data }, { on := 8, ground := Ground.guard }], guard := some (8, true) }) (v := (.bool true)) rfl (by kernel_rfl) (by kernel_rfl) (by kernel_rfl) (fun _ _ _ h => h) (Or.inl ⟨by rfl, ?_⟩) hHeld ?_
            · rintro u ⟨h0, p0, p1, p2, q0, q1, q2⟩
              go_simp <;> first | rfl | kernel_rfl
            try simp only [Act.put, List.setIfInBounds_toArray, List.set_cons_zero, List.set_cons_succ]
            refine wpAnyH_take (i := 17) (oi := { dst := some 31, op := Op.pick (Operand.tmp 22) (Operand.tmp 30) (Operand.const (Value.bool false)), type := 4, pos := "law.go:163", after := #[{ on := 8, ground := Ground.data }, { on := 16, ground := Ground.data }], guard := none }) (v := (.bool true)) rfl (by kernel_rfl) (by kernel_rfl) (by kernel_rfl) (fun _ _ _ h => h) (Or.inl ⟨by rfl, ?_⟩) hHeld ?_
            · rintro u ⟨h0, p0, p1, p2, q0, q1, q2⟩
              go_simp <;> first | rfl | kernel_rfl
            try simp only [Act.put, List.setIfInBounds_toArray, List.set_cons_zero, List.set_cons_succ]
            refine wpAnyH_take (i := 18) (oi := { dst := some 32, op := Op.move (Operand.tmp 31), type := 4, pos := "law.go:163", after := #[{ on := 17, ground := Ground.data }, { on := 8, ground := Ground.chain }], guard := none }) (v := (.bool true)) rfl (by kernel_rfl) (by kernel_rfl) (by kernel_rfl) (fun _ _ _ h => h) (Or.inl ⟨by rfl, ?_⟩) hHeld ?_
            · rintro u ⟨h0, p0, p1, p2, q0, q1, q2⟩
              go_simp <;> first | rfl | kernel_rfl
            try simp only [Act.put, List.setIfInBounds_toArray, List.set_cons_zero, List.set_cons_succ]
            refine wpAnyH_take (i := 19) (oi := { dst := some 33, op := Op.move (Operand.tmp 0), type := 23, pos := "law.go:163", after := #[{ on := 18, ground := Ground.guard }], guard := some (18, true) }) (v := (.slice (some ⟨ab, ao, none⟩) L.length cap)) rfl (by kernel_rfl) (by kernel_rfl) (by kernel_rfl) (fun _ _ _ h => h) (Or.inl ⟨by rfl, ?_⟩) hHeld ?_
            · rintro u ⟨h0, p0, p1, p2, q0, q1, q2⟩
              go_simp <;> first | rfl | kernel_rfl
            try simp only [Act.put, List.setIfInBounds_toArray, List.set_cons_zero, List.set_cons_succ]
            refine wpAnyH_take (i := 20) (oi := { dst := some 34, op := Op.move (Operand.tmp 7), type := 3, pos := "law.go:163", after := #[{ on := 18, ground := Ground.guard }], guard := some (18, true) }) (v := (.int .i64 (i : Int))) rfl (by kernel_rfl) (by kernel_rfl) (by kernel_rfl) (fun _ _ _ h => h) (Or.inl ⟨by rfl, ?_⟩) hHeld ?_
            · rintro u ⟨h0, p0, p1, p2, q0, q1, q2⟩
              go_simp <;> first | rfl | kernel_rfl
            try simp only [Act.put, List.setIfInBounds_toArray, List.set_cons_zero, List.set_cons_succ]
            refine wpAnyH_take (i := 21) (oi := { dst := some 35, op := Op.indexAddr 23 (Operand.tmp 33) (Operand.tmp 34), type := 0, pos := "law.go:163", after := #[{ on := 19, ground := Ground.data }, { on := 20, ground := Ground.data }, { on := 18, ground := Ground.guard }], guard := some (18, true) }) (v := (.pointer (some ⟨ab, ao + i * 4, none⟩))) rfl (by kernel_rfl) (by kernel_rfl) (by kernel_rfl) (fun _ _ _ h => h) (Or.inl ⟨by rfl, ?_⟩) hHeld ?_
            · rintro u ⟨h0, p0, p1, p2, q0, q1, q2⟩
              go_simp <;> first | rfl | kernel_rfl
            try simp only [Act.put, List.setIfInBounds_toArray, List.set_cons_zero, List.set_cons_succ]
            refine wpAnyH_take (i := 22) (oi := { dst := some 36, op := Op.fieldAddr 67 (Operand.tmp 35) 2, type := 0, pos := "law.go:163", after := #[{ on := 21, ground := Ground.data }, { on := 18, ground := Ground.guard }], guard := some (18, true) }) (v := (.pointer (some ⟨ab, ao + i * 4 + 2, none⟩))) rfl (by kernel_rfl) (by kernel_rfl) (by kernel_rfl) (fun _ _ _ h => h) (Or.inl ⟨by rfl, ?_⟩) hHeld ?_
            · rintro u ⟨h0, p0, p1, p2, q0, q1, q2⟩
              go_simp <;> first | rfl | kernel_rfl
            try simp only [Act.put, List.setIfInBounds_toArray, List.set_cons_zero, List.set_cons_succ]
            refine wpAnyH_take (i := 23) (oi := { dst := some 37, op := Op.load 22 (Operand.tmp 36), type := 22, pos := "law.go:163", after := #[{ on := 22, ground := Ground.data }, { on := 18, ground := Ground.guard }], guard := some (18, true) }) (v := (.int .u64 yc)) rfl (by kernel_rfl) (by kernel_rfl) (by kernel_rfl) (fun _ _ _ h => h) (Or.inl ⟨by rfl, ?_⟩) hHeld ?_
            · rintro u ⟨h0, p0, p1, p2, q0, q1, q2⟩
              go_simp <;> first | rfl | kernel_rfl
            try simp only [Act.put, List.setIfInBounds_toArray, List.set_cons_zero, List.set_cons_succ]
            refine wpAnyH_take (i := 24) (oi := { dst := some 38, op := Op.fieldAddr 67 (Operand.tmp 3) 2, type := 0, pos := "law.go:163", after := #[{ on := 18, ground := Ground.guard }], guard := some (18, true) }) (v := (.pointer (some ⟨be, 2, none⟩))) rfl (by kernel_rfl) (by kernel_rfl) (by kernel_rfl) (fun _ _ _ h => h) (Or.inl ⟨by rfl, ?_⟩) hHeld ?_
            · rintro u ⟨h0, p0, p1, p2, q0, q1, q2⟩
              go_simp <;> first | rfl | kernel_rfl
            try simp only [Act.put, List.setIfInBounds_toArray, List.set_cons_zero, List.set_cons_succ]
            refine wpAnyH_take (i := 25) (oi := { dst := some 39, op := Op.load 22 (Operand.tmp 38), type := 22, pos := "law.go:163", after := #[{ on := 24, ground := Ground.data }, { on := 18, ground := Ground.guard }], guard := some (18, true) }) (v := (.int .u64 kc)) rfl (by kernel_rfl) (by kernel_rfl) (by kernel_rfl) (fun _ _ _ h => h) (Or.inl ⟨by rfl, ?_⟩) hHeld ?_
            · rintro u ⟨h0, p0, p1, p2, q0, q1, q2⟩
              go_simp <;> first | rfl | kernel_rfl
            try simp only [Act.put, List.setIfInBounds_toArray, List.set_cons_zero, List.set_cons_succ]
            refine wpAnyH_take (i := 26) (oi := { dst := some 40, op := Op.binOp BinOp.eql 22 (Operand.tmp 37) (Operand.tmp 39) 22, type := 4, pos := "law.go:163", after := #[{ on := 23, ground := Ground.data }, { on := 25, ground := Ground.data }, { on := 18, ground := Ground.guard }], guard := some (18, true) }) (v := (.bool false)) rfl (by kernel_rfl) (by kernel_rfl) (by kernel_rfl) (fun _ _ _ h => h) (Or.inl ⟨by rfl, ?_⟩) hHeld ?_
            · rintro u ⟨h0, p0, p1, p2, q0, q1, q2⟩
              go_simp <;> first | exact n1 | (simp [n1]) | rfl | kernel_rfl
            try simp only [Act.put, List.setIfInBounds_toArray, List.set_cons_zero, List.set_cons_succ]
            refine wpAnyH_take (i := 27) (oi := { dst := some 41, op := Op.pick (Operand.tmp 32) (Operand.tmp 40) (Operand.const (Value.bool false)), type := 4, pos := "law.go:163", after := #[{ on := 18, ground := Ground.data }, { on := 26, ground := Ground.data }], guard := none }) (v := (.bool false)) rfl (by kernel_rfl) (by kernel_rfl) (by kernel_rfl) (fun _ _ _ h => h) (Or.inl ⟨by rfl, ?_⟩) hHeld ?_
            · rintro u ⟨h0, p0, p1, p2, q0, q1, q2⟩
              go_simp <;> first | rfl | kernel_rfl
            try simp only [Act.put, List.setIfInBounds_toArray, List.set_cons_zero, List.set_cons_succ]
            have hHeldE := hHeld
            refine wpAnyH_done (by kernel_rfl) ?_ _
            clear hHeldE RX C0 C1 C2 C3 n1 c3
            go_wp2_with fail
            have hlt := HLT.out
            have hkx := HKX.out
            go_roundg (L.length - (i + 1))
            case measure => omega
            case rel => exact ⟨i + 1, _, by simp, rfl, by omega, by rw [HS2.out]; exact HO', HB', RX', by omega⟩
        · have n1 : (yb == kb) = false := beq_eq_false_iff_ne.2 h2
          have HS2 : Hid (ofKey (L.take (i + 1)) K = P) := by show _ = _; rw [HSN.out, if_neg (by rw [HK.out]; intro e; exact h2 (congrArg (fun q : Key => q.2.1) e))]
          subst h1
          clear HSN h2
          go_upto_region 5 with (fail)
          refine wp_region_held_drew (S := (fun u => (ab < u.heap.size ∧ u.cell? ⟨ab, ao + i * 4, none⟩ = some (.int .i64 ya) ∧ u.cell? ⟨ab, ao + i * 4 + 1, none⟩ = some (.int .u64 yb) ∧ u.cell? ⟨ab, ao + i * 4 + 2, none⟩ = some (.int .u64 yc) ∧ u.cell? ⟨be, 0, none⟩ = some (.int .i64 ya) ∧ u.cell? ⟨be, 1, none⟩ = some (.int .u64 kb) ∧ u.cell? ⟨be, 2, none⟩ = some (.int .u64 kc)))) (by kernel_rfl) ?_ (fun hHeld => ?_)
          · exact ⟨HAB.out, C0.out, C1.out, C2.out, RX.out.cell 0, RX.out.cell 1, RX.out.cell 2⟩
          refine wpAnyH_take (i := 0) (oi := { dst := some 14, op := Op.move (Operand.tmp 0), type := 23, pos := "law.go:163", after := #[], guard := none }) (v := (.slice (some ⟨ab, ao, none⟩) L.length cap)) rfl (by kernel_rfl) (by kernel_rfl) (by kernel_rfl) (fun _ _ _ h => h) (Or.inl ⟨by rfl, ?_⟩) hHeld ?_
          · rintro u ⟨h0, p0, p1, p2, q0, q1, q2⟩
            go_simp <;> first | rfl | kernel_rfl
          try simp only [Act.put, List.setIfInBounds_toArray, List.set_cons_zero, List.set_cons_succ]
          refine wpAnyH_take (i := 1) (oi := { dst := some 15, op := Op.move (Operand.tmp 7), type := 3, pos := "law.go:163", after := #[], guard := none }) (v := (.int .i64 (i : Int))) rfl (by kernel_rfl) (by kernel_rfl) (by kernel_rfl) (fun _ _ _ h => h) (Or.inl ⟨by rfl, ?_⟩) hHeld ?_
          · rintro u ⟨h0, p0, p1, p2, q0, q1, q2⟩
            go_simp <;> first | rfl | kernel_rfl
          try simp only [Act.put, List.setIfInBounds_toArray, List.set_cons_zero, List.set_cons_succ]
          refine wpAnyH_take (i := 2) (oi := { dst := some 16, op := Op.indexAddr 23 (Operand.tmp 14) (Operand.tmp 15), type := 0, pos := "law.go:163", after := #[{ on := 0, ground := Ground.data }, { on := 1, ground := Ground.data }], guard := none }) (v := (.pointer (some ⟨ab, ao + i * 4, none⟩))) rfl (by kernel_rfl) (by kernel_rfl) (by kernel_rfl) (fun _ _ _ h => h) (Or.inl ⟨by rfl, ?_⟩) hHeld ?_
          · rintro u ⟨h0, p0, p1, p2, q0, q1, q2⟩
            go_simp <;> first | rfl | kernel_rfl
          try simp only [Act.put, List.setIfInBounds_toArray, List.set_cons_zero, List.set_cons_succ]
          refine wpAnyH_take (i := 3) (oi := { dst := some 17, op := Op.fieldAddr 67 (Operand.tmp 16) 0, type := 0, pos := "law.go:163", after := #[{ on := 2, ground := Ground.data }], guard := none }) (v := (.pointer (some ⟨ab, ao + i * 4, none⟩))) rfl (by kernel_rfl) (by kernel_rfl) (by kernel_rfl) (fun _ _ _ h => h) (Or.inl ⟨by rfl, ?_⟩) hHeld ?_
          · rintro u ⟨h0, p0, p1, p2, q0, q1, q2⟩
            go_simp <;> first | rfl | kernel_rfl
          try simp only [Act.put, List.setIfInBounds_toArray, List.set_cons_zero, List.set_cons_succ]
          refine wpAnyH_take (i := 4) (oi := { dst := some 18, op := Op.load 3 (Operand.tmp 17), type := 3, pos := "law.go:163", after := #[{ on := 3, ground := Ground.data }], guard := none }) (v := (.int .i64 ya)) rfl (by kernel_rfl) (by kernel_rfl) (by kernel_rfl) (fun _ _ _ h => h) (Or.inl ⟨by rfl, ?_⟩) hHeld ?_
          · rintro u ⟨h0, p0, p1, p2, q0, q1, q2⟩
            go_simp <;> first | rfl | kernel_rfl
          try simp only [Act.put, List.setIfInBounds_toArray, List.set_cons_zero, List.set_cons_succ]
          refine wpAnyH_take (i := 5) (oi := { dst := some 19, op := Op.fieldAddr 67 (Operand.tmp 3) 0, type := 0, pos := "law.go:163", after := #[], guard := none }) (v := (.pointer (some ⟨be, 0, none⟩))) rfl (by kernel_rfl) (by kernel_rfl) (by kernel_rfl) (fun _ _ _ h => h) (Or.inl ⟨by rfl, ?_⟩) hHeld ?_
          · rintro u ⟨h0, p0, p1, p2, q0, q1, q2⟩
            go_simp <;> first | rfl | kernel_rfl
          try simp only [Act.put, List.setIfInBounds_toArray, List.set_cons_zero, List.set_cons_succ]
          refine wpAnyH_take (i := 6) (oi := { dst := some 20, op := Op.load 3 (Operand.tmp 19), type := 3, pos := "law.go:163", after := #[{ on := 5, ground := Ground.data }], guard := none }) (v := (.int .i64 ya)) rfl (by kernel_rfl) (by kernel_rfl) (by kernel_rfl) (fun _ _ _ h => h) (Or.inl ⟨by rfl, ?_⟩) hHeld ?_
          · rintro u ⟨h0, p0, p1, p2, q0, q1, q2⟩
            go_simp <;> first | rfl | kernel_rfl
          try simp only [Act.put, List.setIfInBounds_toArray, List.set_cons_zero, List.set_cons_succ]
          refine wpAnyH_take (i := 7) (oi := { dst := some 21, op := Op.binOp BinOp.eql 3 (Operand.tmp 18) (Operand.tmp 20) 3, type := 4, pos := "law.go:163", after := #[{ on := 4, ground := Ground.data }, { on := 6, ground := Ground.data }], guard := none }) (v := (.bool true)) rfl (by kernel_rfl) (by kernel_rfl) (by kernel_rfl) (fun _ _ _ h => h) (Or.inl ⟨by rfl, ?_⟩) hHeld ?_
          · rintro u ⟨h0, p0, p1, p2, q0, q1, q2⟩
            go_simp <;> first | rfl | kernel_rfl
          try simp only [Act.put, List.setIfInBounds_toArray, List.set_cons_zero, List.set_cons_succ]
          refine wpAnyH_take (i := 8) (oi := { dst := some 22, op := Op.move (Operand.tmp 21), type := 4, pos := "law.go:163", after := #[{ on := 7, ground := Ground.data }], guard := none }) (v := (.bool true)) rfl (by kernel_rfl) (by kernel_rfl) (by kernel_rfl) (fun _ _ _ h => h) (Or.inl ⟨by rfl, ?_⟩) hHeld ?_
          · rintro u ⟨h0, p0, p1, p2, q0, q1, q2⟩
            go_simp <;> first | rfl | kernel_rfl
          try simp only [Act.put, List.setIfInBounds_toArray, List.set_cons_zero, List.set_cons_succ]
          refine wpAnyH_take (i := 9) (oi := { dst := some 23, op := Op.move (Operand.tmp 0), type := 23, pos := "law.go:163", after := #[{ on := 8, ground := Ground.guard }], guard := some (8, true) }) (v := (.slice (some ⟨ab, ao, none⟩) L.length cap)) rfl (by kernel_rfl) (by kernel_rfl) (by kernel_rfl) (fun _ _ _ h => h) (Or.inl ⟨by rfl, ?_⟩) hHeld ?_
          · rintro u ⟨h0, p0, p1, p2, q0, q1, q2⟩
            go_simp <;> first | rfl | kernel_rfl
          try simp only [Act.put, List.setIfInBounds_toArray, List.set_cons_zero, List.set_cons_succ]
          refine wpAnyH_take (i := 10) (oi := { dst := some 24, op := Op.move (Operand.tmp 7), type := 3, pos := "law.go:163", after := #[{ on := 8, ground := Ground.guard }], guard := some (8, true) }) (v := (.int .i64 (i : Int))) rfl (by kernel_rfl) (by kernel_rfl) (by kernel_rfl) (fun _ _ _ h => h) (Or.inl ⟨by rfl, ?_⟩) hHeld ?_
          · rintro u ⟨h0, p0, p1, p2, q0, q1, q2⟩
            go_simp <;> first | rfl | kernel_rfl
          try simp only [Act.put, List.setIfInBounds_toArray, List.set_cons_zero, List.set_cons_succ]
          refine wpAnyH_take (i := 11) (oi := { dst := some 25, op := Op.indexAddr 23 (Operand.tmp 23) (Operand.tmp 24), type := 0, pos := "law.go:163", after := #[{ on := 9, ground := Ground.data }, { on := 10, ground := Ground.data }, { on := 8, ground := Ground.guard }], guard := some (8, true) }) (v := (.pointer (some ⟨ab, ao + i * 4, none⟩))) rfl (by kernel_rfl) (by kernel_rfl) (by kernel_rfl) (fun _ _ _ h => h) (Or.inl ⟨by rfl, ?_⟩) hHeld ?_
          · rintro u ⟨h0, p0, p1, p2, q0, q1, q2⟩
            go_simp <;> first | rfl | kernel_rfl
          try simp only [Act.put, List.setIfInBounds_toArray, List.set_cons_zero, List.set_cons_succ]
          refine wpAnyH_take (i := 12) (oi := { dst := some 26, op := Op.fieldAddr 67 (Operand.tmp 25) 1, type := 0, pos := "law.go:163", after := #[{ on := 11, ground := Ground.data }, { on := 8, ground := Ground.guard }], guard := some (8, true) }) (v := (.pointer (some ⟨ab, ao + i * 4 + 1, none⟩))) rfl (by kernel_rfl) (by kernel_rfl) (by kernel_rfl) (fun _ _ _ h => h) (Or.inl ⟨by rfl, ?_⟩) hHeld ?_
          · rintro u ⟨h0, p0, p1, p2, q0, q1, q2⟩
            go_simp <;> first | rfl | kernel_rfl
          try simp only [Act.put, List.setIfInBounds_toArray, List.set_cons_zero, List.set_cons_succ]
          refine wpAnyH_take (i := 13) (oi := { dst := some 27, op := Op.load 22 (Operand.tmp 26), type := 22, pos := "law.go:163", after := #[{ on := 12, ground := Ground.data }, { on := 8, ground := Ground.guard }], guard := some (8, true) }) (v := (.int .u64 yb)) rfl (by kernel_rfl) (by kernel_rfl) (by kernel_rfl) (fun _ _ _ h => h) (Or.inl ⟨by rfl, ?_⟩) hHeld ?_
          · rintro u ⟨h0, p0, p1, p2, q0, q1, q2⟩
            go_simp <;> first | rfl | kernel_rfl
          try simp only [Act.put, List.setIfInBounds_toArray, List.set_cons_zero, List.set_cons_succ]
          refine wpAnyH_take (i := 14) (oi := { dst := some 28, op := Op.fieldAddr 67 (Operand.tmp 3) 1, type := 0, pos := "law.go:163", after := #[{ on := 8, ground := Ground.guard }], guard := some (8, true) }) (v := (.pointer (some ⟨be, 1, none⟩))) rfl (by kernel_rfl) (by kernel_rfl) (by kernel_rfl) (fun _ _ _ h => h) (Or.inl ⟨by rfl, ?_⟩) hHeld ?_
          · rintro u ⟨h0, p0, p1, p2, q0, q1, q2⟩
            go_simp <;> first | rfl | kernel_rfl
          try simp only [Act.put, List.setIfInBounds_toArray, List.set_cons_zero, List.set_cons_succ]
          refine wpAnyH_take (i := 15) (oi := { dst := some 29, op := Op.load 22 (Operand.tmp 28), type := 22, pos := "law.go:163", after := #[{ on := 14, ground := Ground.data }, { on := 8, ground := Ground.guard }], guard := some (8, true) }) (v := (.int .u64 kb)) rfl (by kernel_rfl) (by kernel_rfl) (by kernel_rfl) (fun _ _ _ h => h) (Or.inl ⟨by rfl, ?_⟩) hHeld ?_
          · rintro u ⟨h0, p0, p1, p2, q0, q1, q2⟩
            go_simp <;> first | rfl | kernel_rfl
          try simp only [Act.put, List.setIfInBounds_toArray, List.set_cons_zero, List.set_cons_succ]
          refine wpAnyH_take (i := 16) (oi := { dst := some 30, op := Op.binOp BinOp.eql 22 (Operand.tmp 27) (Operand.tmp 29) 22, type := 4, pos := "law.go:163", after := #[{ on := 13, ground := Ground.data }, { on := 15, ground := Ground.data }, { on := 8, ground := Ground.guard }], guard := some (8, true) }) (v := (.bool false)) rfl (by kernel_rfl) (by kernel_rfl) (by kernel_rfl) (fun _ _ _ h => h) (Or.inl ⟨by rfl, ?_⟩) hHeld ?_
          · rintro u ⟨h0, p0, p1, p2, q0, q1, q2⟩
            go_simp <;> first | exact n1 | (simp [n1]) | rfl | kernel_rfl
          try simp only [Act.put, List.setIfInBounds_toArray, List.set_cons_zero, List.set_cons_succ]
          refine wpAnyH_take (i := 17) (oi := { dst := some 31, op := Op.pick (Operand.tmp 22) (Operand.tmp 30) (Operand.const (Value.bool false)), type := 4, pos := "law.go:163", after := #[{ on := 8, ground := Ground.data }, { on := 16, ground := Ground.data }], guard := none }) (v := (.bool false)) rfl (by kernel_rfl) (by kernel_rfl) (by kernel_rfl) (fun _ _ _ h => h) (Or.inl ⟨by rfl, ?_⟩) hHeld ?_
          · rintro u ⟨h0, p0, p1, p2, q0, q1, q2⟩
            go_simp <;> first | rfl | kernel_rfl
          try simp only [Act.put, List.setIfInBounds_toArray, List.set_cons_zero, List.set_cons_succ]
          refine wpAnyH_take (i := 18) (oi := { dst := some 32, op := Op.move (Operand.tmp 31), type := 4, pos := "law.go:163", after := #[{ on := 17, ground := Ground.data }, { on := 8, ground := Ground.chain }], guard := none }) (v := (.bool false)) rfl (by kernel_rfl) (by kernel_rfl) (by kernel_rfl) (fun _ _ _ h => h) (Or.inl ⟨by rfl, ?_⟩) hHeld ?_
          · rintro u ⟨h0, p0, p1, p2, q0, q1, q2⟩
            go_simp <;> first | rfl | kernel_rfl
          try simp only [Act.put, List.setIfInBounds_toArray, List.set_cons_zero, List.set_cons_succ]
          refine wpAnyH_take (i := 19) (oi := { dst := some 33, op := Op.move (Operand.tmp 0), type := 23, pos := "law.go:163", after := #[{ on := 18, ground := Ground.guard }], guard := some (18, true) }) (v := undef) rfl (by kernel_rfl) (by kernel_rfl) (by kernel_rfl) (fun _ _ _ h => h) (Or.inr ⟨by rfl, rfl⟩) hHeld ?_
          try simp only [Act.put, List.setIfInBounds_toArray, List.set_cons_zero, List.set_cons_succ]
          refine wpAnyH_take (i := 20) (oi := { dst := some 34, op := Op.move (Operand.tmp 7), type := 3, pos := "law.go:163", after := #[{ on := 18, ground := Ground.guard }], guard := some (18, true) }) (v := undef) rfl (by kernel_rfl) (by kernel_rfl) (by kernel_rfl) (fun _ _ _ h => h) (Or.inr ⟨by rfl, rfl⟩) hHeld ?_
          try simp only [Act.put, List.setIfInBounds_toArray, List.set_cons_zero, List.set_cons_succ]
          refine wpAnyH_take (i := 21) (oi := { dst := some 35, op := Op.indexAddr 23 (Operand.tmp 33) (Operand.tmp 34), type := 0, pos := "law.go:163", after := #[{ on := 19, ground := Ground.data }, { on := 20, ground := Ground.data }, { on := 18, ground := Ground.guard }], guard := some (18, true) }) (v := undef) rfl (by kernel_rfl) (by kernel_rfl) (by kernel_rfl) (fun _ _ _ h => h) (Or.inr ⟨by rfl, rfl⟩) hHeld ?_
          try simp only [Act.put, List.setIfInBounds_toArray, List.set_cons_zero, List.set_cons_succ]
          refine wpAnyH_take (i := 22) (oi := { dst := some 36, op := Op.fieldAddr 67 (Operand.tmp 35) 2, type := 0, pos := "law.go:163", after := #[{ on := 21, ground := Ground.data }, { on := 18, ground := Ground.guard }], guard := some (18, true) }) (v := undef) rfl (by kernel_rfl) (by kernel_rfl) (by kernel_rfl) (fun _ _ _ h => h) (Or.inr ⟨by rfl, rfl⟩) hHeld ?_
          try simp only [Act.put, List.setIfInBounds_toArray, List.set_cons_zero, List.set_cons_succ]
          refine wpAnyH_take (i := 23) (oi := { dst := some 37, op := Op.load 22 (Operand.tmp 36), type := 22, pos := "law.go:163", after := #[{ on := 22, ground := Ground.data }, { on := 18, ground := Ground.guard }], guard := some (18, true) }) (v := undef) rfl (by kernel_rfl) (by kernel_rfl) (by kernel_rfl) (fun _ _ _ h => h) (Or.inr ⟨by rfl, rfl⟩) hHeld ?_
          try simp only [Act.put, List.setIfInBounds_toArray, List.set_cons_zero, List.set_cons_succ]
          refine wpAnyH_take (i := 24) (oi := { dst := some 38, op := Op.fieldAddr 67 (Operand.tmp 3) 2, type := 0, pos := "law.go:163", after := #[{ on := 18, ground := Ground.guard }], guard := some (18, true) }) (v := undef) rfl (by kernel_rfl) (by kernel_rfl) (by kernel_rfl) (fun _ _ _ h => h) (Or.inr ⟨by rfl, rfl⟩) hHeld ?_
          try simp only [Act.put, List.setIfInBounds_toArray, List.set_cons_zero, List.set_cons_succ]
          refine wpAnyH_take (i := 25) (oi := { dst := some 39, op := Op.load 22 (Operand.tmp 38), type := 22, pos := "law.go:163", after := #[{ on := 24, ground := Ground.data }, { on := 18, ground := Ground.guard }], guard := some (18, true) }) (v := undef) rfl (by kernel_rfl) (by kernel_rfl) (by kernel_rfl) (fun _ _ _ h => h) (Or.inr ⟨by rfl, rfl⟩) hHeld ?_
          try simp only [Act.put, List.setIfInBounds_toArray, List.set_cons_zero, List.set_cons_succ]
          refine wpAnyH_take (i := 26) (oi := { dst := some 40, op := Op.binOp BinOp.eql 22 (Operand.tmp 37) (Operand.tmp 39) 22, type := 4, pos := "law.go:163", after := #[{ on := 23, ground := Ground.data }, { on := 25, ground := Ground.data }, { on := 18, ground := Ground.guard }], guard := some (18, true) }) (v := undef) rfl (by kernel_rfl) (by kernel_rfl) (by kernel_rfl) (fun _ _ _ h => h) (Or.inr ⟨by rfl, rfl⟩) hHeld ?_
          try simp only [Act.put, List.setIfInBounds_toArray, List.set_cons_zero, List.set_cons_succ]
          refine wpAnyH_take (i := 27) (oi := { dst := some 41, op := Op.pick (Operand.tmp 32) (Operand.tmp 40) (Operand.const (Value.bool false)), type := 4, pos := "law.go:163", after := #[{ on := 18, ground := Ground.data }, { on := 26, ground := Ground.data }], guard := none }) (v := (.bool false)) rfl (by kernel_rfl) (by kernel_rfl) (by kernel_rfl) (fun _ _ _ h => h) (Or.inl ⟨by rfl, ?_⟩) hHeld ?_
          · rintro u ⟨h0, p0, p1, p2, q0, q1, q2⟩
            go_simp <;> first | rfl | kernel_rfl
          try simp only [Act.put, List.setIfInBounds_toArray, List.set_cons_zero, List.set_cons_succ]
          have hHeldE := hHeld
          refine wpAnyH_done (by kernel_rfl) ?_ _
          clear hHeldE RX C0 C1 C2 C3 n1 c3
          go_wp2_with fail
          have hlt := HLT.out
          have hkx := HKX.out
          go_roundg (L.length - (i + 1))
          case measure => omega
          case rel => exact ⟨i + 1, _, by simp, rfl, by omega, by rw [HS2.out]; exact HO', HB', RX', by omega⟩
      · have n1 : (ya == ka) = false := beq_eq_false_iff_ne.2 h1
        have HS2 : Hid (ofKey (L.take (i + 1)) K = P) := by show _ = _; rw [HSN.out, if_neg (by rw [HK.out]; intro e; exact h1 (congrArg (fun q : Key => q.1) e))]
        clear HSN h1
        go_upto_region 5 with (fail)
        refine wp_region_held_drew (S := (fun u => (ab < u.heap.size ∧ u.cell? ⟨ab, ao + i * 4, none⟩ = some (.int .i64 ya) ∧ u.cell? ⟨ab, ao + i * 4 + 1, none⟩ = some (.int .u64 yb) ∧ u.cell? ⟨ab, ao + i * 4 + 2, none⟩ = some (.int .u64 yc) ∧ u.cell? ⟨be, 0, none⟩ = some (.int .i64 ka) ∧ u.cell? ⟨be, 1, none⟩ = some (.int .u64 kb) ∧ u.cell? ⟨be, 2, none⟩ = some (.int .u64 kc)))) (by kernel_rfl) ?_ (fun hHeld => ?_)
        · exact ⟨HAB.out, C0.out, C1.out, C2.out, RX.out.cell 0, RX.out.cell 1, RX.out.cell 2⟩
        refine wpAnyH_take (i := 0) (oi := { dst := some 14, op := Op.move (Operand.tmp 0), type := 23, pos := "law.go:163", after := #[], guard := none }) (v := (.slice (some ⟨ab, ao, none⟩) L.length cap)) rfl (by kernel_rfl) (by kernel_rfl) (by kernel_rfl) (fun _ _ _ h => h) (Or.inl ⟨by rfl, ?_⟩) hHeld ?_
        · rintro u ⟨h0, p0, p1, p2, q0, q1, q2⟩
          go_simp <;> first | rfl | kernel_rfl
        try simp only [Act.put, List.setIfInBounds_toArray, List.set_cons_zero, List.set_cons_succ]
        refine wpAnyH_take (i := 1) (oi := { dst := some 15, op := Op.move (Operand.tmp 7), type := 3, pos := "law.go:163", after := #[], guard := none }) (v := (.int .i64 (i : Int))) rfl (by kernel_rfl) (by kernel_rfl) (by kernel_rfl) (fun _ _ _ h => h) (Or.inl ⟨by rfl, ?_⟩) hHeld ?_
        · rintro u ⟨h0, p0, p1, p2, q0, q1, q2⟩
          go_simp <;> first | rfl | kernel_rfl
        try simp only [Act.put, List.setIfInBounds_toArray, List.set_cons_zero, List.set_cons_succ]
        refine wpAnyH_take (i := 2) (oi := { dst := some 16, op := Op.indexAddr 23 (Operand.tmp 14) (Operand.tmp 15), type := 0, pos := "law.go:163", after := #[{ on := 0, ground := Ground.data }, { on := 1, ground := Ground.data }], guard := none }) (v := (.pointer (some ⟨ab, ao + i * 4, none⟩))) rfl (by kernel_rfl) (by kernel_rfl) (by kernel_rfl) (fun _ _ _ h => h) (Or.inl ⟨by rfl, ?_⟩) hHeld ?_
        · rintro u ⟨h0, p0, p1, p2, q0, q1, q2⟩
          go_simp <;> first | rfl | kernel_rfl
        try simp only [Act.put, List.setIfInBounds_toArray, List.set_cons_zero, List.set_cons_succ]
        refine wpAnyH_take (i := 3) (oi := { dst := some 17, op := Op.fieldAddr 67 (Operand.tmp 16) 0, type := 0, pos := "law.go:163", after := #[{ on := 2, ground := Ground.data }], guard := none }) (v := (.pointer (some ⟨ab, ao + i * 4, none⟩))) rfl (by kernel_rfl) (by kernel_rfl) (by kernel_rfl) (fun _ _ _ h => h) (Or.inl ⟨by rfl, ?_⟩) hHeld ?_
        · rintro u ⟨h0, p0, p1, p2, q0, q1, q2⟩
          go_simp <;> first | rfl | kernel_rfl
        try simp only [Act.put, List.setIfInBounds_toArray, List.set_cons_zero, List.set_cons_succ]
        refine wpAnyH_take (i := 4) (oi := { dst := some 18, op := Op.load 3 (Operand.tmp 17), type := 3, pos := "law.go:163", after := #[{ on := 3, ground := Ground.data }], guard := none }) (v := (.int .i64 ya)) rfl (by kernel_rfl) (by kernel_rfl) (by kernel_rfl) (fun _ _ _ h => h) (Or.inl ⟨by rfl, ?_⟩) hHeld ?_
        · rintro u ⟨h0, p0, p1, p2, q0, q1, q2⟩
          go_simp <;> first | rfl | kernel_rfl
        try simp only [Act.put, List.setIfInBounds_toArray, List.set_cons_zero, List.set_cons_succ]
        refine wpAnyH_take (i := 5) (oi := { dst := some 19, op := Op.fieldAddr 67 (Operand.tmp 3) 0, type := 0, pos := "law.go:163", after := #[], guard := none }) (v := (.pointer (some ⟨be, 0, none⟩))) rfl (by kernel_rfl) (by kernel_rfl) (by kernel_rfl) (fun _ _ _ h => h) (Or.inl ⟨by rfl, ?_⟩) hHeld ?_
        · rintro u ⟨h0, p0, p1, p2, q0, q1, q2⟩
          go_simp <;> first | rfl | kernel_rfl
        try simp only [Act.put, List.setIfInBounds_toArray, List.set_cons_zero, List.set_cons_succ]
        refine wpAnyH_take (i := 6) (oi := { dst := some 20, op := Op.load 3 (Operand.tmp 19), type := 3, pos := "law.go:163", after := #[{ on := 5, ground := Ground.data }], guard := none }) (v := (.int .i64 ka)) rfl (by kernel_rfl) (by kernel_rfl) (by kernel_rfl) (fun _ _ _ h => h) (Or.inl ⟨by rfl, ?_⟩) hHeld ?_
        · rintro u ⟨h0, p0, p1, p2, q0, q1, q2⟩
          go_simp <;> first | rfl | kernel_rfl
        try simp only [Act.put, List.setIfInBounds_toArray, List.set_cons_zero, List.set_cons_succ]
        refine wpAnyH_take (i := 7) (oi := { dst := some 21, op := Op.binOp BinOp.eql 3 (Operand.tmp 18) (Operand.tmp 20) 3, type := 4, pos := "law.go:163", after := #[{ on := 4, ground := Ground.data }, { on := 6, ground := Ground.data }], guard := none }) (v := (.bool false)) rfl (by kernel_rfl) (by kernel_rfl) (by kernel_rfl) (fun _ _ _ h => h) (Or.inl ⟨by rfl, ?_⟩) hHeld ?_
        · rintro u ⟨h0, p0, p1, p2, q0, q1, q2⟩
          go_simp <;> first | exact n1 | (simp [n1]) | rfl | kernel_rfl
        try simp only [Act.put, List.setIfInBounds_toArray, List.set_cons_zero, List.set_cons_succ]
        refine wpAnyH_take (i := 8) (oi := { dst := some 22, op := Op.move (Operand.tmp 21), type := 4, pos := "law.go:163", after := #[{ on := 7, ground := Ground.data }], guard := none }) (v := (.bool false)) rfl (by kernel_rfl) (by kernel_rfl) (by kernel_rfl) (fun _ _ _ h => h) (Or.inl ⟨by rfl, ?_⟩) hHeld ?_
        · rintro u ⟨h0, p0, p1, p2, q0, q1, q2⟩
          go_simp <;> first | rfl | kernel_rfl
        try simp only [Act.put, List.setIfInBounds_toArray, List.set_cons_zero, List.set_cons_succ]
        refine wpAnyH_take (i := 9) (oi := { dst := some 23, op := Op.move (Operand.tmp 0), type := 23, pos := "law.go:163", after := #[{ on := 8, ground := Ground.guard }], guard := some (8, true) }) (v := undef) rfl (by kernel_rfl) (by kernel_rfl) (by kernel_rfl) (fun _ _ _ h => h) (Or.inr ⟨by rfl, rfl⟩) hHeld ?_
        try simp only [Act.put, List.setIfInBounds_toArray, List.set_cons_zero, List.set_cons_succ]
        refine wpAnyH_take (i := 10) (oi := { dst := some 24, op := Op.move (Operand.tmp 7), type := 3, pos := "law.go:163", after := #[{ on := 8, ground := Ground.guard }], guard := some (8, true) }) (v := undef) rfl (by kernel_rfl) (by kernel_rfl) (by kernel_rfl) (fun _ _ _ h => h) (Or.inr ⟨by rfl, rfl⟩) hHeld ?_
        try simp only [Act.put, List.setIfInBounds_toArray, List.set_cons_zero, List.set_cons_succ]
        refine wpAnyH_take (i := 11) (oi := { dst := some 25, op := Op.indexAddr 23 (Operand.tmp 23) (Operand.tmp 24), type := 0, pos := "law.go:163", after := #[{ on := 9, ground := Ground.data }, { on := 10, ground := Ground.data }, { on := 8, ground := Ground.guard }], guard := some (8, true) }) (v := undef) rfl (by kernel_rfl) (by kernel_rfl) (by kernel_rfl) (fun _ _ _ h => h) (Or.inr ⟨by rfl, rfl⟩) hHeld ?_
        try simp only [Act.put, List.setIfInBounds_toArray, List.set_cons_zero, List.set_cons_succ]
        refine wpAnyH_take (i := 12) (oi := { dst := some 26, op := Op.fieldAddr 67 (Operand.tmp 25) 1, type := 0, pos := "law.go:163", after := #[{ on := 11, ground := Ground.data }, { on := 8, ground := Ground.guard }], guard := some (8, true) }) (v := undef) rfl (by kernel_rfl) (by kernel_rfl) (by kernel_rfl) (fun _ _ _ h => h) (Or.inr ⟨by rfl, rfl⟩) hHeld ?_
        try simp only [Act.put, List.setIfInBounds_toArray, List.set_cons_zero, List.set_cons_succ]
        refine wpAnyH_take (i := 13) (oi := { dst := some 27, op := Op.load 22 (Operand.tmp 26), type := 22, pos := "law.go:163", after := #[{ on := 12, ground := Ground.data }, { on := 8, ground := Ground.guard }], guard := some (8, true) }) (v := undef) rfl (by kernel_rfl) (by kernel_rfl) (by kernel_rfl) (fun _ _ _ h => h) (Or.inr ⟨by rfl, rfl⟩) hHeld ?_
        try simp only [Act.put, List.setIfInBounds_toArray, List.set_cons_zero, List.set_cons_succ]
        refine wpAnyH_take (i := 14) (oi := { dst := some 28, op := Op.fieldAddr 67 (Operand.tmp 3) 1, type := 0, pos := "law.go:163", after := #[{ on := 8, ground := Ground.guard }], guard := some (8, true) }) (v := undef) rfl (by kernel_rfl) (by kernel_rfl) (by kernel_rfl) (fun _ _ _ h => h) (Or.inr ⟨by rfl, rfl⟩) hHeld ?_
        try simp only [Act.put, List.setIfInBounds_toArray, List.set_cons_zero, List.set_cons_succ]
        refine wpAnyH_take (i := 15) (oi := { dst := some 29, op := Op.load 22 (Operand.tmp 28), type := 22, pos := "law.go:163", after := #[{ on := 14, ground := Ground.data }, { on := 8, ground := Ground.guard }], guard := some (8, true) }) (v := undef) rfl (by kernel_rfl) (by kernel_rfl) (by kernel_rfl) (fun _ _ _ h => h) (Or.inr ⟨by rfl, rfl⟩) hHeld ?_
        try simp only [Act.put, List.setIfInBounds_toArray, List.set_cons_zero, List.set_cons_succ]
        refine wpAnyH_take (i := 16) (oi := { dst := some 30, op := Op.binOp BinOp.eql 22 (Operand.tmp 27) (Operand.tmp 29) 22, type := 4, pos := "law.go:163", after := #[{ on := 13, ground := Ground.data }, { on := 15, ground := Ground.data }, { on := 8, ground := Ground.guard }], guard := some (8, true) }) (v := undef) rfl (by kernel_rfl) (by kernel_rfl) (by kernel_rfl) (fun _ _ _ h => h) (Or.inr ⟨by rfl, rfl⟩) hHeld ?_
        try simp only [Act.put, List.setIfInBounds_toArray, List.set_cons_zero, List.set_cons_succ]
        refine wpAnyH_take (i := 17) (oi := { dst := some 31, op := Op.pick (Operand.tmp 22) (Operand.tmp 30) (Operand.const (Value.bool false)), type := 4, pos := "law.go:163", after := #[{ on := 8, ground := Ground.data }, { on := 16, ground := Ground.data }], guard := none }) (v := (.bool false)) rfl (by kernel_rfl) (by kernel_rfl) (by kernel_rfl) (fun _ _ _ h => h) (Or.inl ⟨by rfl, ?_⟩) hHeld ?_
        · rintro u ⟨h0, p0, p1, p2, q0, q1, q2⟩
          go_simp <;> first | rfl | kernel_rfl
        try simp only [Act.put, List.setIfInBounds_toArray, List.set_cons_zero, List.set_cons_succ]
        refine wpAnyH_take (i := 18) (oi := { dst := some 32, op := Op.move (Operand.tmp 31), type := 4, pos := "law.go:163", after := #[{ on := 17, ground := Ground.data }, { on := 8, ground := Ground.chain }], guard := none }) (v := (.bool false)) rfl (by kernel_rfl) (by kernel_rfl) (by kernel_rfl) (fun _ _ _ h => h) (Or.inl ⟨by rfl, ?_⟩) hHeld ?_
        · rintro u ⟨h0, p0, p1, p2, q0, q1, q2⟩
          go_simp <;> first | rfl | kernel_rfl
        try simp only [Act.put, List.setIfInBounds_toArray, List.set_cons_zero, List.set_cons_succ]
        refine wpAnyH_take (i := 19) (oi := { dst := some 33, op := Op.move (Operand.tmp 0), type := 23, pos := "law.go:163", after := #[{ on := 18, ground := Ground.guard }], guard := some (18, true) }) (v := undef) rfl (by kernel_rfl) (by kernel_rfl) (by kernel_rfl) (fun _ _ _ h => h) (Or.inr ⟨by rfl, rfl⟩) hHeld ?_
        try simp only [Act.put, List.setIfInBounds_toArray, List.set_cons_zero, List.set_cons_succ]
        refine wpAnyH_take (i := 20) (oi := { dst := some 34, op := Op.move (Operand.tmp 7), type := 3, pos := "law.go:163", after := #[{ on := 18, ground := Ground.guard }], guard := some (18, true) }) (v := undef) rfl (by kernel_rfl) (by kernel_rfl) (by kernel_rfl) (fun _ _ _ h => h) (Or.inr ⟨by rfl, rfl⟩) hHeld ?_
        try simp only [Act.put, List.setIfInBounds_toArray, List.set_cons_zero, List.set_cons_succ]
        refine wpAnyH_take (i := 21) (oi := { dst := some 35, op := Op.indexAddr 23 (Operand.tmp 33) (Operand.tmp 34), type := 0, pos := "law.go:163", after := #[{ on := 19, ground := Ground.data }, { on := 20, ground := Ground.data }, { on := 18, ground := Ground.guard }], guard := some (18, true) }) (v := undef) rfl (by kernel_rfl) (by kernel_rfl) (by kernel_rfl) (fun _ _ _ h => h) (Or.inr ⟨by rfl, rfl⟩) hHeld ?_
        try simp only [Act.put, List.setIfInBounds_toArray, List.set_cons_zero, List.set_cons_succ]
        refine wpAnyH_take (i := 22) (oi := { dst := some 36, op := Op.fieldAddr 67 (Operand.tmp 35) 2, type := 0, pos := "law.go:163", after := #[{ on := 21, ground := Ground.data }, { on := 18, ground := Ground.guard }], guard := some (18, true) }) (v := undef) rfl (by kernel_rfl) (by kernel_rfl) (by kernel_rfl) (fun _ _ _ h => h) (Or.inr ⟨by rfl, rfl⟩) hHeld ?_
        try simp only [Act.put, List.setIfInBounds_toArray, List.set_cons_zero, List.set_cons_succ]
        refine wpAnyH_take (i := 23) (oi := { dst := some 37, op := Op.load 22 (Operand.tmp 36), type := 22, pos := "law.go:163", after := #[{ on := 22, ground := Ground.data }, { on := 18, ground := Ground.guard }], guard := some (18, true) }) (v := undef) rfl (by kernel_rfl) (by kernel_rfl) (by kernel_rfl) (fun _ _ _ h => h) (Or.inr ⟨by rfl, rfl⟩) hHeld ?_
        try simp only [Act.put, List.setIfInBounds_toArray, List.set_cons_zero, List.set_cons_succ]
        refine wpAnyH_take (i := 24) (oi := { dst := some 38, op := Op.fieldAddr 67 (Operand.tmp 3) 2, type := 0, pos := "law.go:163", after := #[{ on := 18, ground := Ground.guard }], guard := some (18, true) }) (v := undef) rfl (by kernel_rfl) (by kernel_rfl) (by kernel_rfl) (fun _ _ _ h => h) (Or.inr ⟨by rfl, rfl⟩) hHeld ?_
        try simp only [Act.put, List.setIfInBounds_toArray, List.set_cons_zero, List.set_cons_succ]
        refine wpAnyH_take (i := 25) (oi := { dst := some 39, op := Op.load 22 (Operand.tmp 38), type := 22, pos := "law.go:163", after := #[{ on := 24, ground := Ground.data }, { on := 18, ground := Ground.guard }], guard := some (18, true) }) (v := undef) rfl (by kernel_rfl) (by kernel_rfl) (by kernel_rfl) (fun _ _ _ h => h) (Or.inr ⟨by rfl, rfl⟩) hHeld ?_
        try simp only [Act.put, List.setIfInBounds_toArray, List.set_cons_zero, List.set_cons_succ]
        refine wpAnyH_take (i := 26) (oi := { dst := some 40, op := Op.binOp BinOp.eql 22 (Operand.tmp 37) (Operand.tmp 39) 22, type := 4, pos := "law.go:163", after := #[{ on := 23, ground := Ground.data }, { on := 25, ground := Ground.data }, { on := 18, ground := Ground.guard }], guard := some (18, true) }) (v := undef) rfl (by kernel_rfl) (by kernel_rfl) (by kernel_rfl) (fun _ _ _ h => h) (Or.inr ⟨by rfl, rfl⟩) hHeld ?_
        try simp only [Act.put, List.setIfInBounds_toArray, List.set_cons_zero, List.set_cons_succ]
        refine wpAnyH_take (i := 27) (oi := { dst := some 41, op := Op.pick (Operand.tmp 32) (Operand.tmp 40) (Operand.const (Value.bool false)), type := 4, pos := "law.go:163", after := #[{ on := 18, ground := Ground.data }, { on := 26, ground := Ground.data }], guard := none }) (v := (.bool false)) rfl (by kernel_rfl) (by kernel_rfl) (by kernel_rfl) (fun _ _ _ h => h) (Or.inl ⟨by rfl, ?_⟩) hHeld ?_
        · rintro u ⟨h0, p0, p1, p2, q0, q1, q2⟩
          go_simp <;> first | rfl | kernel_rfl
        try simp only [Act.put, List.setIfInBounds_toArray, List.set_cons_zero, List.set_cons_succ]
        have hHeldE := hHeld
        refine wpAnyH_done (by kernel_rfl) ?_ _
        clear hHeldE RX C0 C1 C2 C3 n1 c3
        go_wp2_with fail
        have hlt := HLT.out
        have hkx := HKX.out
        go_roundg (L.length - (i + 1))
        case measure => omega
        case rel => exact ⟨i + 1, _, by simp, rfl, by omega, by rw [HS2.out]; exact HO', HB', RX', by omega⟩
    · obtain rfl : i = L.length := by omega
      rw [List.take_length] at HO ⊢
      clear hkx hlt hi9
      have KS := Lib.hid (sum_any (ofKey L K) _ _ wr HO.out (fun n hn => by obtain ⟨x, hx, _, rfl⟩ := ofKey_mem hn; exact HI.out x hx) (by have := ofKey_len L K; have := HL.out; omega))
      have hsum : (ofKey L K).sum = ksum L K := rfl
      rw [hsum] at KS
      unfold Told at KS
      go_wp2_with fail
      refine KS.out.mono ?_
      rintro _ W2 ⟨rfl, hb2⟩
      have HB2 : Hid (Below w.heap.size w W2) := by
        have h1 := HB.out
        rw [HBE.out] at h1
        exact h1.trans (hb2.mono h1.size)
      clear hb2 KS HO HB
      go_wp2_with fail
      refine bodyPost_ret (v := .tuple #[.int .i64 (Ar.val (ksum L K)), .bool (Ar.ok (ksum L K))]) (by simp [results, Try.results30, go_sem]) rfl ?_
      exact ⟨rfl, HB2.out⟩
end
end Go.Proofs.Ytnblilonjpfdnaa.Jn
