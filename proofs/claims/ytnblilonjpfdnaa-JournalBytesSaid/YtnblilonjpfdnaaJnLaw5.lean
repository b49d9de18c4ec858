/- The statement of journal on checks, totals and turning. -/
import Derived.Test.YtnblilonjpfdnaaJnLaw1
import Derived.Test.YtnblilonjpfdnaaJnOpen2
import Derived.Test.YtnblilonjpfdnaaJnRef2
import Derived.Test.YtnblilonjpfdnaaJnRef3
namespace Go.Proofs.Ytnblilonjpfdnaa.Jn
open Go Go.RowKit Ck
abbrev TAsk : TypeId := 28
/-- What Reverse says. -/
def revM (d k s : Int) (L : List Ln) (day : Int) : (Int × Int × Int) × List Ln × Int := if chkM d k L ≠ 0 then ((0, 0, 0), [], chkM d k L) else if dayB day = false then ((0, 0, 0), [], 2) else ((day, k, s), L.map Ln.neg, 0)
theorem revM_len (d k s : Int) (L : List Ln) (day : Int) : (revM d k s L day).2.1.length ≤ L.length := by
  unfold revM
  split
  · simp
  · split
    · simp
    · simp
theorem rev_form {d k s : Int} {L : List Ln} {day : Int} {w w' : World} {e : Ending} (h : RevRes d k s L day w e w') : ∃ a cap, e = .returned (.tuple #[.agg #[.int .i64 (revM d k s L day).1.1, .int .u8 (revM d k s L day).1.2.1, .int .u64 (revM d k s L day).1.2.2, .slice a (List.length (revM d k s L day).2.1) cap], .int .i64 (revM d k s L day).2.2]) ∧ Lns w' a (revM d k s L day).2.1 ∧ Below w.heap.size w w' := by
  obtain ⟨hb, ⟨h1, he⟩ | ⟨h1, h2, he⟩ | ⟨h1, h2, v, he, ho⟩⟩ := h
  · have e1 : revM d k s L day = ((0, 0, 0), [], chkM d k L) := by unfold revM; rw [if_pos h1]
    rw [e1]
    exact ⟨none, 0, he, fun j hj => absurd hj (by simp), hb⟩
  · have e1 : revM d k s L day = ((0, 0, 0), [], 2) := by unfold revM; rw [if_neg (by rw [h1]; simp), if_pos h2]
    rw [e1]
    exact ⟨none, 0, he, fun j hj => absurd hj (by simp), hb⟩
  · have e1 : revM d k s L day = ((day, k, s), L.map Ln.neg, 0) := by unfold revM; rw [if_neg (by rw [h1]; simp), if_neg (by rw [h2]; simp)]
    rw [e1]
    have hl : L.length = (L.map Ln.neg).length := by rw [List.length_map]
    rw [hl] at ho
    obtain ⟨a, cap, rfl, h3, _⟩ := lns_own ho
    exact ⟨a, cap, he, h3, hb⟩
section
set_option maxRecDepth 100000
set_option maxHeartbeats 6400000
theorem checks_law (d k s : Int) (L : List Ln) (a : Option Addr) (cap : Nat) (A : List Ch.A5) (ma : Option Addr) (mc : Nat) (sh : Bool) (day : Int) (w : World) (h : EnF w d k s L a cap) (hA : Ch.Acs w ma A) (hAl : A.length ≤ maxLen) (hAf : ∀ x ∈ A, Ch.A5.Fits x) (hday : I64 day) : Calls Try.prog 3 #[.agg #[.int .i64 d, .int .u8 k, .int .u64 s, .slice a L.length cap, .slice ma A.length mc, .bool sh, .int .i64 day]] w fun e w' => e = .returned (.bool true) ∧ Below w.heap.size w w' := by
  have KH := Lib.hid head_c
  have HB0 : Hid (Below w.heap.size w (w.alloc (.cells #[.int .i64 d, .int .u8 k, .int .u64 s, .slice a L.length cap, .slice ma A.length mc, .bool sh, .int .i64 day] TAsk))) := (Below.refl _ w).alloc (Nat.le_refl _) _
  have RX0 : Hid (Rw (w.alloc (.cells #[.int .i64 d, .int .u8 k, .int .u64 s, .slice a L.length cap, .slice ma A.length mc, .bool sh, .int .i64 day] TAsk)) w.heap.size TAsk [.int .i64 d, .int .u8 k, .int .u64 s, .slice a L.length cap, .slice ma A.length mc, .bool sh, .int .i64 day]) := Rw.new w [.int .i64 d, .int .u8 k, .int .u64 s, .slice a L.length cap, .slice ma A.length mc, .bool sh, .int .i64 day] TAsk
  have H := Lib.hid h.l.1
  have HA := Lib.hid hA
  have HAF := Lib.hid hAf
  have hl9 : (L.length : Int) ≤ 9223372036854775807 := by have := h.n; unfold maxLen at this; omega
  have ha9 : (A.length : Int) ≤ 9223372036854775807 := by unfold maxLen at hAl; omega
  have HINF := Lib.hid infoEn
  clear h hA hAl hAf hday
  go_enter Try.func3, Try.ntmps3
  go_upto_region 1 with (fail)
  obtain ⟨bx, hbx⟩ : ∃ bx, bx = w.heap.size := ⟨_, rfl⟩
  have HBX := Lib.hid hbx
  rw [← hbx] at RX0 ⊢
  clear hbx
  generalize w.alloc (.cells #[.int .i64 d, .int .u8 k, .int .u64 s, .slice a L.length cap, .slice ma A.length mc, .bool sh, .int .i64 day] TAsk) = W1 at HB0 RX0 ⊢
  refine wp_region_held_drew (S := (fun u => (u.cell? ⟨bx, 0, none⟩ = some (.int .i64 d) ∧ u.cell? ⟨bx, 1, none⟩ = some (.int .u8 k) ∧ u.cell? ⟨bx, 2, none⟩ = some (.int .u64 s) ∧ u.cell? ⟨bx, 3, none⟩ = some (.slice a L.length cap) ∧ u.cell? ⟨bx, 4, none⟩ = some (.slice ma A.length mc) ∧ u.cell? ⟨bx, 5, none⟩ = some (.bool sh) ∧ u.cell? ⟨bx, 6, none⟩ = some (.int .i64 day)))) (by kernel_rfl) ?_ (fun hHeld => ?_)
  · have RD := Lib.hid (RX0.out.later (Below.refl _ W1).drew)
    exact ⟨RD.out.cell 0, RD.out.cell 1, RD.out.cell 2, RD.out.cell 3, RD.out.cell 4, RD.out.cell 5, RD.out.cell 6⟩
  refine wpAnyH_take (i := 0) (oi := { dst := some 17, op := Op.fieldAddr 28 (Operand.tmp 1) 0, type := 0, pos := "law.go:48", after := #[], guard := none }) (v := (.pointer (some ⟨bx, 0, none⟩))) rfl (by kernel_rfl) (by kernel_rfl) (by kernel_rfl) (fun _ _ _ h => h) (Or.inl ⟨by rfl, ?_⟩) hHeld ?_
  · rintro u ⟨x0, x1, x2, x3, x4, x5, x6⟩
    go_simp <;> first | rfl | kernel_rfl
  try simp only [Act.put, List.setIfInBounds_toArray, List.set_cons_zero, List.set_cons_succ]
  refine wpAnyH_take (i := 1) (oi := { dst := some 18, op := Op.load 25 (Operand.tmp 17), type := 25, pos := "law.go:48", after := #[{ on := 0, ground := Ground.data }], guard := none }) (v := (.agg #[.int .i64 d, .int .u8 k, .int .u64 s, .slice a L.length cap])) rfl (by kernel_rfl) (by kernel_rfl) (by kernel_rfl) (fun _ _ _ h => h) (Or.inl ⟨by rfl, ?_⟩) hHeld ?_
  · rintro u ⟨x0, x1, x2, x3, x4, x5, x6⟩
    go_simp <;> first | rfl | kernel_rfl
  try simp only [Act.put, List.setIfInBounds_toArray, List.set_cons_zero, List.set_cons_succ]
  refine wpAnyH_take (i := 2) (oi := { dst := some 19, op := Op.fieldAddr 28 (Operand.tmp 1) 1, type := 0, pos := "law.go:48", after := #[{ on := 7, ground := Ground.gcOnly Departure.lateStores }], guard := none }) (v := (.pointer (some ⟨bx, 4, none⟩))) rfl (by kernel_rfl) (by kernel_rfl) (by kernel_rfl) (fun _ _ _ h => h) (Or.inl ⟨by rfl, ?_⟩) hHeld ?_
  · rintro u ⟨x0, x1, x2, x3, x4, x5, x6⟩
    go_simp <;> first | rfl | kernel_rfl
  try simp only [Act.put, List.setIfInBounds_toArray, List.set_cons_zero, List.set_cons_succ]
  refine wpAnyH_take (i := 3) (oi := { dst := some 20, op := Op.load 26 (Operand.tmp 19), type := 26, pos := "law.go:48", after := #[{ on := 2, ground := Ground.data }, { on := 7, ground := Ground.gcOnly Departure.lateStores }], guard := none }) (v := (.slice ma A.length mc)) rfl (by kernel_rfl) (by kernel_rfl) (by kernel_rfl) (fun _ _ _ h => h) (Or.inl ⟨by rfl, ?_⟩) hHeld ?_
  · rintro u ⟨x0, x1, x2, x3, x4, x5, x6⟩
    go_simp <;> first | rfl | kernel_rfl
  try simp only [Act.put, List.setIfInBounds_toArray, List.set_cons_zero, List.set_cons_succ]
  refine wpAnyH_take (i := 4) (oi := { dst := some 21, op := Op.fieldAddr 28 (Operand.tmp 1) 3, type := 0, pos := "law.go:48", after := #[{ on := 8, ground := Ground.gcOnly Departure.lateStores }], guard := none }) (v := (.pointer (some ⟨bx, 6, none⟩))) rfl (by kernel_rfl) (by kernel_rfl) (by kernel_rfl) (fun _ _ _ h => h) (Or.inl ⟨by rfl, ?_⟩) hHeld ?_
  · rintro u ⟨x0, x1, x2, x3, x4, x5, x6⟩
    go_simp <;> first | rfl | kernel_rfl
  try simp only [Act.put, List.setIfInBounds_toArray, List.set_cons_zero, List.set_cons_succ]
  refine wpAnyH_take (i := 5) (oi := { dst := some 22, op := Op.load 3 (Operand.tmp 21), type := 3, pos := "law.go:48", after := #[{ on := 4, ground := Ground.data }, { on := 8, ground := Ground.gcOnly Departure.lateStores }], guard := none }) (v := (.int .i64 day)) rfl (by kernel_rfl) (by kernel_rfl) (by kernel_rfl) (fun _ _ _ h => h) (Or.inl ⟨by rfl, ?_⟩) hHeld ?_
  · rintro u ⟨x0, x1, x2, x3, x4, x5, x6⟩
    go_simp <;> first | rfl | kernel_rfl
  try simp only [Act.put, List.setIfInBounds_toArray, List.set_cons_zero, List.set_cons_succ]
  refine wpAnyH_ready (rs := [6]) (by kernel_rfl) (by simp) ?_
  refine AllReadyH.cons (o := { dst := some 3, op := Op.alloc 25, type := 0, pos := "law.go:48", after := #[], guard := none }) rfl (fun Kq hKq => ?_) AllReadyH.nil
  go_simp
  have B1 : Below W1.heap.size W1 ((W1.alloc (.cells #[.int .i64 0, .int .u8 0, .int .u64 0, .slice none 0 0] TEn)).drew) := ((Below.refl _ W1).alloc (Nat.le_refl _) _).drew
  have HB1 : Hid (Below w.heap.size w ((W1.alloc (.cells #[.int .i64 0, .int .u8 0, .int .u64 0, .slice none 0 0] TEn)).drew)) := HB0.out.trans (B1.mono HB0.out.size)
  have RX1 := Lib.hid (RX0.out.later B1)
  have RZ1 : Hid (Rw ((W1.alloc (.cells #[.int .i64 0, .int .u8 0, .int .u64 0, .slice none 0 0] TEn)).drew) W1.heap.size TEn [.int .i64 0, .int .u8 0, .int .u64 0, .slice none 0 0]) := (Rw.new W1 [.int .i64 0, .int .u8 0, .int .u64 0, .slice none 0 0] TEn).later (Below.refl _ _).drew
  have HBW : Hid (bx < W1.heap.size) := RX0.out.lt
  refine hKq.out _ _ (⟨RX1.out.cell 0, RX1.out.cell 1, RX1.out.cell 2, RX1.out.cell 3, RX1.out.cell 4, RX1.out.cell 5, RX1.out.cell 6⟩) (fun hHeld6 => ?_)
  clear hKq Kq
  try simp only [Act.put, List.setIfInBounds_toArray, List.set_cons_zero, List.set_cons_succ]
  obtain ⟨be, hbe⟩ : ∃ be, be = W1.heap.size := ⟨_, rfl⟩
  rw [← hbe] at RZ1 HBW ⊢
  generalize (W1.alloc (.cells #[.int .i64 0, .int .u8 0, .int .u64 0, .slice none 0 0] TEn)).drew = V1 at HB1 RX1 RZ1 hHeld6 ⊢
  clear B1 hbe HB0 RX0
  have kp : Keeps (fun j => j = be) V1 (V1.setCells be 0 #[.int .i64 d, .int .u8 k, .int .u64 s, .slice a L.length cap].toList) := (Keeps.refl (fun j => j = be) _).setCells be 0 _ (.inl rfl)
  have RE2 : Hid (Rw (V1.setCells be 0 #[.int .i64 d, .int .u8 k, .int .u64 s, .slice a L.length cap].toList) be TEn [.int .i64 d, .int .u8 k, .int .u64 s, .slice a L.length cap]) := RZ1.out.setCells (cs := [.int .i64 d, .int .u8 k, .int .u64 s, .slice a L.length cap]) 0 (by simp)
  have HB2 : Hid (Below w.heap.size w (V1.setCells be 0 #[.int .i64 d, .int .u8 k, .int .u64 s, .slice a L.length cap].toList)) := Keeps.belowT HB1.out kp (fun j hj => by rw [hj, ← HBX.out]; exact Nat.le_of_lt HBW.out) HB1.out.size
  have RX2 := Lib.hid (RX1.out.keeps kp (by have := HBW.out; omega))
  refine wpAnyH_ready (rs := [7]) (by kernel_rfl) (by simp) ?_
  refine AllReadyH.cons (o := { dst := none, op := Op.store 25 (Operand.tmp 3) (Operand.tmp 18), type := 0, pos := "law.go:48", after := #[{ on := 6, ground := Ground.data }, { on := 1, ground := Ground.data }, { on := 0, ground := Ground.phase }, { on := 1, ground := Ground.phase }, { on := 2, ground := Ground.textOnly Departure.lateStores }, { on := 3, ground := Ground.textOnly Departure.lateStores }, { on := 4, ground := Ground.textOnly Departure.lateStores }, { on := 5, ground := Ground.textOnly Departure.lateStores }, { on := 6, ground := Ground.phase }], guard := none }) rfl (fun Kq hKq => ?_) AllReadyH.nil
  rw [if_pos (by rfl)]
  refine wp_store_mid TEn (.tmp 3) (.tmp 18) rfl be 0 #[.int .i64 d, .int .u8 k, .int .u64 s, .slice a L.length cap] (by rfl) (by rfl) (RZ1.out.there 0 4 (by simp)) (by simpa using HINF.out) (by simp [Value.oneCell']) ?_
  refine hKq.out _ _ ⟨RX2.out.cell 0, RX2.out.cell 1, RX2.out.cell 2, RX2.out.cell 3, RX2.out.cell 4, RX2.out.cell 5, RX2.out.cell 6⟩ (fun hHeld7 => ?_)
  clear hKq Kq kp RZ1 HB1 RX1
  try simp only [Act.put, List.setIfInBounds_toArray, List.set_cons_zero, List.set_cons_succ]
  generalize V1.setCells be 0 #[.int .i64 d, .int .u8 k, .int .u64 s, .slice a L.length cap].toList = W2 at RE2 HB2 RX2 hHeld7 ⊢
  refine wpAnyH_take (i := 8) (oi := { dst := some 4, op := Op.assign (Operand.tmp 20), type := 26, pos := "law.go:48", after := #[{ on := 3, ground := Ground.data }, { on := 7, ground := Ground.chain }, { on := 0, ground := Ground.phase }, { on := 1, ground := Ground.phase }, { on := 2, ground := Ground.phase }, { on := 3, ground := Ground.phase }, { on := 4, ground := Ground.textOnly Departure.lateStores }, { on := 5, ground := Ground.textOnly Departure.lateStores }, { on := 6, ground := Ground.phase }, { on := 7, ground := Ground.phase }], guard := none }) (v := (.slice ma A.length mc)) rfl (by kernel_rfl) (by kernel_rfl) (by kernel_rfl) (fun _ _ _ h => h) (Or.inl ⟨by rfl, ?_⟩) hHeld7 ?_
  · rintro u ⟨x0, x1, x2, x3, x4, x5, x6⟩
    go_simp <;> first | rfl | kernel_rfl
  try simp only [Act.put, List.setIfInBounds_toArray, List.set_cons_zero, List.set_cons_succ]
  refine wpAnyH_take (i := 9) (oi := { dst := some 5, op := Op.assign (Operand.tmp 22), type := 3, pos := "law.go:48", after := #[{ on := 5, ground := Ground.data }, { on := 8, ground := Ground.chain }, { on := 0, ground := Ground.phase }, { on := 1, ground := Ground.phase }, { on := 2, ground := Ground.phase }, { on := 3, ground := Ground.phase }, { on := 4, ground := Ground.phase }, { on := 5, ground := Ground.phase }, { on := 6, ground := Ground.phase }, { on := 7, ground := Ground.phase }, { on := 8, ground := Ground.phase }], guard := none }) (v := (.int .i64 day)) rfl (by kernel_rfl) (by kernel_rfl) (by kernel_rfl) (fun _ _ _ h => h) (Or.inl ⟨by rfl, ?_⟩) hHeld7 ?_
  · rintro u ⟨x0, x1, x2, x3, x4, x5, x6⟩
    go_simp <;> first | rfl | kernel_rfl
  try simp only [Act.put, List.setIfInBounds_toArray, List.set_cons_zero, List.set_cons_succ]
  clear hHeld hHeld6 hHeld7
  refine wpAnyH_done (by kernel_rfl) ?_ _
  go_upto_region 2 with (fail)
  have e3 : W2.cell? ⟨be, 3, none⟩ = some (.slice a L.length cap) := RE2.out.cell 3
  by_cases hb1 : 100 < (L.length : Int)
  · go_wp2_with fail
    refine (KH.out _).mono ?_
    rintro _ w9 ⟨rfl, hb9⟩
    have HB9 : Hid (Below w.heap.size w w9) := HB2.out.trans (hb9.mono HB2.out.size)
    clear hb9
    go_wp2_with fail
    go_ret
    exact ⟨rfl, HB9.out⟩
  have HSM : Hid (L.length ≤ 100) := by show _ ≤ _; omega
  have hs1 : (L.length : Int) ≤ 100 := by omega
  clear hb1 hl9
  by_cases hb2 : 10 < (A.length : Int)
  · go_wp2_with fail
    refine (KH.out _).mono ?_
    rintro _ w9 ⟨rfl, hb9⟩
    have HB9 : Hid (Below w.heap.size w w9) := HB2.out.trans (hb9.mono HB2.out.size)
    clear hb9
    go_wp2_with fail
    go_ret
    exact ⟨rfl, HB9.out⟩
  have HAM : Hid (A.length ≤ 10) := by show _ ≤ _; omega
  have hs2 : (A.length : Int) ≤ 10 := by omega
  clear hb2 ha9
  have KST := Lib.hid (standard_c A ma mc W2 (HA.out.later HB2.out) HAF.out (by have := HAM.out; omega))
  go_wp2_with fail
  refine KST.out.mono ?_
  rintro _ W3 ⟨c, K, N, rfl, hct, hN, hlf⟩
  have HB3 : Hid (Below w.heap.size w W3) := HB2.out.trans (hlf.b.mono HB2.out.size)
  have RE3 := Lib.hid (RE2.out.later hlf.b)
  have RX3 := Lib.hid (RX2.out.later hlf.b)
  have HCT := Lib.hid hct
  have HN := Lib.hid hN
  have HZ : Hid (w.heap.size ≤ W2.heap.size ∧ W2.heap.size ≤ W3.heap.size) := ⟨HB2.out.size, hlf.b.size⟩
  have HBE : Hid (be < W2.heap.size) := RE2.out.lt
  clear hct hN hlf KST e3
  have x5 : W3.cell? ⟨bx, 5, none⟩ = some (.bool sh) := RX3.out.cell 5
  obtain ⟨M, hM⟩ : ∃ M, M = stdM A := ⟨_, rfl⟩
  rw [← hM] at HCT
  clear hM
  cases sh with
  | false =>
    go_upto_region 7 with (fail)
    clear x5 RX3 HZ hs1 hs2
    have HCT3 : Hid (Ch.Ct W2.heap.size W3 c M K N) := HCT.out
    clear HCT HN
    have e0 : W3.cell? ⟨be, 0, none⟩ = some (.int .i64 d) := RE3.out.cell 0
    have e1 : W3.cell? ⟨be, 1, none⟩ = some (.int .u8 k) := RE3.out.cell 1
    have e2 : W3.cell? ⟨be, 2, none⟩ = some (.int .u64 s) := RE3.out.cell 2
    have e3 : W3.cell? ⟨be, 3, none⟩ = some (.slice a L.length cap) := RE3.out.cell 3
    obtain ⟨T1, hT1⟩ : ∃ T1, T1 = (totM d k L).1 := ⟨_, rfl⟩
    obtain ⟨T2, hT2⟩ : ∃ T2, T2 = (totM d k L).2 := ⟨_, rfl⟩
    have KT1 := Lib.hid (totals_c d k s L a cap W3 (H.out.later HB3.out) (by have := HSM.out; omega))
    have KT2 : Hid (∀ u, Below w.heap.size w u → Calls Try.prog 13 #[.agg #[.int .i64 d, .int .u8 k, .int .u64 s, .slice a L.length cap]] u fun e w' => e = .returned (.tuple #[.int .i64 T1, .int .i64 T1, .int .i64 T2]) ∧ Below u.heap.size u w') := fun u hu => by
      rw [hT1, hT2]
      exact rtotals_c d k s L a cap u (H.out.later hu) (by have := HSM.out; omega)
    rw [← hT1, ← hT2] at KT1
    clear hT1 hT2
    go_wp2_with fail
    refine KT1.out.mono ?_
    rintro _ W5 ⟨rfl, hb5⟩
    have HB5 : Hid (Below w.heap.size w W5) := HB3.out.trans (hb5.mono HB3.out.size)
    have RE5 := Lib.hid (RE3.out.later hb5)
    have HCT5 := Lib.hid (HCT3.out.later hb5)
    clear e0 e1 e2 e3 KT1 hb5 HB3 RE3 HCT3
    have e0 : W5.cell? ⟨be, 0, none⟩ = some (.int .i64 d) := RE5.out.cell 0
    have e1 : W5.cell? ⟨be, 1, none⟩ = some (.int .u8 k) := RE5.out.cell 1
    have e2 : W5.cell? ⟨be, 2, none⟩ = some (.int .u64 s) := RE5.out.cell 2
    have e3 : W5.cell? ⟨be, 3, none⟩ = some (.slice a L.length cap) := RE5.out.cell 3
    go_wp2_with fail
    refine (KT2.out W5 HB5.out).mono ?_
    rintro _ W6 ⟨rfl, hb6⟩
    have HB6 : Hid (Below w.heap.size w W6) := HB5.out.trans (hb6.mono HB5.out.size)
    have RE6 := Lib.hid (RE5.out.later hb6)
    have HCT6 := Lib.hid (HCT5.out.later hb6)
    clear e0 e1 e2 e3 KT2 hb6 HB5 RE5 HCT5
    have e0 : W6.cell? ⟨be, 0, none⟩ = some (.int .i64 d) := RE6.out.cell 0
    have e1 : W6.cell? ⟨be, 1, none⟩ = some (.int .u8 k) := RE6.out.cell 1
    have e2 : W6.cell? ⟨be, 2, none⟩ = some (.int .u64 s) := RE6.out.cell 2
    have e3 : W6.cell? ⟨be, 3, none⟩ = some (.slice a L.length cap) := RE6.out.cell 3
    obtain ⟨D, hD⟩ : ∃ D, D = (revM d k s L day).1.1 := ⟨_, rfl⟩
    obtain ⟨K9, hK9⟩ : ∃ K9, K9 = (revM d k s L day).1.2.1 := ⟨_, rfl⟩
    obtain ⟨S9, hS9⟩ : ∃ S9, S9 = (revM d k s L day).1.2.2 := ⟨_, rfl⟩
    obtain ⟨R, hR⟩ : ∃ R, R = (revM d k s L day).2.1 := ⟨_, rfl⟩
    obtain ⟨z, hz⟩ : ∃ z, z = (revM d k s L day).2.2 := ⟨_, rfl⟩
    have HRL : Hid (R.length ≤ 100) := by show _ ≤ _; rw [hR]; exact Nat.le_trans (revM_len d k s L day) HSM.out
    have KR1 : Hid (∀ u, Below w.heap.size w u → Calls Try.prog 14 #[.agg #[.int .i64 d, .int .u8 k, .int .u64 s, .slice a L.length cap], .int .i64 day] u fun e w' => ∃ ra rc, e = .returned (.tuple #[.agg #[.int .i64 D, .int .u8 K9, .int .u64 S9, .slice ra R.length rc], .int .i64 z]) ∧ Lns w' ra R ∧ Below u.heap.size u w') := fun u hu => by
      refine (reverse_c d k s L a cap day u (H.out.later hu) (by have := HSM.out; omega)).mono ?_
      intro e w' he
      rw [hD, hK9, hS9, hR, hz]
      exact rev_form he
    have KR2 : Hid (∀ u, Below w.heap.size w u → Calls Try.prog 15 #[.agg #[.int .i64 d, .int .u8 k, .int .u64 s, .slice a L.length cap], .int .i64 day] u fun e w' => ∃ ra rc, e = .returned (.tuple #[.agg #[.int .i64 D, .int .u8 K9, .int .u64 S9, .slice ra R.length rc], .int .i64 z]) ∧ Lns w' ra R ∧ Below u.heap.size u w') := fun u hu => by
      refine (rreverse_c d k s L a cap day u (H.out.later hu) (by have := HSM.out; omega)).mono ?_
      intro e w' he
      rw [hD, hK9, hS9, hR, hz]
      exact rev_form he
    clear hD hK9 hS9 hR hz
    go_wp2_with fail
    refine (KR1.out W6 HB6.out).mono ?_
    rintro _ W7 ⟨ra, rc, rfl, hr7, hb7⟩
    have HB7 : Hid (Below w.heap.size w W7) := HB6.out.trans (hb7.mono HB6.out.size)
    have RE7 := Lib.hid (RE6.out.later hb7)
    have HCT7 := Lib.hid (HCT6.out.later hb7)
    have HR7 := Lib.hid hr7
    clear e0 e1 e2 e3 KR1 hb7 HB6 RE6 HCT6 hr7
    go_upto_region 10 with (fail)
    have bz : Below W7.heap.size W7 (W7.alloc (.cells #[.int .i64 D, .int .u8 K9, .int .u64 S9, .slice ra R.length rc] TEn)) := (Below.refl _ _).alloc (Nat.le_refl _) _
    have RA8 : Hid (Rw (W7.alloc (.cells #[.int .i64 D, .int .u8 K9, .int .u64 S9, .slice ra R.length rc] TEn)) W7.heap.size TEn [.int .i64 D, .int .u8 K9, .int .u64 S9, .slice ra R.length rc]) := Rw.new W7 [.int .i64 D, .int .u8 K9, .int .u64 S9, .slice ra R.length rc] TEn
    have HB8 : Hid (Below w.heap.size w (W7.alloc (.cells #[.int .i64 D, .int .u8 K9, .int .u64 S9, .slice ra R.length rc] TEn))) := HB7.out.trans (bz.mono HB7.out.size)
    have RE8 := Lib.hid (RE7.out.later bz)
    have HCT8 := Lib.hid (HCT7.out.later bz)
    have HR8 := Lib.hid (HR7.out.later bz)
    obtain ⟨br, hbr⟩ : ∃ br, br = W7.heap.size := ⟨_, rfl⟩
    rw [← hbr] at RA8 ⊢
    generalize W7.alloc (.cells #[.int .i64 D, .int .u8 K9, .int .u64 S9, .slice ra R.length rc] TEn) = W8 at RA8 HB8 RE8 HCT8 HR8 ⊢
    clear bz hbr HB7 RE7 HCT7 HR7
    have e0 : W8.cell? ⟨be, 0, none⟩ = some (.int .i64 d) := RE8.out.cell 0
    have e1 : W8.cell? ⟨be, 1, none⟩ = some (.int .u8 k) := RE8.out.cell 1
    have e2 : W8.cell? ⟨be, 2, none⟩ = some (.int .u64 s) := RE8.out.cell 2
    have e3 : W8.cell? ⟨be, 3, none⟩ = some (.slice a L.length cap) := RE8.out.cell 3
    go_wp2_with fail
    refine (KR2.out W8 HB8.out).mono ?_
    rintro _ W9 ⟨rb, rd, rfl, hs9, hb9⟩
    have HB9 : Hid (Below w.heap.size w W9) := HB8.out.trans (hb9.mono HB8.out.size)
    have RE9 := Lib.hid (RE8.out.later hb9)
    have HCT9 := Lib.hid (HCT8.out.later hb9)
    have HR9 := Lib.hid (HR8.out.later hb9)
    have RA9 := Lib.hid (RA8.out.later hb9)
    have HS9 := Lib.hid hs9
    clear e0 e1 e2 e3 KR2 hb9 HB8 RE8 HCT8 hs9 HR8 RA8
    go_upto_region 11 with (fail)
    have bz : Below W9.heap.size W9 (W9.alloc (.cells #[.int .i64 D, .int .u8 K9, .int .u64 S9, .slice rb R.length rd] TEn)) := (Below.refl _ _).alloc (Nat.le_refl _) _
    have RB0 : Hid (Rw (W9.alloc (.cells #[.int .i64 D, .int .u8 K9, .int .u64 S9, .slice rb R.length rd] TEn)) W9.heap.size TEn [.int .i64 D, .int .u8 K9, .int .u64 S9, .slice rb R.length rd]) := Rw.new W9 [.int .i64 D, .int .u8 K9, .int .u64 S9, .slice rb R.length rd] TEn
    have HBV : Hid (Below w.heap.size w (W9.alloc (.cells #[.int .i64 D, .int .u8 K9, .int .u64 S9, .slice rb R.length rd] TEn))) := HB9.out.trans (bz.mono HB9.out.size)
    have REV := Lib.hid (RE9.out.later bz)
    have HCTV := Lib.hid (HCT9.out.later bz)
    have HRV := Lib.hid (HR9.out.later bz)
    have HSV := Lib.hid (HS9.out.later bz)
    have RAV := Lib.hid (RA9.out.later bz)
    obtain ⟨bs9, hbr⟩ : ∃ br, br = W9.heap.size := ⟨_, rfl⟩
    rw [← hbr] at RB0 ⊢
    generalize W9.alloc (.cells #[.int .i64 D, .int .u8 K9, .int .u64 S9, .slice rb R.length rd] TEn) = V at RB0 HBV REV HCTV HRV HSV RAV ⊢
    clear bz hbr HB9 RE9 HCT9 HR9 HS9 RA9
    have HS : Hid (∀ u, Below V.heap.size V u → (Below V.heap.size V u ∧ u.cell? ⟨be, 0, none⟩ = some (.int .i64 d) ∧ u.cell? ⟨be, 1, none⟩ = some (.int .u8 k) ∧ u.cell? ⟨be, 2, none⟩ = some (.int .u64 s) ∧ u.cell? ⟨be, 3, none⟩ = some (.slice a L.length cap) ∧ u.cell? ⟨br, 0, none⟩ = some (.int .i64 D) ∧ u.cell? ⟨br, 1, none⟩ = some (.int .u8 K9) ∧ u.cell? ⟨br, 2, none⟩ = some (.int .u64 S9) ∧ u.cell? ⟨br, 3, none⟩ = some (.slice ra R.length rc) ∧ u.cell? ⟨bs9, 0, none⟩ = some (.int .i64 D) ∧ u.cell? ⟨bs9, 1, none⟩ = some (.int .u8 K9) ∧ u.cell? ⟨bs9, 2, none⟩ = some (.int .u64 S9) ∧ u.cell? ⟨bs9, 3, none⟩ = some (.slice rb R.length rd))) := fun u hu => ⟨hu, (REV.out.later hu).cell 0, (REV.out.later hu).cell 1, (REV.out.later hu).cell 2, (REV.out.later hu).cell 3, (RAV.out.later hu).cell 0, (RAV.out.later hu).cell 1, (RAV.out.later hu).cell 2, (RAV.out.later hu).cell 3, (RB0.out.later hu).cell 0, (RB0.out.later hu).cell 1, (RB0.out.later hu).cell 2, (RB0.out.later hu).cell 3⟩
    have HLU : Hid (∀ u, Below V.heap.size V u → Lns u a L) := fun u hu => H.out.later (HBV.out.trans (hu.mono HBV.out.size))
    obtain ⟨n1, hn1⟩ : ∃ n1, n1 = chkM d k L := ⟨_, rfl⟩
    obtain ⟨n2, hn2⟩ : ∃ n2, n2 = onM M d k L := ⟨_, rfl⟩
    have KC1 : Hid (∀ u, Below V.heap.size V u → Calls Try.prog 16 #[.agg #[.int .i64 d, .int .u8 k, .int .u64 s, .slice a L.length cap]] u fun e w' => e = .returned (.int .i64 n1) ∧ Below u.heap.size u w') := fun u hu => by
      rw [hn1]
      exact check_c d k s L a cap u (HLU.out u hu) (by have := HSM.out; omega)
    have KC2 : Hid (∀ u, Below V.heap.size V u → Calls Try.prog 17 #[.agg #[.int .i64 d, .int .u8 k, .int .u64 s, .slice a L.length cap]] u fun e w' => e = .returned (.int .i64 n1) ∧ Below u.heap.size u w') := fun u hu => by
      rw [hn1]
      exact rcheck_c d k s L a cap u (HLU.out u hu) (by have := HSM.out; omega)
    have KON : Hid (∀ u, Below V.heap.size V u → Calls Try.prog 18 #[.pointer (some ⟨c, 0, none⟩), .agg #[.int .i64 d, .int .u8 k, .int .u64 s, .slice a L.length cap]] u fun e w' => e = .returned (.int .i64 n2) ∧ Below u.heap.size u w') := fun u hu => by
      rw [hn2]
      exact on_c (HCTV.out.later hu) d k s L a cap (HLU.out u hu) (by have := HSM.out; omega)
    have KAL : Hid (∀ u, Below V.heap.size V u → Calls Try.prog 20 #[.pointer (some ⟨c, 0, none⟩)] u fun e w' => ∃ la lc, e = .returned (.slice la K.length lc) ∧ Ch.Acs w' la (Ch.lst M K) ∧ Below u.heap.size u w') := fun u hu => by
      refine (Ch.ct_all (HCTV.out.later hu)).mono ?_
      rintro e w' ⟨v, rfl, ho, hb⟩
      obtain ⟨la, lc, rfl, h2, _⟩ := Ch.acs_own ho rfl
      exact ⟨la, lc, by rw [Ch.lst_len], h2, hb⟩
    have KRO : Hid (∀ u la lc, Below V.heap.size V u → Ch.Acs u la (Ch.lst M K) → Calls Try.prog 19 #[.slice la K.length lc, .agg #[.int .i64 d, .int .u8 k, .int .u64 s, .slice a L.length cap]] u fun e w' => e = .returned (.int .i64 n2) ∧ Below u.heap.size u w') := fun u la lc hu hA => by
      rw [hn2]
      exact ron_c HCTV.out.gm d k s L a cap la lc u (HLU.out u hu) (by have := HSM.out; omega) hA
    have KSE : Hid (∀ u, Below V.heap.size V u → Calls Try.prog 21 #[.agg #[.int .i64 D, .int .u8 K9, .int .u64 S9, .slice ra R.length rc], .agg #[.int .i64 D, .int .u8 K9, .int .u64 S9, .slice rb R.length rd]] u fun e w' => e = .returned (.bool true) ∧ Below u.heap.size u w') := fun u hu =>
      sameE_c D K9 S9 R ra rb rc rd u (HRV.out.later hu) (HSV.out.later hu) (by have := HRL.out; omega)
    clear hn1 hn2 HLU RB0 REV HCTV HRV HSV RAV HRL
    refine wp_region_held_drew (S := (fun u => (Below V.heap.size V u ∧ u.cell? ⟨be, 0, none⟩ = some (.int .i64 d) ∧ u.cell? ⟨be, 1, none⟩ = some (.int .u8 k) ∧ u.cell? ⟨be, 2, none⟩ = some (.int .u64 s) ∧ u.cell? ⟨be, 3, none⟩ = some (.slice a L.length cap) ∧ u.cell? ⟨br, 0, none⟩ = some (.int .i64 D) ∧ u.cell? ⟨br, 1, none⟩ = some (.int .u8 K9) ∧ u.cell? ⟨br, 2, none⟩ = some (.int .u64 S9) ∧ u.cell? ⟨br, 3, none⟩ = some (.slice ra R.length rc) ∧ u.cell? ⟨bs9, 0, none⟩ = some (.int .i64 D) ∧ u.cell? ⟨bs9, 1, none⟩ = some (.int .u8 K9) ∧ u.cell? ⟨bs9, 2, none⟩ = some (.int .u64 S9) ∧ u.cell? ⟨bs9, 3, none⟩ = some (.slice rb R.length rd)))) (by kernel_rfl) ?_ (fun hHeld => ?_)
    · exact HS.out _ (Below.refl _ V).drew
    refine wpAnyH_take (i := 0) (oi := { dst := some 72, op := Op.load 25 (Operand.tmp 3), type := 25, pos := "law.go:60", after := #[], guard := none }) (v := (.agg #[.int .i64 d, .int .u8 k, .int .u64 s, .slice a L.length cap])) rfl (by kernel_rfl) (by kernel_rfl) (by kernel_rfl) (fun _ _ _ h => h) (Or.inl ⟨by rfl, ?_⟩) hHeld ?_
    · rintro u ⟨hb, p0, p1, p2, p3, p4, p5, p6, p7, p8, p9, p10, p11⟩
      go_simp <;> first | rfl | kernel_rfl
    try simp only [Act.put, List.setIfInBounds_toArray, List.set_cons_zero, List.set_cons_succ]
    refine wpAnyH_take (i := 2) (oi := { dst := some 74, op := Op.load 25 (Operand.tmp 3), type := 25, pos := "law.go:60", after := #[], guard := none }) (v := (.agg #[.int .i64 d, .int .u8 k, .int .u64 s, .slice a L.length cap])) rfl (by kernel_rfl) (by kernel_rfl) (by kernel_rfl) (fun _ _ _ h => h) (Or.inl ⟨by rfl, ?_⟩) hHeld ?_
    · rintro u ⟨hb, p0, p1, p2, p3, p4, p5, p6, p7, p8, p9, p10, p11⟩
      go_simp <;> first | rfl | kernel_rfl
    try simp only [Act.put, List.setIfInBounds_toArray, List.set_cons_zero, List.set_cons_succ]
    refine wpAnyH_ready (rs := [1]) (by kernel_rfl) (by simp) ?_
    refine AllReadyH.cons (o := { dst := some 73, op := Op.call { callee := Callee.value (Operand.func 16), args := #[Operand.tmp 72], argTypes := #[25] }, type := 32, pos := "law.go:60", after := #[{ on := 0, ground := Ground.data }], guard := none }) rfl (fun Kq hKq => ?_) AllReadyH.nil
    go_simp
    refine (KC1.out _ hHeld.1).mono ?_
    rintro _ V1 ⟨rfl, hb1⟩
    go_simp
    refine hKq.out _ _ ((HS.out _ (hHeld.1.trans (hb1.mono hHeld.1.size)))) (fun hHeld1 => ?_)
    clear hKq Kq
    try simp only [Act.put, List.setIfInBounds_toArray, List.set_cons_zero, List.set_cons_succ]
    refine wpAnyH_ready (rs := [3]) (by kernel_rfl) (by simp) ?_
    refine AllReadyH.cons (o := { dst := some 75, op := Op.call { callee := Callee.value (Operand.func 17), args := #[Operand.tmp 74], argTypes := #[25] }, type := 3, pos := "law.go:60", after := #[{ on := 2, ground := Ground.data }, { on := 1, ground := Ground.chain }], guard := none }) rfl (fun Kq hKq => ?_) AllReadyH.nil
    go_simp
    refine (KC2.out _ hHeld1.1).mono ?_
    rintro _ V2 ⟨rfl, hb2⟩
    go_simp
    refine hKq.out _ _ ((HS.out _ (hHeld1.1.trans (hb2.mono hHeld1.1.size)))) (fun hHeld3 => ?_)
    clear hKq Kq
    try simp only [Act.put, List.setIfInBounds_toArray, List.set_cons_zero, List.set_cons_succ]
    refine wpAnyH_take (i := 4) (oi := { dst := some 76, op := Op.binOp BinOp.eql 3 (Operand.tmp 73) (Operand.tmp 75) 3, type := 4, pos := "law.go:60", after := #[{ on := 1, ground := Ground.data }, { on := 3, ground := Ground.data }], guard := none }) (v := (.bool true)) rfl (by kernel_rfl) (by kernel_rfl) (by kernel_rfl) (fun _ _ _ h => h) (Or.inl ⟨by rfl, ?_⟩) hHeld3 ?_
    · rintro u ⟨hb, p0, p1, p2, p3, p4, p5, p6, p7, p8, p9, p10, p11⟩
      go_simp <;> first | rfl | kernel_rfl
    try simp only [Act.put, List.setIfInBounds_toArray, List.set_cons_zero, List.set_cons_succ]
    refine wpAnyH_take (i := 5) (oi := { dst := some 77, op := Op.move (Operand.tmp 76), type := 4, pos := "law.go:60", after := #[{ on := 4, ground := Ground.data }, { on := 3, ground := Ground.chain }], guard := none }) (v := (.bool true)) rfl (by kernel_rfl) (by kernel_rfl) (by kernel_rfl) (fun _ _ _ h => h) (Or.inl ⟨by rfl, ?_⟩) hHeld3 ?_
    · rintro u ⟨hb, p0, p1, p2, p3, p4, p5, p6, p7, p8, p9, p10, p11⟩
      go_simp <;> first | rfl | kernel_rfl
    try simp only [Act.put, List.setIfInBounds_toArray, List.set_cons_zero, List.set_cons_succ]
    refine wpAnyH_take (i := 6) (oi := { dst := some 78, op := Op.move (Operand.tmp 6), type := 30, pos := "law.go:60", after := #[{ on := 5, ground := Ground.guard }], guard := some (5, true) }) (v := (.pointer (some ⟨c, 0, none⟩))) rfl (by kernel_rfl) (by kernel_rfl) (by kernel_rfl) (fun _ _ _ h => h) (Or.inl ⟨by rfl, ?_⟩) hHeld3 ?_
    · rintro u ⟨hb, p0, p1, p2, p3, p4, p5, p6, p7, p8, p9, p10, p11⟩
      go_simp <;> first | rfl | kernel_rfl
    try simp only [Act.put, List.setIfInBounds_toArray, List.set_cons_zero, List.set_cons_succ]
    refine wpAnyH_take (i := 7) (oi := { dst := some 79, op := Op.load 25 (Operand.tmp 3), type := 25, pos := "law.go:60", after := #[{ on := 5, ground := Ground.guard }], guard := some (5, true) }) (v := (.agg #[.int .i64 d, .int .u8 k, .int .u64 s, .slice a L.length cap])) rfl (by kernel_rfl) (by kernel_rfl) (by kernel_rfl) (fun _ _ _ h => h) (Or.inl ⟨by rfl, ?_⟩) hHeld3 ?_
    · rintro u ⟨hb, p0, p1, p2, p3, p4, p5, p6, p7, p8, p9, p10, p11⟩
      go_simp <;> first | rfl | kernel_rfl
    try simp only [Act.put, List.setIfInBounds_toArray, List.set_cons_zero, List.set_cons_succ]
    refine wpAnyH_take (i := 9) (oi := { dst := some 81, op := Op.move (Operand.tmp 6), type := 30, pos := "law.go:60", after := #[{ on := 5, ground := Ground.guard }], guard := some (5, true) }) (v := (.pointer (some ⟨c, 0, none⟩))) rfl (by kernel_rfl) (by kernel_rfl) (by kernel_rfl) (fun _ _ _ h => h) (Or.inl ⟨by rfl, ?_⟩) hHeld3 ?_
    · rintro u ⟨hb, p0, p1, p2, p3, p4, p5, p6, p7, p8, p9, p10, p11⟩
      go_simp <;> first | rfl | kernel_rfl
    try simp only [Act.put, List.setIfInBounds_toArray, List.set_cons_zero, List.set_cons_succ]
    refine wpAnyH_take (i := 11) (oi := { dst := some 83, op := Op.load 25 (Operand.tmp 3), type := 25, pos := "law.go:60", after := #[{ on := 5, ground := Ground.guard }], guard := some (5, true) }) (v := (.agg #[.int .i64 d, .int .u8 k, .int .u64 s, .slice a L.length cap])) rfl (by kernel_rfl) (by kernel_rfl) (by kernel_rfl) (fun _ _ _ h => h) (Or.inl ⟨by rfl, ?_⟩) hHeld3 ?_
    · rintro u ⟨hb, p0, p1, p2, p3, p4, p5, p6, p7, p8, p9, p10, p11⟩
      go_simp <;> first | rfl | kernel_rfl
    try simp only [Act.put, List.setIfInBounds_toArray, List.set_cons_zero, List.set_cons_succ]
    refine wpAnyH_ready (rs := [8]) (by kernel_rfl) (by simp) ?_
    refine AllReadyH.cons (o := { dst := some 80, op := Op.call { callee := Callee.value (Operand.func 18), args := #[Operand.tmp 78, Operand.tmp 79], argTypes := #[30, 25] }, type := 32, pos := "law.go:60", after := #[{ on := 6, ground := Ground.data }, { on := 7, ground := Ground.data }, { on := 5, ground := Ground.chain }, { on := 5, ground := Ground.guard }], guard := some (5, true) }) rfl (fun Kq hKq => ?_) AllReadyH.nil
    go_simp
    refine (KON.out _ hHeld3.1).mono ?_
    rintro _ V3 ⟨rfl, hb3⟩
    go_simp
    refine hKq.out _ _ ((HS.out _ (hHeld3.1.trans (hb3.mono hHeld3.1.size)))) (fun hHeld8 => ?_)
    clear hKq Kq
    try simp only [Act.put, List.setIfInBounds_toArray, List.set_cons_zero, List.set_cons_succ]
    refine wpAnyH_ready (rs := [10]) (by kernel_rfl) (by simp) ?_
    refine AllReadyH.cons (o := { dst := some 82, op := Op.call { callee := Callee.value (Operand.func 20), args := #[Operand.tmp 81], argTypes := #[30] }, type := 26, pos := "law.go:60", after := #[{ on := 9, ground := Ground.data }, { on := 8, ground := Ground.chain }, { on := 5, ground := Ground.guard }], guard := some (5, true) }) rfl (fun Kq hKq => ?_) AllReadyH.nil
    go_simp
    refine (KAL.out _ hHeld8.1).mono ?_
    rintro _ V4 ⟨la, lc, rfl, hac, hb4⟩
    have HAC := Lib.hid hac
    clear hac
    go_simp
    refine hKq.out _ _ ((HS.out _ (hHeld8.1.trans (hb4.mono hHeld8.1.size)))) (fun hHeld10 => ?_)
    clear hKq Kq
    try simp only [Act.put, List.setIfInBounds_toArray, List.set_cons_zero, List.set_cons_succ]
    refine wpAnyH_ready (rs := [12]) (by kernel_rfl) (by simp) ?_
    refine AllReadyH.cons (o := { dst := some 84, op := Op.call { callee := Callee.value (Operand.func 19), args := #[Operand.tmp 82, Operand.tmp 83], argTypes := #[26, 25] }, type := 3, pos := "law.go:60", after := #[{ on := 10, ground := Ground.data }, { on := 11, ground := Ground.data }, { on := 10, ground := Ground.chain }, { on := 5, ground := Ground.guard }], guard := some (5, true) }) rfl (fun Kq hKq => ?_) AllReadyH.nil
    go_simp
    refine (KRO.out _ la lc hHeld10.1 HAC.out).mono ?_
    rintro _ V5 ⟨rfl, hb5⟩
    go_simp
    refine hKq.out _ _ ((HS.out _ (hHeld10.1.trans (hb5.mono hHeld10.1.size)))) (fun hHeld12 => ?_)
    clear hKq Kq
    try simp only [Act.put, List.setIfInBounds_toArray, List.set_cons_zero, List.set_cons_succ]
    refine wpAnyH_take (i := 13) (oi := { dst := some 85, op := Op.binOp BinOp.eql 3 (Operand.tmp 80) (Operand.tmp 84) 3, type := 4, pos := "law.go:60", after := #[{ on := 8, ground := Ground.data }, { on := 12, ground := Ground.data }, { on := 5, ground := Ground.guard }], guard := some (5, true) }) (v := (.bool true)) rfl (by kernel_rfl) (by kernel_rfl) (by kernel_rfl) (fun _ _ _ h => h) (Or.inl ⟨by rfl, ?_⟩) hHeld12 ?_
    · rintro u ⟨hb, p0, p1, p2, p3, p4, p5, p6, p7, p8, p9, p10, p11⟩
      go_simp <;> first | rfl | kernel_rfl
    try simp only [Act.put, List.setIfInBounds_toArray, List.set_cons_zero, List.set_cons_succ]
    refine wpAnyH_take (i := 14) (oi := { dst := some 86, op := Op.pick (Operand.tmp 77) (Operand.tmp 85) (Operand.const (Value.bool false)), type := 4, pos := "law.go:60", after := #[{ on := 5, ground := Ground.data }, { on := 13, ground := Ground.data }], guard := none }) (v := (.bool true)) rfl (by kernel_rfl) (by kernel_rfl) (by kernel_rfl) (fun _ _ _ h => h) (Or.inl ⟨by rfl, ?_⟩) hHeld12 ?_
    · rintro u ⟨hb, p0, p1, p2, p3, p4, p5, p6, p7, p8, p9, p10, p11⟩
      go_simp <;> first | rfl | kernel_rfl
    try simp only [Act.put, List.setIfInBounds_toArray, List.set_cons_zero, List.set_cons_succ]
    refine wpAnyH_take (i := 15) (oi := { dst := some 87, op := Op.move (Operand.tmp 86), type := 4, pos := "law.go:60", after := #[{ on := 14, ground := Ground.data }, { on := 12, ground := Ground.chain }], guard := none }) (v := (.bool true)) rfl (by kernel_rfl) (by kernel_rfl) (by kernel_rfl) (fun _ _ _ h => h) (Or.inl ⟨by rfl, ?_⟩) hHeld12 ?_
    · rintro u ⟨hb, p0, p1, p2, p3, p4, p5, p6, p7, p8, p9, p10, p11⟩
      go_simp <;> first | rfl | kernel_rfl
    try simp only [Act.put, List.setIfInBounds_toArray, List.set_cons_zero, List.set_cons_succ]
    refine wpAnyH_take (i := 16) (oi := { dst := some 88, op := Op.move (Operand.tmp 7), type := 2, pos := "law.go:60", after := #[{ on := 15, ground := Ground.guard }], guard := some (15, true) }) (v := (.int .i64 T1)) rfl (by kernel_rfl) (by kernel_rfl) (by kernel_rfl) (fun _ _ _ h => h) (Or.inl ⟨by rfl, ?_⟩) hHeld12 ?_
    · rintro u ⟨hb, p0, p1, p2, p3, p4, p5, p6, p7, p8, p9, p10, p11⟩
      go_simp <;> first | rfl | kernel_rfl
    try simp only [Act.put, List.setIfInBounds_toArray, List.set_cons_zero, List.set_cons_succ]
    refine wpAnyH_take (i := 17) (oi := { dst := some 89, op := Op.move (Operand.tmp 10), type := 2, pos := "law.go:60", after := #[{ on := 15, ground := Ground.guard }], guard := some (15, true) }) (v := (.int .i64 T1)) rfl (by kernel_rfl) (by kernel_rfl) (by kernel_rfl) (fun _ _ _ h => h) (Or.inl ⟨by rfl, ?_⟩) hHeld12 ?_
    · rintro u ⟨hb, p0, p1, p2, p3, p4, p5, p6, p7, p8, p9, p10, p11⟩
      go_simp <;> first | rfl | kernel_rfl
    try simp only [Act.put, List.setIfInBounds_toArray, List.set_cons_zero, List.set_cons_succ]
    refine wpAnyH_take (i := 18) (oi := { dst := some 90, op := Op.binOp BinOp.eql 2 (Operand.tmp 88) (Operand.tmp 89) 2, type := 4, pos := "law.go:60", after := #[{ on := 16, ground := Ground.data }, { on := 17, ground := Ground.data }, { on := 15, ground := Ground.guard }], guard := some (15, true) }) (v := (.bool true)) rfl (by kernel_rfl) (by kernel_rfl) (by kernel_rfl) (fun _ _ _ h => h) (Or.inl ⟨by rfl, ?_⟩) hHeld12 ?_
    · rintro u ⟨hb, p0, p1, p2, p3, p4, p5, p6, p7, p8, p9, p10, p11⟩
      go_simp <;> first | rfl | kernel_rfl
    try simp only [Act.put, List.setIfInBounds_toArray, List.set_cons_zero, List.set_cons_succ]
    refine wpAnyH_take (i := 19) (oi := { dst := some 91, op := Op.pick (Operand.tmp 87) (Operand.tmp 90) (Operand.const (Value.bool false)), type := 4, pos := "law.go:60", after := #[{ on := 15, ground := Ground.data }, { on := 18, ground := Ground.data }], guard := none }) (v := (.bool true)) rfl (by kernel_rfl) (by kernel_rfl) (by kernel_rfl) (fun _ _ _ h => h) (Or.inl ⟨by rfl, ?_⟩) hHeld12 ?_
    · rintro u ⟨hb, p0, p1, p2, p3, p4, p5, p6, p7, p8, p9, p10, p11⟩
      go_simp <;> first | rfl | kernel_rfl
    try simp only [Act.put, List.setIfInBounds_toArray, List.set_cons_zero, List.set_cons_succ]
    refine wpAnyH_take (i := 20) (oi := { dst := some 92, op := Op.move (Operand.tmp 91), type := 4, pos := "law.go:60", after := #[{ on := 19, ground := Ground.data }, { on := 15, ground := Ground.chain }], guard := none }) (v := (.bool true)) rfl (by kernel_rfl) (by kernel_rfl) (by kernel_rfl) (fun _ _ _ h => h) (Or.inl ⟨by rfl, ?_⟩) hHeld12 ?_
    · rintro u ⟨hb, p0, p1, p2, p3, p4, p5, p6, p7, p8, p9, p10, p11⟩
      go_simp <;> first | rfl | kernel_rfl
    try simp only [Act.put, List.setIfInBounds_toArray, List.set_cons_zero, List.set_cons_succ]
    refine wpAnyH_take (i := 21) (oi := { dst := some 93, op := Op.move (Operand.tmp 8), type := 2, pos := "law.go:60", after := #[{ on := 20, ground := Ground.guard }], guard := some (20, true) }) (v := (.int .i64 T1)) rfl (by kernel_rfl) (by kernel_rfl) (by kernel_rfl) (fun _ _ _ h => h) (Or.inl ⟨by rfl, ?_⟩) hHeld12 ?_
    · rintro u ⟨hb, p0, p1, p2, p3, p4, p5, p6, p7, p8, p9, p10, p11⟩
      go_simp <;> first | rfl | kernel_rfl
    try simp only [Act.put, List.setIfInBounds_toArray, List.set_cons_zero, List.set_cons_succ]
    refine wpAnyH_take (i := 22) (oi := { dst := some 94, op := Op.move (Operand.tmp 11), type := 2, pos := "law.go:60", after := #[{ on := 20, ground := Ground.guard }], guard := some (20, true) }) (v := (.int .i64 T1)) rfl (by kernel_rfl) (by kernel_rfl) (by kernel_rfl) (fun _ _ _ h => h) (Or.inl ⟨by rfl, ?_⟩) hHeld12 ?_
    · rintro u ⟨hb, p0, p1, p2, p3, p4, p5, p6, p7, p8, p9, p10, p11⟩
      go_simp <;> first | rfl | kernel_rfl
    try simp only [Act.put, List.setIfInBounds_toArray, List.set_cons_zero, List.set_cons_succ]
    refine wpAnyH_take (i := 23) (oi := { dst := some 95, op := Op.binOp BinOp.eql 2 (Operand.tmp 93) (Operand.tmp 94) 2, type := 4, pos := "law.go:60", after := #[{ on := 21, ground := Ground.data }, { on := 22, ground := Ground.data }, { on := 20, ground := Ground.guard }], guard := some (20, true) }) (v := (.bool true)) rfl (by kernel_rfl) (by kernel_rfl) (by kernel_rfl) (fun _ _ _ h => h) (Or.inl ⟨by rfl, ?_⟩) hHeld12 ?_
    · rintro u ⟨hb, p0, p1, p2, p3, p4, p5, p6, p7, p8, p9, p10, p11⟩
      go_simp <;> first | rfl | kernel_rfl
    try simp only [Act.put, List.setIfInBounds_toArray, List.set_cons_zero, List.set_cons_succ]
    refine wpAnyH_take (i := 24) (oi := { dst := some 96, op := Op.pick (Operand.tmp 92) (Operand.tmp 95) (Operand.const (Value.bool false)), type := 4, pos := "law.go:60", after := #[{ on := 20, ground := Ground.data }, { on := 23, ground := Ground.data }], guard := none }) (v := (.bool true)) rfl (by kernel_rfl) (by kernel_rfl) (by kernel_rfl) (fun _ _ _ h => h) (Or.inl ⟨by rfl, ?_⟩) hHeld12 ?_
    · rintro u ⟨hb, p0, p1, p2, p3, p4, p5, p6, p7, p8, p9, p10, p11⟩
      go_simp <;> first | rfl | kernel_rfl
    try simp only [Act.put, List.setIfInBounds_toArray, List.set_cons_zero, List.set_cons_succ]
    refine wpAnyH_take (i := 25) (oi := { dst := some 97, op := Op.move (Operand.tmp 96), type := 4, pos := "law.go:60", after := #[{ on := 24, ground := Ground.data }, { on := 20, ground := Ground.chain }], guard := none }) (v := (.bool true)) rfl (by kernel_rfl) (by kernel_rfl) (by kernel_rfl) (fun _ _ _ h => h) (Or.inl ⟨by rfl, ?_⟩) hHeld12 ?_
    · rintro u ⟨hb, p0, p1, p2, p3, p4, p5, p6, p7, p8, p9, p10, p11⟩
      go_simp <;> first | rfl | kernel_rfl
    try simp only [Act.put, List.setIfInBounds_toArray, List.set_cons_zero, List.set_cons_succ]
    refine wpAnyH_take (i := 26) (oi := { dst := some 98, op := Op.move (Operand.tmp 9), type := 32, pos := "law.go:60", after := #[{ on := 25, ground := Ground.guard }], guard := some (25, true) }) (v := (.int .i64 T2)) rfl (by kernel_rfl) (by kernel_rfl) (by kernel_rfl) (fun _ _ _ h => h) (Or.inl ⟨by rfl, ?_⟩) hHeld12 ?_
    · rintro u ⟨hb, p0, p1, p2, p3, p4, p5, p6, p7, p8, p9, p10, p11⟩
      go_simp <;> first | rfl | kernel_rfl
    try simp only [Act.put, List.setIfInBounds_toArray, List.set_cons_zero, List.set_cons_succ]
    refine wpAnyH_take (i := 27) (oi := { dst := some 99, op := Op.move (Operand.tmp 12), type := 3, pos := "law.go:60", after := #[{ on := 25, ground := Ground.guard }], guard := some (25, true) }) (v := (.int .i64 T2)) rfl (by kernel_rfl) (by kernel_rfl) (by kernel_rfl) (fun _ _ _ h => h) (Or.inl ⟨by rfl, ?_⟩) hHeld12 ?_
    · rintro u ⟨hb, p0, p1, p2, p3, p4, p5, p6, p7, p8, p9, p10, p11⟩
      go_simp <;> first | rfl | kernel_rfl
    try simp only [Act.put, List.setIfInBounds_toArray, List.set_cons_zero, List.set_cons_succ]
    refine wpAnyH_take (i := 28) (oi := { dst := some 100, op := Op.binOp BinOp.eql 3 (Operand.tmp 98) (Operand.tmp 99) 3, type := 4, pos := "law.go:60", after := #[{ on := 26, ground := Ground.data }, { on := 27, ground := Ground.data }, { on := 25, ground := Ground.guard }], guard := some (25, true) }) (v := (.bool true)) rfl (by kernel_rfl) (by kernel_rfl) (by kernel_rfl) (fun _ _ _ h => h) (Or.inl ⟨by rfl, ?_⟩) hHeld12 ?_
    · rintro u ⟨hb, p0, p1, p2, p3, p4, p5, p6, p7, p8, p9, p10, p11⟩
      go_simp <;> first | rfl | kernel_rfl
    try simp only [Act.put, List.setIfInBounds_toArray, List.set_cons_zero, List.set_cons_succ]
    refine wpAnyH_take (i := 29) (oi := { dst := some 101, op := Op.pick (Operand.tmp 97) (Operand.tmp 100) (Operand.const (Value.bool false)), type := 4, pos := "law.go:60", after := #[{ on := 25, ground := Ground.data }, { on := 28, ground := Ground.data }], guard := none }) (v := (.bool true)) rfl (by kernel_rfl) (by kernel_rfl) (by kernel_rfl) (fun _ _ _ h => h) (Or.inl ⟨by rfl, ?_⟩) hHeld12 ?_
    · rintro u ⟨hb, p0, p1, p2, p3, p4, p5, p6, p7, p8, p9, p10, p11⟩
      go_simp <;> first | rfl | kernel_rfl
    try simp only [Act.put, List.setIfInBounds_toArray, List.set_cons_zero, List.set_cons_succ]
    refine wpAnyH_take (i := 30) (oi := { dst := some 102, op := Op.move (Operand.tmp 101), type := 4, pos := "law.go:60", after := #[{ on := 29, ground := Ground.data }, { on := 25, ground := Ground.chain }], guard := none }) (v := (.bool true)) rfl (by kernel_rfl) (by kernel_rfl) (by kernel_rfl) (fun _ _ _ h => h) (Or.inl ⟨by rfl, ?_⟩) hHeld12 ?_
    · rintro u ⟨hb, p0, p1, p2, p3, p4, p5, p6, p7, p8, p9, p10, p11⟩
      go_simp <;> first | rfl | kernel_rfl
    try simp only [Act.put, List.setIfInBounds_toArray, List.set_cons_zero, List.set_cons_succ]
    refine wpAnyH_take (i := 31) (oi := { dst := some 103, op := Op.load 25 (Operand.tmp 13), type := 25, pos := "law.go:60", after := #[{ on := 30, ground := Ground.guard }], guard := some (30, true) }) (v := (.agg #[.int .i64 D, .int .u8 K9, .int .u64 S9, .slice ra R.length rc])) rfl (by kernel_rfl) (by kernel_rfl) (by kernel_rfl) (fun _ _ _ h => h) (Or.inl ⟨by rfl, ?_⟩) hHeld12 ?_
    · rintro u ⟨hb, p0, p1, p2, p3, p4, p5, p6, p7, p8, p9, p10, p11⟩
      go_simp <;> first | rfl | kernel_rfl
    try simp only [Act.put, List.setIfInBounds_toArray, List.set_cons_zero, List.set_cons_succ]
    refine wpAnyH_take (i := 32) (oi := { dst := some 104, op := Op.load 25 (Operand.tmp 15), type := 25, pos := "law.go:60", after := #[{ on := 30, ground := Ground.guard }], guard := some (30, true) }) (v := (.agg #[.int .i64 D, .int .u8 K9, .int .u64 S9, .slice rb R.length rd])) rfl (by kernel_rfl) (by kernel_rfl) (by kernel_rfl) (fun _ _ _ h => h) (Or.inl ⟨by rfl, ?_⟩) hHeld12 ?_
    · rintro u ⟨hb, p0, p1, p2, p3, p4, p5, p6, p7, p8, p9, p10, p11⟩
      go_simp <;> first | rfl | kernel_rfl
    try simp only [Act.put, List.setIfInBounds_toArray, List.set_cons_zero, List.set_cons_succ]
    refine wpAnyH_ready (rs := [33]) (by kernel_rfl) (by simp) ?_
    refine AllReadyH.cons (o := { dst := some 105, op := Op.call { callee := Callee.value (Operand.func 21), args := #[Operand.tmp 103, Operand.tmp 104], argTypes := #[25, 25] }, type := 4, pos := "law.go:60", after := #[{ on := 31, ground := Ground.data }, { on := 32, ground := Ground.data }, { on := 30, ground := Ground.chain }, { on := 30, ground := Ground.guard }], guard := some (30, true) }) rfl (fun Kq hKq => ?_) AllReadyH.nil
    go_simp
    refine (KSE.out _ hHeld12.1).mono ?_
    rintro _ V6 ⟨rfl, hb6⟩
    go_simp
    refine hKq.out _ _ ((HS.out _ (hHeld12.1.trans (hb6.mono hHeld12.1.size)))) (fun hHeld33 => ?_)
    clear hKq Kq
    try simp only [Act.put, List.setIfInBounds_toArray, List.set_cons_zero, List.set_cons_succ]
    refine wpAnyH_take (i := 34) (oi := { dst := some 106, op := Op.pick (Operand.tmp 102) (Operand.tmp 105) (Operand.const (Value.bool false)), type := 4, pos := "law.go:60", after := #[{ on := 30, ground := Ground.data }, { on := 33, ground := Ground.data }], guard := none }) (v := (.bool true)) rfl (by kernel_rfl) (by kernel_rfl) (by kernel_rfl) (fun _ _ _ h => h) (Or.inl ⟨by rfl, ?_⟩) hHeld33 ?_
    · rintro u ⟨hb, p0, p1, p2, p3, p4, p5, p6, p7, p8, p9, p10, p11⟩
      go_simp <;> first | rfl | kernel_rfl
    try simp only [Act.put, List.setIfInBounds_toArray, List.set_cons_zero, List.set_cons_succ]
    refine wpAnyH_take (i := 35) (oi := { dst := some 107, op := Op.move (Operand.tmp 106), type := 4, pos := "law.go:60", after := #[{ on := 34, ground := Ground.data }, { on := 33, ground := Ground.chain }], guard := none }) (v := (.bool true)) rfl (by kernel_rfl) (by kernel_rfl) (by kernel_rfl) (fun _ _ _ h => h) (Or.inl ⟨by rfl, ?_⟩) hHeld33 ?_
    · rintro u ⟨hb, p0, p1, p2, p3, p4, p5, p6, p7, p8, p9, p10, p11⟩
      go_simp <;> first | rfl | kernel_rfl
    try simp only [Act.put, List.setIfInBounds_toArray, List.set_cons_zero, List.set_cons_succ]
    refine wpAnyH_take (i := 36) (oi := { dst := some 108, op := Op.move (Operand.tmp 14), type := 32, pos := "law.go:60", after := #[{ on := 35, ground := Ground.guard }], guard := some (35, true) }) (v := (.int .i64 z)) rfl (by kernel_rfl) (by kernel_rfl) (by kernel_rfl) (fun _ _ _ h => h) (Or.inl ⟨by rfl, ?_⟩) hHeld33 ?_
    · rintro u ⟨hb, p0, p1, p2, p3, p4, p5, p6, p7, p8, p9, p10, p11⟩
      go_simp <;> first | rfl | kernel_rfl
    try simp only [Act.put, List.setIfInBounds_toArray, List.set_cons_zero, List.set_cons_succ]
    refine wpAnyH_take (i := 37) (oi := { dst := some 109, op := Op.move (Operand.tmp 16), type := 3, pos := "law.go:60", after := #[{ on := 35, ground := Ground.guard }], guard := some (35, true) }) (v := (.int .i64 z)) rfl (by kernel_rfl) (by kernel_rfl) (by kernel_rfl) (fun _ _ _ h => h) (Or.inl ⟨by rfl, ?_⟩) hHeld33 ?_
    · rintro u ⟨hb, p0, p1, p2, p3, p4, p5, p6, p7, p8, p9, p10, p11⟩
      go_simp <;> first | rfl | kernel_rfl
    try simp only [Act.put, List.setIfInBounds_toArray, List.set_cons_zero, List.set_cons_succ]
    refine wpAnyH_take (i := 38) (oi := { dst := some 110, op := Op.binOp BinOp.eql 3 (Operand.tmp 108) (Operand.tmp 109) 3, type := 4, pos := "law.go:60", after := #[{ on := 36, ground := Ground.data }, { on := 37, ground := Ground.data }, { on := 35, ground := Ground.guard }], guard := some (35, true) }) (v := (.bool true)) rfl (by kernel_rfl) (by kernel_rfl) (by kernel_rfl) (fun _ _ _ h => h) (Or.inl ⟨by rfl, ?_⟩) hHeld33 ?_
    · rintro u ⟨hb, p0, p1, p2, p3, p4, p5, p6, p7, p8, p9, p10, p11⟩
      go_simp <;> first | rfl | kernel_rfl
    try simp only [Act.put, List.setIfInBounds_toArray, List.set_cons_zero, List.set_cons_succ]
    refine wpAnyH_take (i := 39) (oi := { dst := some 111, op := Op.pick (Operand.tmp 107) (Operand.tmp 110) (Operand.const (Value.bool false)), type := 4, pos := "law.go:60", after := #[{ on := 35, ground := Ground.data }, { on := 38, ground := Ground.data }], guard := none }) (v := (.bool true)) rfl (by kernel_rfl) (by kernel_rfl) (by kernel_rfl) (fun _ _ _ h => h) (Or.inl ⟨by rfl, ?_⟩) hHeld33 ?_
    · rintro u ⟨hb, p0, p1, p2, p3, p4, p5, p6, p7, p8, p9, p10, p11⟩
      go_simp <;> first | rfl | kernel_rfl
    try simp only [Act.put, List.setIfInBounds_toArray, List.set_cons_zero, List.set_cons_succ]
    refine wpAnyH_take (i := 40) (oi := { dst := some 112, op := Op.move (Operand.tmp 111), type := 4, pos := "law.go:60", after := #[{ on := 39, ground := Ground.data }, { on := 35, ground := Ground.chain }], guard := none }) (v := (.bool true)) rfl (by kernel_rfl) (by kernel_rfl) (by kernel_rfl) (fun _ _ _ h => h) (Or.inl ⟨by rfl, ?_⟩) hHeld33 ?_
    · rintro u ⟨hb, p0, p1, p2, p3, p4, p5, p6, p7, p8, p9, p10, p11⟩
      go_simp <;> first | rfl | kernel_rfl
    try simp only [Act.put, List.setIfInBounds_toArray, List.set_cons_zero, List.set_cons_succ]
    refine wpAnyH_ready (rs := [41]) (by kernel_rfl) (by simp) ?_
    refine AllReadyH.cons (o := { dst := some 113, op := Op.call { callee := Callee.value (Operand.func 9), args := #[], argTypes := #[] }, type := 4, pos := "law.go:60", after := #[{ on := 40, ground := Ground.chain }, { on := 40, ground := Ground.guard }], guard := some (40, true) }) rfl (fun Kq hKq => ?_) AllReadyH.nil
    go_simp
    refine (KH.out _).mono ?_
    rintro _ V7 ⟨rfl, hb7⟩
    go_simp
    refine hKq.out _ _ ((HS.out _ (hHeld33.1.trans (hb7.mono hHeld33.1.size)))) (fun hHeld41 => ?_)
    clear hKq Kq
    try simp only [Act.put, List.setIfInBounds_toArray, List.set_cons_zero, List.set_cons_succ]
    refine wpAnyH_take (i := 42) (oi := { dst := some 114, op := Op.pick (Operand.tmp 112) (Operand.tmp 113) (Operand.const (Value.bool false)), type := 4, pos := "law.go:60", after := #[{ on := 40, ground := Ground.data }, { on := 41, ground := Ground.data }], guard := none }) (v := (.bool true)) rfl (by kernel_rfl) (by kernel_rfl) (by kernel_rfl) (fun _ _ _ h => h) (Or.inl ⟨by rfl, ?_⟩) hHeld41 ?_
    · rintro u ⟨hb, p0, p1, p2, p3, p4, p5, p6, p7, p8, p9, p10, p11⟩
      go_simp <;> first | rfl | kernel_rfl
    try simp only [Act.put, List.setIfInBounds_toArray, List.set_cons_zero, List.set_cons_succ]
    refine wpAnyH_take (i := 43) (oi := { dst := some 2, op := Op.assign (Operand.tmp 114), type := 4, pos := "law.go:60", after := #[{ on := 42, ground := Ground.data }, { on := 41, ground := Ground.chain }, { on := 0, ground := Ground.phase }, { on := 1, ground := Ground.phase }, { on := 2, ground := Ground.phase }, { on := 3, ground := Ground.phase }, { on := 4, ground := Ground.phase }, { on := 5, ground := Ground.phase }, { on := 6, ground := Ground.phase }, { on := 7, ground := Ground.phase }, { on := 8, ground := Ground.phase }, { on := 9, ground := Ground.phase }, { on := 10, ground := Ground.phase }, { on := 11, ground := Ground.phase }, { on := 12, ground := Ground.phase }, { on := 13, ground := Ground.phase }, { on := 14, ground := Ground.phase }, { on := 15, ground := Ground.phase }, { on := 16, ground := Ground.phase }, { on := 17, ground := Ground.phase }, { on := 18, ground := Ground.phase }, { on := 19, ground := Ground.phase }, { on := 20, ground := Ground.phase }, { on := 21, ground := Ground.phase }, { on := 22, ground := Ground.phase }, { on := 23, ground := Ground.phase }, { on := 24, ground := Ground.phase }, { on := 25, ground := Ground.phase }, { on := 26, ground := Ground.phase }, { on := 27, ground := Ground.phase }, { on := 28, ground := Ground.phase }, { on := 29, ground := Ground.phase }, { on := 30, ground := Ground.phase }, { on := 31, ground := Ground.phase }, { on := 32, ground := Ground.phase }, { on := 33, ground := Ground.phase }, { on := 34, ground := Ground.phase }, { on := 35, ground := Ground.phase }, { on := 36, ground := Ground.phase }, { on := 37, ground := Ground.phase }, { on := 38, ground := Ground.phase }, { on := 39, ground := Ground.phase }, { on := 40, ground := Ground.phase }, { on := 41, ground := Ground.phase }, { on := 42, ground := Ground.phase }], guard := none }) (v := (.bool true)) rfl (by kernel_rfl) (by kernel_rfl) (by kernel_rfl) (fun _ _ _ h => h) (Or.inl ⟨by rfl, ?_⟩) hHeld41 ?_
    · rintro u ⟨hb, p0, p1, p2, p3, p4, p5, p6, p7, p8, p9, p10, p11⟩
      go_simp <;> first | rfl | kernel_rfl
    try simp only [Act.put, List.setIfInBounds_toArray, List.set_cons_zero, List.set_cons_succ]
    refine wpAnyH_done (by kernel_rfl) ?_ _
    go_wp2_with fail
    go_ret
    exact ⟨rfl, HBV.out.trans (hHeld41.1.mono HBV.out.size)⟩
  | true =>
    by_cases hem : (A.length : Int) ≤ 0
    · have hA0 : A.length = 0 := by omega
      go_upto_region 7 with (fail)
      clear x5 RX3 HZ hs1 hs2
      have HCT3 : Hid (Ch.Ct W2.heap.size W3 c M K N) := HCT.out
      clear HCT HN hem hA0
      have e0 : W3.cell? ⟨be, 0, none⟩ = some (.int .i64 d) := RE3.out.cell 0
      have e1 : W3.cell? ⟨be, 1, none⟩ = some (.int .u8 k) := RE3.out.cell 1
      have e2 : W3.cell? ⟨be, 2, none⟩ = some (.int .u64 s) := RE3.out.cell 2
      have e3 : W3.cell? ⟨be, 3, none⟩ = some (.slice a L.length cap) := RE3.out.cell 3
      obtain ⟨T1, hT1⟩ : ∃ T1, T1 = (totM d k L).1 := ⟨_, rfl⟩
      obtain ⟨T2, hT2⟩ : ∃ T2, T2 = (totM d k L).2 := ⟨_, rfl⟩
      have KT1 := Lib.hid (totals_c d k s L a cap W3 (H.out.later HB3.out) (by have := HSM.out; omega))
      have KT2 : Hid (∀ u, Below w.heap.size w u → Calls Try.prog 13 #[.agg #[.int .i64 d, .int .u8 k, .int .u64 s, .slice a L.length cap]] u fun e w' => e = .returned (.tuple #[.int .i64 T1, .int .i64 T1, .int .i64 T2]) ∧ Below u.heap.size u w') := fun u hu => by
        rw [hT1, hT2]
        exact rtotals_c d k s L a cap u (H.out.later hu) (by have := HSM.out; omega)
      rw [← hT1, ← hT2] at KT1
      clear hT1 hT2
      go_wp2_with fail
      refine KT1.out.mono ?_
      rintro _ W5 ⟨rfl, hb5⟩
      have HB5 : Hid (Below w.heap.size w W5) := HB3.out.trans (hb5.mono HB3.out.size)
      have RE5 := Lib.hid (RE3.out.later hb5)
      have HCT5 := Lib.hid (HCT3.out.later hb5)
      clear e0 e1 e2 e3 KT1 hb5 HB3 RE3 HCT3
      have e0 : W5.cell? ⟨be, 0, none⟩ = some (.int .i64 d) := RE5.out.cell 0
      have e1 : W5.cell? ⟨be, 1, none⟩ = some (.int .u8 k) := RE5.out.cell 1
      have e2 : W5.cell? ⟨be, 2, none⟩ = some (.int .u64 s) := RE5.out.cell 2
      have e3 : W5.cell? ⟨be, 3, none⟩ = some (.slice a L.length cap) := RE5.out.cell 3
      go_wp2_with fail
      refine (KT2.out W5 HB5.out).mono ?_
      rintro _ W6 ⟨rfl, hb6⟩
      have HB6 : Hid (Below w.heap.size w W6) := HB5.out.trans (hb6.mono HB5.out.size)
      have RE6 := Lib.hid (RE5.out.later hb6)
      have HCT6 := Lib.hid (HCT5.out.later hb6)
      clear e0 e1 e2 e3 KT2 hb6 HB5 RE5 HCT5
      have e0 : W6.cell? ⟨be, 0, none⟩ = some (.int .i64 d) := RE6.out.cell 0
      have e1 : W6.cell? ⟨be, 1, none⟩ = some (.int .u8 k) := RE6.out.cell 1
      have e2 : W6.cell? ⟨be, 2, none⟩ = some (.int .u64 s) := RE6.out.cell 2
      have e3 : W6.cell? ⟨be, 3, none⟩ = some (.slice a L.length cap) := RE6.out.cell 3
      obtain ⟨D, hD⟩ : ∃ D, D = (revM d k s L day).1.1 := ⟨_, rfl⟩
      obtain ⟨K9, hK9⟩ : ∃ K9, K9 = (revM d k s L day).1.2.1 := ⟨_, rfl⟩
      obtain ⟨S9, hS9⟩ : ∃ S9, S9 = (revM d k s L day).1.2.2 := ⟨_, rfl⟩
      obtain ⟨R, hR⟩ : ∃ R, R = (revM d k s L day).2.1 := ⟨_, rfl⟩
      obtain ⟨z, hz⟩ : ∃ z, z = (revM d k s L day).2.2 := ⟨_, rfl⟩
      have HRL : Hid (R.length ≤ 100) := by show _ ≤ _; rw [hR]; exact Nat.le_trans (revM_len d k s L day) HSM.out
      have KR1 : Hid (∀ u, Below w.heap.size w u → Calls Try.prog 14 #[.agg #[.int .i64 d, .int .u8 k, .int .u64 s, .slice a L.length cap], .int .i64 day] u fun e w' => ∃ ra rc, e = .returned (.tuple #[.agg #[.int .i64 D, .int .u8 K9, .int .u64 S9, .slice ra R.length rc], .int .i64 z]) ∧ Lns w' ra R ∧ Below u.heap.size u w') := fun u hu => by
        refine (reverse_c d k s L a cap day u (H.out.later hu) (by have := HSM.out; omega)).mono ?_
        intro e w' he
        rw [hD, hK9, hS9, hR, hz]
        exact rev_form he
      have KR2 : Hid (∀ u, Below w.heap.size w u → Calls Try.prog 15 #[.agg #[.int .i64 d, .int .u8 k, .int .u64 s, .slice a L.length cap], .int .i64 day] u fun e w' => ∃ ra rc, e = .returned (.tuple #[.agg #[.int .i64 D, .int .u8 K9, .int .u64 S9, .slice ra R.length rc], .int .i64 z]) ∧ Lns w' ra R ∧ Below u.heap.size u w') := fun u hu => by
        refine (rreverse_c d k s L a cap day u (H.out.later hu) (by have := HSM.out; omega)).mono ?_
        intro e w' he
        rw [hD, hK9, hS9, hR, hz]
        exact rev_form he
      clear hD hK9 hS9 hR hz
      go_wp2_with fail
      refine (KR1.out W6 HB6.out).mono ?_
      rintro _ W7 ⟨ra, rc, rfl, hr7, hb7⟩
      have HB7 : Hid (Below w.heap.size w W7) := HB6.out.trans (hb7.mono HB6.out.size)
      have RE7 := Lib.hid (RE6.out.later hb7)
      have HCT7 := Lib.hid (HCT6.out.later hb7)
      have HR7 := Lib.hid hr7
      clear e0 e1 e2 e3 KR1 hb7 HB6 RE6 HCT6 hr7
      go_upto_region 10 with (fail)
      have bz : Below W7.heap.size W7 (W7.alloc (.cells #[.int .i64 D, .int .u8 K9, .int .u64 S9, .slice ra R.length rc] TEn)) := (Below.refl _ _).alloc (Nat.le_refl _) _
      have RA8 : Hid (Rw (W7.alloc (.cells #[.int .i64 D, .int .u8 K9, .int .u64 S9, .slice ra R.length rc] TEn)) W7.heap.size TEn [.int .i64 D, .int .u8 K9, .int .u64 S9, .slice ra R.length rc]) := Rw.new W7 [.int .i64 D, .int .u8 K9, .int .u64 S9, .slice ra R.length rc] TEn
      have HB8 : Hid (Below w.heap.size w (W7.alloc (.cells #[.int .i64 D, .int .u8 K9, .int .u64 S9, .slice ra R.length rc] TEn))) := HB7.out.trans (bz.mono HB7.out.size)
      have RE8 := Lib.hid (RE7.out.later bz)
      have HCT8 := Lib.hid (HCT7.out.later bz)
      have HR8 := Lib.hid (HR7.out.later bz)
      obtain ⟨br, hbr⟩ : ∃ br, br = W7.heap.size := ⟨_, rfl⟩
      rw [← hbr] at RA8 ⊢
      generalize W7.alloc (.cells #[.int .i64 D, .int .u8 K9, .int .u64 S9, .slice ra R.length rc] TEn) = W8 at RA8 HB8 RE8 HCT8 HR8 ⊢
      clear bz hbr HB7 RE7 HCT7 HR7
      have e0 : W8.cell? ⟨be, 0, none⟩ = some (.int .i64 d) := RE8.out.cell 0
      have e1 : W8.cell? ⟨be, 1, none⟩ = some (.int .u8 k) := RE8.out.cell 1
      have e2 : W8.cell? ⟨be, 2, none⟩ = some (.int .u64 s) := RE8.out.cell 2
      have e3 : W8.cell? ⟨be, 3, none⟩ = some (.slice a L.length cap) := RE8.out.cell 3
      go_wp2_with fail
      refine (KR2.out W8 HB8.out).mono ?_
      rintro _ W9 ⟨rb, rd, rfl, hs9, hb9⟩
      have HB9 : Hid (Below w.heap.size w W9) := HB8.out.trans (hb9.mono HB8.out.size)
      have RE9 := Lib.hid (RE8.out.later hb9)
      have HCT9 := Lib.hid (HCT8.out.later hb9)
      have HR9 := Lib.hid (HR8.out.later hb9)
      have RA9 := Lib.hid (RA8.out.later hb9)
      have HS9 := Lib.hid hs9
      clear e0 e1 e2 e3 KR2 hb9 HB8 RE8 HCT8 hs9 HR8 RA8
      go_upto_region 11 with (fail)
      have bz : Below W9.heap.size W9 (W9.alloc (.cells #[.int .i64 D, .int .u8 K9, .int .u64 S9, .slice rb R.length rd] TEn)) := (Below.refl _ _).alloc (Nat.le_refl _) _
      have RB0 : Hid (Rw (W9.alloc (.cells #[.int .i64 D, .int .u8 K9, .int .u64 S9, .slice rb R.length rd] TEn)) W9.heap.size TEn [.int .i64 D, .int .u8 K9, .int .u64 S9, .slice rb R.length rd]) := Rw.new W9 [.int .i64 D, .int .u8 K9, .int .u64 S9, .slice rb R.length rd] TEn
      have HBV : Hid (Below w.heap.size w (W9.alloc (.cells #[.int .i64 D, .int .u8 K9, .int .u64 S9, .slice rb R.length rd] TEn))) := HB9.out.trans (bz.mono HB9.out.size)
      have REV := Lib.hid (RE9.out.later bz)
      have HCTV := Lib.hid (HCT9.out.later bz)
      have HRV := Lib.hid (HR9.out.later bz)
      have HSV := Lib.hid (HS9.out.later bz)
      have RAV := Lib.hid (RA9.out.later bz)
      obtain ⟨bs9, hbr⟩ : ∃ br, br = W9.heap.size := ⟨_, rfl⟩
      rw [← hbr] at RB0 ⊢
      generalize W9.alloc (.cells #[.int .i64 D, .int .u8 K9, .int .u64 S9, .slice rb R.length rd] TEn) = V at RB0 HBV REV HCTV HRV HSV RAV ⊢
      clear bz hbr HB9 RE9 HCT9 HR9 HS9 RA9
      have HS : Hid (∀ u, Below V.heap.size V u → (Below V.heap.size V u ∧ u.cell? ⟨be, 0, none⟩ = some (.int .i64 d) ∧ u.cell? ⟨be, 1, none⟩ = some (.int .u8 k) ∧ u.cell? ⟨be, 2, none⟩ = some (.int .u64 s) ∧ u.cell? ⟨be, 3, none⟩ = some (.slice a L.length cap) ∧ u.cell? ⟨br, 0, none⟩ = some (.int .i64 D) ∧ u.cell? ⟨br, 1, none⟩ = some (.int .u8 K9) ∧ u.cell? ⟨br, 2, none⟩ = some (.int .u64 S9) ∧ u.cell? ⟨br, 3, none⟩ = some (.slice ra R.length rc) ∧ u.cell? ⟨bs9, 0, none⟩ = some (.int .i64 D) ∧ u.cell? ⟨bs9, 1, none⟩ = some (.int .u8 K9) ∧ u.cell? ⟨bs9, 2, none⟩ = some (.int .u64 S9) ∧ u.cell? ⟨bs9, 3, none⟩ = some (.slice rb R.length rd))) := fun u hu => ⟨hu, (REV.out.later hu).cell 0, (REV.out.later hu).cell 1, (REV.out.later hu).cell 2, (REV.out.later hu).cell 3, (RAV.out.later hu).cell 0, (RAV.out.later hu).cell 1, (RAV.out.later hu).cell 2, (RAV.out.later hu).cell 3, (RB0.out.later hu).cell 0, (RB0.out.later hu).cell 1, (RB0.out.later hu).cell 2, (RB0.out.later hu).cell 3⟩
      have HLU : Hid (∀ u, Below V.heap.size V u → Lns u a L) := fun u hu => H.out.later (HBV.out.trans (hu.mono HBV.out.size))
      obtain ⟨n1, hn1⟩ : ∃ n1, n1 = chkM d k L := ⟨_, rfl⟩
      obtain ⟨n2, hn2⟩ : ∃ n2, n2 = onM M d k L := ⟨_, rfl⟩
      have KC1 : Hid (∀ u, Below V.heap.size V u → Calls Try.prog 16 #[.agg #[.int .i64 d, .int .u8 k, .int .u64 s, .slice a L.length cap]] u fun e w' => e = .returned (.int .i64 n1) ∧ Below u.heap.size u w') := fun u hu => by
        rw [hn1]
        exact check_c d k s L a cap u (HLU.out u hu) (by have := HSM.out; omega)
      have KC2 : Hid (∀ u, Below V.heap.size V u → Calls Try.prog 17 #[.agg #[.int .i64 d, .int .u8 k, .int .u64 s, .slice a L.length cap]] u fun e w' => e = .returned (.int .i64 n1) ∧ Below u.heap.size u w') := fun u hu => by
        rw [hn1]
        exact rcheck_c d k s L a cap u (HLU.out u hu) (by have := HSM.out; omega)
      have KON : Hid (∀ u, Below V.heap.size V u → Calls Try.prog 18 #[.pointer (some ⟨c, 0, none⟩), .agg #[.int .i64 d, .int .u8 k, .int .u64 s, .slice a L.length cap]] u fun e w' => e = .returned (.int .i64 n2) ∧ Below u.heap.size u w') := fun u hu => by
        rw [hn2]
        exact on_c (HCTV.out.later hu) d k s L a cap (HLU.out u hu) (by have := HSM.out; omega)
      have KAL : Hid (∀ u, Below V.heap.size V u → Calls Try.prog 20 #[.pointer (some ⟨c, 0, none⟩)] u fun e w' => ∃ la lc, e = .returned (.slice la K.length lc) ∧ Ch.Acs w' la (Ch.lst M K) ∧ Below u.heap.size u w') := fun u hu => by
        refine (Ch.ct_all (HCTV.out.later hu)).mono ?_
        rintro e w' ⟨v, rfl, ho, hb⟩
        obtain ⟨la, lc, rfl, h2, _⟩ := Ch.acs_own ho rfl
        exact ⟨la, lc, by rw [Ch.lst_len], h2, hb⟩
      have KRO : Hid (∀ u la lc, Below V.heap.size V u → Ch.Acs u la (Ch.lst M K) → Calls Try.prog 19 #[.slice la K.length lc, .agg #[.int .i64 d, .int .u8 k, .int .u64 s, .slice a L.length cap]] u fun e w' => e = .returned (.int .i64 n2) ∧ Below u.heap.size u w') := fun u la lc hu hA => by
        rw [hn2]
        exact ron_c HCTV.out.gm d k s L a cap la lc u (HLU.out u hu) (by have := HSM.out; omega) hA
      have KSE : Hid (∀ u, Below V.heap.size V u → Calls Try.prog 21 #[.agg #[.int .i64 D, .int .u8 K9, .int .u64 S9, .slice ra R.length rc], .agg #[.int .i64 D, .int .u8 K9, .int .u64 S9, .slice rb R.length rd]] u fun e w' => e = .returned (.bool true) ∧ Below u.heap.size u w') := fun u hu =>
        sameE_c D K9 S9 R ra rb rc rd u (HRV.out.later hu) (HSV.out.later hu) (by have := HRL.out; omega)
      clear hn1 hn2 HLU RB0 REV HCTV HRV HSV RAV HRL
      refine wp_region_held_drew (S := (fun u => (Below V.heap.size V u ∧ u.cell? ⟨be, 0, none⟩ = some (.int .i64 d) ∧ u.cell? ⟨be, 1, none⟩ = some (.int .u8 k) ∧ u.cell? ⟨be, 2, none⟩ = some (.int .u64 s) ∧ u.cell? ⟨be, 3, none⟩ = some (.slice a L.length cap) ∧ u.cell? ⟨br, 0, none⟩ = some (.int .i64 D) ∧ u.cell? ⟨br, 1, none⟩ = some (.int .u8 K9) ∧ u.cell? ⟨br, 2, none⟩ = some (.int .u64 S9) ∧ u.cell? ⟨br, 3, none⟩ = some (.slice ra R.length rc) ∧ u.cell? ⟨bs9, 0, none⟩ = some (.int .i64 D) ∧ u.cell? ⟨bs9, 1, none⟩ = some (.int .u8 K9) ∧ u.cell? ⟨bs9, 2, none⟩ = some (.int .u64 S9) ∧ u.cell? ⟨bs9, 3, none⟩ = some (.slice rb R.length rd)))) (by kernel_rfl) ?_ (fun hHeld => ?_)
      · exact HS.out _ (Below.refl _ V).drew
      refine wpAnyH_take (i := 0) (oi := { dst := some 72, op := Op.load 25 (Operand.tmp 3), type := 25, pos := "law.go:60", after := #[], guard := none }) (v := (.agg #[.int .i64 d, .int .u8 k, .int .u64 s, .slice a L.length cap])) rfl (by kernel_rfl) (by kernel_rfl) (by kernel_rfl) (fun _ _ _ h => h) (Or.inl ⟨by rfl, ?_⟩) hHeld ?_
      · rintro u ⟨hb, p0, p1, p2, p3, p4, p5, p6, p7, p8, p9, p10, p11⟩
        go_simp <;> first | rfl | kernel_rfl
      try simp only [Act.put, List.setIfInBounds_toArray, List.set_cons_zero, List.set_cons_succ]
      refine wpAnyH_take (i := 2) (oi := { dst := some 74, op := Op.load 25 (Operand.tmp 3), type := 25, pos := "law.go:60", after := #[], guard := none }) (v := (.agg #[.int .i64 d, .int .u8 k, .int .u64 s, .slice a L.length cap])) rfl (by kernel_rfl) (by kernel_rfl) (by kernel_rfl) (fun _ _ _ h => h) (Or.inl ⟨by rfl, ?_⟩) hHeld ?_
      · rintro u ⟨hb, p0, p1, p2, p3, p4, p5, p6, p7, p8, p9, p10, p11⟩
        go_simp <;> first | rfl | kernel_rfl
      try simp only [Act.put, List.setIfInBounds_toArray, List.set_cons_zero, List.set_cons_succ]
      refine wpAnyH_ready (rs := [1]) (by kernel_rfl) (by simp) ?_
      refine AllReadyH.cons (o := { dst := some 73, op := Op.call { callee := Callee.value (Operand.func 16), args := #[Operand.tmp 72], argTypes := #[25] }, type := 32, pos := "law.go:60", after := #[{ on := 0, ground := Ground.data }], guard := none }) rfl (fun Kq hKq => ?_) AllReadyH.nil
      go_simp
      refine (KC1.out _ hHeld.1).mono ?_
      rintro _ V1 ⟨rfl, hb1⟩
      go_simp
      refine hKq.out _ _ ((HS.out _ (hHeld.1.trans (hb1.mono hHeld.1.size)))) (fun hHeld1 => ?_)
      clear hKq Kq
      try simp only [Act.put, List.setIfInBounds_toArray, List.set_cons_zero, List.set_cons_succ]
      refine wpAnyH_ready (rs := [3]) (by kernel_rfl) (by simp) ?_
      refine AllReadyH.cons (o := { dst := some 75, op := Op.call { callee := Callee.value (Operand.func 17), args := #[Operand.tmp 74], argTypes := #[25] }, type := 3, pos := "law.go:60", after := #[{ on := 2, ground := Ground.data }, { on := 1, ground := Ground.chain }], guard := none }) rfl (fun Kq hKq => ?_) AllReadyH.nil
      go_simp
      refine (KC2.out _ hHeld1.1).mono ?_
      rintro _ V2 ⟨rfl, hb2⟩
      go_simp
      refine hKq.out _ _ ((HS.out _ (hHeld1.1.trans (hb2.mono hHeld1.1.size)))) (fun hHeld3 => ?_)
      clear hKq Kq
      try simp only [Act.put, List.setIfInBounds_toArray, List.set_cons_zero, List.set_cons_succ]
      refine wpAnyH_take (i := 4) (oi := { dst := some 76, op := Op.binOp BinOp.eql 3 (Operand.tmp 73) (Operand.tmp 75) 3, type := 4, pos := "law.go:60", after := #[{ on := 1, ground := Ground.data }, { on := 3, ground := Ground.data }], guard := none }) (v := (.bool true)) rfl (by kernel_rfl) (by kernel_rfl) (by kernel_rfl) (fun _ _ _ h => h) (Or.inl ⟨by rfl, ?_⟩) hHeld3 ?_
      · rintro u ⟨hb, p0, p1, p2, p3, p4, p5, p6, p7, p8, p9, p10, p11⟩
        go_simp <;> first | rfl | kernel_rfl
      try simp only [Act.put, List.setIfInBounds_toArray, List.set_cons_zero, List.set_cons_succ]
      refine wpAnyH_take (i := 5) (oi := { dst := some 77, op := Op.move (Operand.tmp 76), type := 4, pos := "law.go:60", after := #[{ on := 4, ground := Ground.data }, { on := 3, ground := Ground.chain }], guard := none }) (v := (.bool true)) rfl (by kernel_rfl) (by kernel_rfl) (by kernel_rfl) (fun _ _ _ h => h) (Or.inl ⟨by rfl, ?_⟩) hHeld3 ?_
      · rintro u ⟨hb, p0, p1, p2, p3, p4, p5, p6, p7, p8, p9, p10, p11⟩
        go_simp <;> first | rfl | kernel_rfl
      try simp only [Act.put, List.setIfInBounds_toArray, List.set_cons_zero, List.set_cons_succ]
      refine wpAnyH_take (i := 6) (oi := { dst := some 78, op := Op.move (Operand.tmp 6), type := 30, pos := "law.go:60", after := #[{ on := 5, ground := Ground.guard }], guard := some (5, true) }) (v := (.pointer (some ⟨c, 0, none⟩))) rfl (by kernel_rfl) (by kernel_rfl) (by kernel_rfl) (fun _ _ _ h => h) (Or.inl ⟨by rfl, ?_⟩) hHeld3 ?_
      · rintro u ⟨hb, p0, p1, p2, p3, p4, p5, p6, p7, p8, p9, p10, p11⟩
        go_simp <;> first | rfl | kernel_rfl
      try simp only [Act.put, List.setIfInBounds_toArray, List.set_cons_zero, List.set_cons_succ]
      refine wpAnyH_take (i := 7) (oi := { dst := some 79, op := Op.load 25 (Operand.tmp 3), type := 25, pos := "law.go:60", after := #[{ on := 5, ground := Ground.guard }], guard := some (5, true) }) (v := (.agg #[.int .i64 d, .int .u8 k, .int .u64 s, .slice a L.length cap])) rfl (by kernel_rfl) (by kernel_rfl) (by kernel_rfl) (fun _ _ _ h => h) (Or.inl ⟨by rfl, ?_⟩) hHeld3 ?_
      · rintro u ⟨hb, p0, p1, p2, p3, p4, p5, p6, p7, p8, p9, p10, p11⟩
        go_simp <;> first | rfl | kernel_rfl
      try simp only [Act.put, List.setIfInBounds_toArray, List.set_cons_zero, List.set_cons_succ]
      refine wpAnyH_take (i := 9) (oi := { dst := some 81, op := Op.move (Operand.tmp 6), type := 30, pos := "law.go:60", after := #[{ on := 5, ground := Ground.guard }], guard := some (5, true) }) (v := (.pointer (some ⟨c, 0, none⟩))) rfl (by kernel_rfl) (by kernel_rfl) (by kernel_rfl) (fun _ _ _ h => h) (Or.inl ⟨by rfl, ?_⟩) hHeld3 ?_
      · rintro u ⟨hb, p0, p1, p2, p3, p4, p5, p6, p7, p8, p9, p10, p11⟩
        go_simp <;> first | rfl | kernel_rfl
      try simp only [Act.put, List.setIfInBounds_toArray, List.set_cons_zero, List.set_cons_succ]
      refine wpAnyH_take (i := 11) (oi := { dst := some 83, op := Op.load 25 (Operand.tmp 3), type := 25, pos := "law.go:60", after := #[{ on := 5, ground := Ground.guard }], guard := some (5, true) }) (v := (.agg #[.int .i64 d, .int .u8 k, .int .u64 s, .slice a L.length cap])) rfl (by kernel_rfl) (by kernel_rfl) (by kernel_rfl) (fun _ _ _ h => h) (Or.inl ⟨by rfl, ?_⟩) hHeld3 ?_
      · rintro u ⟨hb, p0, p1, p2, p3, p4, p5, p6, p7, p8, p9, p10, p11⟩
        go_simp <;> first | rfl | kernel_rfl
      try simp only [Act.put, List.setIfInBounds_toArray, List.set_cons_zero, List.set_cons_succ]
      refine wpAnyH_ready (rs := [8]) (by kernel_rfl) (by simp) ?_
      refine AllReadyH.cons (o := { dst := some 80, op := Op.call { callee := Callee.value (Operand.func 18), args := #[Operand.tmp 78, Operand.tmp 79], argTypes := #[30, 25] }, type := 32, pos := "law.go:60", after := #[{ on := 6, ground := Ground.data }, { on := 7, ground := Ground.data }, { on := 5, ground := Ground.chain }, { on := 5, ground := Ground.guard }], guard := some (5, true) }) rfl (fun Kq hKq => ?_) AllReadyH.nil
      go_simp
      refine (KON.out _ hHeld3.1).mono ?_
      rintro _ V3 ⟨rfl, hb3⟩
      go_simp
      refine hKq.out _ _ ((HS.out _ (hHeld3.1.trans (hb3.mono hHeld3.1.size)))) (fun hHeld8 => ?_)
      clear hKq Kq
      try simp only [Act.put, List.setIfInBounds_toArray, List.set_cons_zero, List.set_cons_succ]
      refine wpAnyH_ready (rs := [10]) (by kernel_rfl) (by simp) ?_
      refine AllReadyH.cons (o := { dst := some 82, op := Op.call { callee := Callee.value (Operand.func 20), args := #[Operand.tmp 81], argTypes := #[30] }, type := 26, pos := "law.go:60", after := #[{ on := 9, ground := Ground.data }, { on := 8, ground := Ground.chain }, { on := 5, ground := Ground.guard }], guard := some (5, true) }) rfl (fun Kq hKq => ?_) AllReadyH.nil
      go_simp
      refine (KAL.out _ hHeld8.1).mono ?_
      rintro _ V4 ⟨la, lc, rfl, hac, hb4⟩
      have HAC := Lib.hid hac
      clear hac
      go_simp
      refine hKq.out _ _ ((HS.out _ (hHeld8.1.trans (hb4.mono hHeld8.1.size)))) (fun hHeld10 => ?_)
      clear hKq Kq
      try simp only [Act.put, List.setIfInBounds_toArray, List.set_cons_zero, List.set_cons_succ]
      refine wpAnyH_ready (rs := [12]) (by kernel_rfl) (by simp) ?_
      refine AllReadyH.cons (o := { dst := some 84, op := Op.call { callee := Callee.value (Operand.func 19), args := #[Operand.tmp 82, Operand.tmp 83], argTypes := #[26, 25] }, type := 3, pos := "law.go:60", after := #[{ on := 10, ground := Ground.data }, { on := 11, ground := Ground.data }, { on := 10, ground := Ground.chain }, { on := 5, ground := Ground.guard }], guard := some (5, true) }) rfl (fun Kq hKq => ?_) AllReadyH.nil
      go_simp
      refine (KRO.out _ la lc hHeld10.1 HAC.out).mono ?_
      rintro _ V5 ⟨rfl, hb5⟩
      go_simp
      refine hKq.out _ _ ((HS.out _ (hHeld10.1.trans (hb5.mono hHeld10.1.size)))) (fun hHeld12 => ?_)
      clear hKq Kq
      try simp only [Act.put, List.setIfInBounds_toArray, List.set_cons_zero, List.set_cons_succ]
      refine wpAnyH_take (i := 13) (oi := { dst := some 85, op := Op.binOp BinOp.eql 3 (Operand.tmp 80) (Operand.tmp 84) 3, type := 4, pos := "law.go:60", after := #[{ on := 8, ground := Ground.data }, { on := 12, ground := Ground.data }, { on := 5, ground := Ground.guard }], guard := some (5, true) }) (v := (.bool true)) rfl (by kernel_rfl) (by kernel_rfl) (by kernel_rfl) (fun _ _ _ h => h) (Or.inl ⟨by rfl, ?_⟩) hHeld12 ?_
      · rintro u ⟨hb, p0, p1, p2, p3, p4, p5, p6, p7, p8, p9, p10, p11⟩
        go_simp <;> first | rfl | kernel_rfl
      try simp only [Act.put, List.setIfInBounds_toArray, List.set_cons_zero, List.set_cons_succ]
      refine wpAnyH_take (i := 14) (oi := { dst := some 86, op := Op.pick (Operand.tmp 77) (Operand.tmp 85) (Operand.const (Value.bool false)), type := 4, pos := "law.go:60", after := #[{ on := 5, ground := Ground.data }, { on := 13, ground := Ground.data }], guard := none }) (v := (.bool true)) rfl (by kernel_rfl) (by kernel_rfl) (by kernel_rfl) (fun _ _ _ h => h) (Or.inl ⟨by rfl, ?_⟩) hHeld12 ?_
      · rintro u ⟨hb, p0, p1, p2, p3, p4, p5, p6, p7, p8, p9, p10, p11⟩
        go_simp <;> first | rfl | kernel_rfl
      try simp only [Act.put, List.setIfInBounds_toArray, List.set_cons_zero, List.set_cons_succ]
      refine wpAnyH_take (i := 15) (oi := { dst := some 87, op := Op.move (Operand.tmp 86), type := 4, pos := "law.go:60", after := #[{ on := 14, ground := Ground.data }, { on := 12, ground := Ground.chain }], guard := none }) (v := (.bool true)) rfl (by kernel_rfl) (by kernel_rfl) (by kernel_rfl) (fun _ _ _ h => h) (Or.inl ⟨by rfl, ?_⟩) hHeld12 ?_
      · rintro u ⟨hb, p0, p1, p2, p3, p4, p5, p6, p7, p8, p9, p10, p11⟩
        go_simp <;> first | rfl | kernel_rfl
      try simp only [Act.put, List.setIfInBounds_toArray, List.set_cons_zero, List.set_cons_succ]
      refine wpAnyH_take (i := 16) (oi := { dst := some 88, op := Op.move (Operand.tmp 7), type := 2, pos := "law.go:60", after := #[{ on := 15, ground := Ground.guard }], guard := some (15, true) }) (v := (.int .i64 T1)) rfl (by kernel_rfl) (by kernel_rfl) (by kernel_rfl) (fun _ _ _ h => h) (Or.inl ⟨by rfl, ?_⟩) hHeld12 ?_
      · rintro u ⟨hb, p0, p1, p2, p3, p4, p5, p6, p7, p8, p9, p10, p11⟩
        go_simp <;> first | rfl | kernel_rfl
      try simp only [Act.put, List.setIfInBounds_toArray, List.set_cons_zero, List.set_cons_succ]
      refine wpAnyH_take (i := 17) (oi := { dst := some 89, op := Op.move (Operand.tmp 10), type := 2, pos := "law.go:60", after := #[{ on := 15, ground := Ground.guard }], guard := some (15, true) }) (v := (.int .i64 T1)) rfl (by kernel_rfl) (by kernel_rfl) (by kernel_rfl) (fun _ _ _ h => h) (Or.inl ⟨by rfl, ?_⟩) hHeld12 ?_
      · rintro u ⟨hb, p0, p1, p2, p3, p4, p5, p6, p7, p8, p9, p10, p11⟩
        go_simp <;> first | rfl | kernel_rfl
      try simp only [Act.put, List.setIfInBounds_toArray, List.set_cons_zero, List.set_cons_succ]
      refine wpAnyH_take (i := 18) (oi := { dst := some 90, op := Op.binOp BinOp.eql 2 (Operand.tmp 88) (Operand.tmp 89) 2, type := 4, pos := "law.go:60", after := #[{ on := 16, ground := Ground.data }, { on := 17, ground := Ground.data }, { on := 15, ground := Ground.guard }], guard := some (15, true) }) (v := (.bool true)) rfl (by kernel_rfl) (by kernel_rfl) (by kernel_rfl) (fun _ _ _ h => h) (Or.inl ⟨by rfl, ?_⟩) hHeld12 ?_
      · rintro u ⟨hb, p0, p1, p2, p3, p4, p5, p6, p7, p8, p9, p10, p11⟩
        go_simp <;> first | rfl | kernel_rfl
      try simp only [Act.put, List.setIfInBounds_toArray, List.set_cons_zero, List.set_cons_succ]
      refine wpAnyH_take (i := 19) (oi := { dst := some 91, op := Op.pick (Operand.tmp 87) (Operand.tmp 90) (Operand.const (Value.bool false)), type := 4, pos := "law.go:60", after := #[{ on := 15, ground := Ground.data }, { on := 18, ground := Ground.data }], guard := none }) (v := (.bool true)) rfl (by kernel_rfl) (by kernel_rfl) (by kernel_rfl) (fun _ _ _ h => h) (Or.inl ⟨by rfl, ?_⟩) hHeld12 ?_
      · rintro u ⟨hb, p0, p1, p2, p3, p4, p5, p6, p7, p8, p9, p10, p11⟩
        go_simp <;> first | rfl | kernel_rfl
      try simp only [Act.put, List.setIfInBounds_toArray, List.set_cons_zero, List.set_cons_succ]
      refine wpAnyH_take (i := 20) (oi := { dst := some 92, op := Op.move (Operand.tmp 91), type := 4, pos := "law.go:60", after := #[{ on := 19, ground := Ground.data }, { on := 15, ground := Ground.chain }], guard := none }) (v := (.bool true)) rfl (by kernel_rfl) (by kernel_rfl) (by kernel_rfl) (fun _ _ _ h => h) (Or.inl ⟨by rfl, ?_⟩) hHeld12 ?_
      · rintro u ⟨hb, p0, p1, p2, p3, p4, p5, p6, p7, p8, p9, p10, p11⟩
        go_simp <;> first | rfl | kernel_rfl
      try simp only [Act.put, List.setIfInBounds_toArray, List.set_cons_zero, List.set_cons_succ]
      refine wpAnyH_take (i := 21) (oi := { dst := some 93, op := Op.move (Operand.tmp 8), type := 2, pos := "law.go:60", after := #[{ on := 20, ground := Ground.guard }], guard := some (20, true) }) (v := (.int .i64 T1)) rfl (by kernel_rfl) (by kernel_rfl) (by kernel_rfl) (fun _ _ _ h => h) (Or.inl ⟨by rfl, ?_⟩) hHeld12 ?_
      · rintro u ⟨hb, p0, p1, p2, p3, p4, p5, p6, p7, p8, p9, p10, p11⟩
        go_simp <;> first | rfl | kernel_rfl
      try simp only [Act.put, List.setIfInBounds_toArray, List.set_cons_zero, List.set_cons_succ]
      refine wpAnyH_take (i := 22) (oi := { dst := some 94, op := Op.move (Operand.tmp 11), type := 2, pos := "law.go:60", after := #[{ on := 20, ground := Ground.guard }], guard := some (20, true) }) (v := (.int .i64 T1)) rfl (by kernel_rfl) (by kernel_rfl) (by kernel_rfl) (fun _ _ _ h => h) (Or.inl ⟨by rfl, ?_⟩) hHeld12 ?_
      · rintro u ⟨hb, p0, p1, p2, p3, p4, p5, p6, p7, p8, p9, p10, p11⟩
        go_simp <;> first | rfl | kernel_rfl
      try simp only [Act.put, List.setIfInBounds_toArray, List.set_cons_zero, List.set_cons_succ]
      refine wpAnyH_take (i := 23) (oi := { dst := some 95, op := Op.binOp BinOp.eql 2 (Operand.tmp 93) (Operand.tmp 94) 2, type := 4, pos := "law.go:60", after := #[{ on := 21, ground := Ground.data }, { on := 22, ground := Ground.data }, { on := 20, ground := Ground.guard }], guard := some (20, true) }) (v := (.bool true)) rfl (by kernel_rfl) (by kernel_rfl) (by kernel_rfl) (fun _ _ _ h => h) (Or.inl ⟨by rfl, ?_⟩) hHeld12 ?_
      · rintro u ⟨hb, p0, p1, p2, p3, p4, p5, p6, p7, p8, p9, p10, p11⟩
        go_simp <;> first | rfl | kernel_rfl
      try simp only [Act.put, List.setIfInBounds_toArray, List.set_cons_zero, List.set_cons_succ]
      refine wpAnyH_take (i := 24) (oi := { dst := some 96, op := Op.pick (Operand.tmp 92) (Operand.tmp 95) (Operand.const (Value.bool false)), type := 4, pos := "law.go:60", after := #[{ on := 20, ground := Ground.data }, { on := 23, ground := Ground.data }], guard := none }) (v := (.bool true)) rfl (by kernel_rfl) (by kernel_rfl) (by kernel_rfl) (fun _ _ _ h => h) (Or.inl ⟨by rfl, ?_⟩) hHeld12 ?_
      · rintro u ⟨hb, p0, p1, p2, p3, p4, p5, p6, p7, p8, p9, p10, p11⟩
        go_simp <;> first | rfl | kernel_rfl
      try simp only [Act.put, List.setIfInBounds_toArray, List.set_cons_zero, List.set_cons_succ]
      refine wpAnyH_take (i := 25) (oi := { dst := some 97, op := Op.move (Operand.tmp 96), type := 4, pos := "law.go:60", after := #[{ on := 24, ground := Ground.data }, { on := 20, ground := Ground.chain }], guard := none }) (v := (.bool true)) rfl (by kernel_rfl) (by kernel_rfl) (by kernel_rfl) (fun _ _ _ h => h) (Or.inl ⟨by rfl, ?_⟩) hHeld12 ?_
      · rintro u ⟨hb, p0, p1, p2, p3, p4, p5, p6, p7, p8, p9, p10, p11⟩
        go_simp <;> first | rfl | kernel_rfl
      try simp only [Act.put, List.setIfInBounds_toArray, List.set_cons_zero, List.set_cons_succ]
      refine wpAnyH_take (i := 26) (oi := { dst := some 98, op := Op.move (Operand.tmp 9), type := 32, pos := "law.go:60", after := #[{ on := 25, ground := Ground.guard }], guard := some (25, true) }) (v := (.int .i64 T2)) rfl (by kernel_rfl) (by kernel_rfl) (by kernel_rfl) (fun _ _ _ h => h) (Or.inl ⟨by rfl, ?_⟩) hHeld12 ?_
      · rintro u ⟨hb, p0, p1, p2, p3, p4, p5, p6, p7, p8, p9, p10, p11⟩
        go_simp <;> first | rfl | kernel_rfl
      try simp only [Act.put, List.setIfInBounds_toArray, List.set_cons_zero, List.set_cons_succ]
      refine wpAnyH_take (i := 27) (oi := { dst := some 99, op := Op.move (Operand.tmp 12), type := 3, pos := "law.go:60", after := #[{ on := 25, ground := Ground.guard }], guard := some (25, true) }) (v := (.int .i64 T2)) rfl (by kernel_rfl) (by kernel_rfl) (by kernel_rfl) (fun _ _ _ h => h) (Or.inl ⟨by rfl, ?_⟩) hHeld12 ?_
      · rintro u ⟨hb, p0, p1, p2, p3, p4, p5, p6, p7, p8, p9, p10, p11⟩
        go_simp <;> first | rfl | kernel_rfl
      try simp only [Act.put, List.setIfInBounds_toArray, List.set_cons_zero, List.set_cons_succ]
      refine wpAnyH_take (i := 28) (oi := { dst := some 100, op := Op.binOp BinOp.eql 3 (Operand.tmp 98) (Operand.tmp 99) 3, type := 4, pos := "law.go:60", after := #[{ on := 26, ground := Ground.data }, { on := 27, ground := Ground.data }, { on := 25, ground := Ground.guard }], guard := some (25, true) }) (v := (.bool true)) rfl (by kernel_rfl) (by kernel_rfl) (by kernel_rfl) (fun _ _ _ h => h) (Or.inl ⟨by rfl, ?_⟩) hHeld12 ?_
      · rintro u ⟨hb, p0, p1, p2, p3, p4, p5, p6, p7, p8, p9, p10, p11⟩
        go_simp <;> first | rfl | kernel_rfl
      try simp only [Act.put, List.setIfInBounds_toArray, List.set_cons_zero, List.set_cons_succ]
      refine wpAnyH_take (i := 29) (oi := { dst := some 101, op := Op.pick (Operand.tmp 97) (Operand.tmp 100) (Operand.const (Value.bool false)), type := 4, pos := "law.go:60", after := #[{ on := 25, ground := Ground.data }, { on := 28, ground := Ground.data }], guard := none }) (v := (.bool true)) rfl (by kernel_rfl) (by kernel_rfl) (by kernel_rfl) (fun _ _ _ h => h) (Or.inl ⟨by rfl, ?_⟩) hHeld12 ?_
      · rintro u ⟨hb, p0, p1, p2, p3, p4, p5, p6, p7, p8, p9, p10, p11⟩
        go_simp <;> first | rfl | kernel_rfl
      try simp only [Act.put, List.setIfInBounds_toArray, List.set_cons_zero, List.set_cons_succ]
      refine wpAnyH_take (i := 30) (oi := { dst := some 102, op := Op.move (Operand.tmp 101), type := 4, pos := "law.go:60", after := #[{ on := 29, ground := Ground.data }, { on := 25, ground := Ground.chain }], guard := none }) (v := (.bool true)) rfl (by kernel_rfl) (by kernel_rfl) (by kernel_rfl) (fun _ _ _ h => h) (Or.inl ⟨by rfl, ?_⟩) hHeld12 ?_
      · rintro u ⟨hb, p0, p1, p2, p3, p4, p5, p6, p7, p8, p9, p10, p11⟩
        go_simp <;> first | rfl | kernel_rfl
      try simp only [Act.put, List.setIfInBounds_toArray, List.set_cons_zero, List.set_cons_succ]
      refine wpAnyH_take (i := 31) (oi := { dst := some 103, op := Op.load 25 (Operand.tmp 13), type := 25, pos := "law.go:60", after := #[{ on := 30, ground := Ground.guard }], guard := some (30, true) }) (v := (.agg #[.int .i64 D, .int .u8 K9, .int .u64 S9, .slice ra R.length rc])) rfl (by kernel_rfl) (by kernel_rfl) (by kernel_rfl) (fun _ _ _ h => h) (Or.inl ⟨by rfl, ?_⟩) hHeld12 ?_
      · rintro u ⟨hb, p0, p1, p2, p3, p4, p5, p6, p7, p8, p9, p10, p11⟩
        go_simp <;> first | rfl | kernel_rfl
      try simp only [Act.put, List.setIfInBounds_toArray, List.set_cons_zero, List.set_cons_succ]
      refine wpAnyH_take (i := 32) (oi := { dst := some 104, op := Op.load 25 (Operand.tmp 15), type := 25, pos := "law.go:60", after := #[{ on := 30, ground := Ground.guard }], guard := some (30, true) }) (v := (.agg #[.int .i64 D, .int .u8 K9, .int .u64 S9, .slice rb R.length rd])) rfl (by kernel_rfl) (by kernel_rfl) (by kernel_rfl) (fun _ _ _ h => h) (Or.inl ⟨by rfl, ?_⟩) hHeld12 ?_
      · rintro u ⟨hb, p0, p1, p2, p3, p4, p5, p6, p7, p8, p9, p10, p11⟩
        go_simp <;> first | rfl | kernel_rfl
      try simp only [Act.put, List.setIfInBounds_toArray, List.set_cons_zero, List.set_cons_succ]
      refine wpAnyH_ready (rs := [33]) (by kernel_rfl) (by simp) ?_
      refine AllReadyH.cons (o := { dst := some 105, op := Op.call { callee := Callee.value (Operand.func 21), args := #[Operand.tmp 103, Operand.tmp 104], argTypes := #[25, 25] }, type := 4, pos := "law.go:60", after := #[{ on := 31, ground := Ground.data }, { on := 32, ground := Ground.data }, { on := 30, ground := Ground.chain }, { on := 30, ground := Ground.guard }], guard := some (30, true) }) rfl (fun Kq hKq => ?_) AllReadyH.nil
      go_simp
      refine (KSE.out _ hHeld12.1).mono ?_
      rintro _ V6 ⟨rfl, hb6⟩
      go_simp
      refine hKq.out _ _ ((HS.out _ (hHeld12.1.trans (hb6.mono hHeld12.1.size)))) (fun hHeld33 => ?_)
      clear hKq Kq
      try simp only [Act.put, List.setIfInBounds_toArray, List.set_cons_zero, List.set_cons_succ]
      refine wpAnyH_take (i := 34) (oi := { dst := some 106, op := Op.pick (Operand.tmp 102) (Operand.tmp 105) (Operand.const (Value.bool false)), type := 4, pos := "law.go:60", after := #[{ on := 30, ground := Ground.data }, { on := 33, ground := Ground.data }], guard := none }) (v := (.bool true)) rfl (by kernel_rfl) (by kernel_rfl) (by kernel_rfl) (fun _ _ _ h => h) (Or.inl ⟨by rfl, ?_⟩) hHeld33 ?_
      · rintro u ⟨hb, p0, p1, p2, p3, p4, p5, p6, p7, p8, p9, p10, p11⟩
        go_simp <;> first | rfl | kernel_rfl
      try simp only [Act.put, List.setIfInBounds_toArray, List.set_cons_zero, List.set_cons_succ]
      refine wpAnyH_take (i := 35) (oi := { dst := some 107, op := Op.move (Operand.tmp 106), type := 4, pos := "law.go:60", after := #[{ on := 34, ground := Ground.data }, { on := 33, ground := Ground.chain }], guard := none }) (v := (.bool true)) rfl (by kernel_rfl) (by kernel_rfl) (by kernel_rfl) (fun _ _ _ h => h) (Or.inl ⟨by rfl, ?_⟩) hHeld33 ?_
      · rintro u ⟨hb, p0, p1, p2, p3, p4, p5, p6, p7, p8, p9, p10, p11⟩
        go_simp <;> first | rfl | kernel_rfl
      try simp only [Act.put, List.setIfInBounds_toArray, List.set_cons_zero, List.set_cons_succ]
      refine wpAnyH_take (i := 36) (oi := { dst := some 108, op := Op.move (Operand.tmp 14), type := 32, pos := "law.go:60", after := #[{ on := 35, ground := Ground.guard }], guard := some (35, true) }) (v := (.int .i64 z)) rfl (by kernel_rfl) (by kernel_rfl) (by kernel_rfl) (fun _ _ _ h => h) (Or.inl ⟨by rfl, ?_⟩) hHeld33 ?_
      · rintro u ⟨hb, p0, p1, p2, p3, p4, p5, p6, p7, p8, p9, p10, p11⟩
        go_simp <;> first | rfl | kernel_rfl
      try simp only [Act.put, List.setIfInBounds_toArray, List.set_cons_zero, List.set_cons_succ]
      refine wpAnyH_take (i := 37) (oi := { dst := some 109, op := Op.move (Operand.tmp 16), type := 3, pos := "law.go:60", after := #[{ on := 35, ground := Ground.guard }], guard := some (35, true) }) (v := (.int .i64 z)) rfl (by kernel_rfl) (by kernel_rfl) (by kernel_rfl) (fun _ _ _ h => h) (Or.inl ⟨by rfl, ?_⟩) hHeld33 ?_
      · rintro u ⟨hb, p0, p1, p2, p3, p4, p5, p6, p7, p8, p9, p10, p11⟩
        go_simp <;> first | rfl | kernel_rfl
      try simp only [Act.put, List.setIfInBounds_toArray, List.set_cons_zero, List.set_cons_succ]
      refine wpAnyH_take (i := 38) (oi := { dst := some 110, op := Op.binOp BinOp.eql 3 (Operand.tmp 108) (Operand.tmp 109) 3, type := 4, pos := "law.go:60", after := #[{ on := 36, ground := Ground.data }, { on := 37, ground := Ground.data }, { on := 35, ground := Ground.guard }], guard := some (35, true) }) (v := (.bool true)) rfl (by kernel_rfl) (by kernel_rfl) (by kernel_rfl) (fun _ _ _ h => h) (Or.inl ⟨by rfl, ?_⟩) hHeld33 ?_
      · rintro u ⟨hb, p0, p1, p2, p3, p4, p5, p6, p7, p8, p9, p10, p11⟩
        go_simp <;> first | rfl | kernel_rfl
      try simp only [Act.put, List.setIfInBounds_toArray, List.set_cons_zero, List.set_cons_succ]
      refine wpAnyH_take (i := 39) (oi := { dst := some 111, op := Op.pick (Operand.tmp 107) (Operand.tmp 110) (Operand.const (Value.bool false)), type := 4, pos := "law.go:60", after := #[{ on := 35, ground := Ground.data }, { on := 38, ground := Ground.data }], guard := none }) (v := (.bool true)) rfl (by kernel_rfl) (by kernel_rfl) (by kernel_rfl) (fun _ _ _ h => h) (Or.inl ⟨by rfl, ?_⟩) hHeld33 ?_
      · rintro u ⟨hb, p0, p1, p2, p3, p4, p5, p6, p7, p8, p9, p10, p11⟩
        go_simp <;> first | rfl | kernel_rfl
      try simp only [Act.put, List.setIfInBounds_toArray, List.set_cons_zero, List.set_cons_succ]
      refine wpAnyH_take (i := 40) (oi := { dst := some 112, op := Op.move (Operand.tmp 111), type := 4, pos := "law.go:60", after := #[{ on := 39, ground := Ground.data }, { on := 35, ground := Ground.chain }], guard := none }) (v := (.bool true)) rfl (by kernel_rfl) (by kernel_rfl) (by kernel_rfl) (fun _ _ _ h => h) (Or.inl ⟨by rfl, ?_⟩) hHeld33 ?_
      · rintro u ⟨hb, p0, p1, p2, p3, p4, p5, p6, p7, p8, p9, p10, p11⟩
        go_simp <;> first | rfl | kernel_rfl
      try simp only [Act.put, List.setIfInBounds_toArray, List.set_cons_zero, List.set_cons_succ]
      refine wpAnyH_ready (rs := [41]) (by kernel_rfl) (by simp) ?_
      refine AllReadyH.cons (o := { dst := some 113, op := Op.call { callee := Callee.value (Operand.func 9), args := #[], argTypes := #[] }, type := 4, pos := "law.go:60", after := #[{ on := 40, ground := Ground.chain }, { on := 40, ground := Ground.guard }], guard := some (40, true) }) rfl (fun Kq hKq => ?_) AllReadyH.nil
      go_simp
      refine (KH.out _).mono ?_
      rintro _ V7 ⟨rfl, hb7⟩
      go_simp
      refine hKq.out _ _ ((HS.out _ (hHeld33.1.trans (hb7.mono hHeld33.1.size)))) (fun hHeld41 => ?_)
      clear hKq Kq
      try simp only [Act.put, List.setIfInBounds_toArray, List.set_cons_zero, List.set_cons_succ]
      refine wpAnyH_take (i := 42) (oi := { dst := some 114, op := Op.pick (Operand.tmp 112) (Operand.tmp 113) (Operand.const (Value.bool false)), type := 4, pos := "law.go:60", after := #[{ on := 40, ground := Ground.data }, { on := 41, ground := Ground.data }], guard := none }) (v := (.bool true)) rfl (by kernel_rfl) (by kernel_rfl) (by kernel_rfl) (fun _ _ _ h => h) (Or.inl ⟨by rfl, ?_⟩) hHeld41 ?_
      · rintro u ⟨hb, p0, p1, p2, p3, p4, p5, p6, p7, p8, p9, p10, p11⟩
        go_simp <;> first | rfl | kernel_rfl
      try simp only [Act.put, List.setIfInBounds_toArray, List.set_cons_zero, List.set_cons_succ]
      refine wpAnyH_take (i := 43) (oi := { dst := some 2, op := Op.assign (Operand.tmp 114), type := 4, pos := "law.go:60", after := #[{ on := 42, ground := Ground.data }, { on := 41, ground := Ground.chain }, { on := 0, ground := Ground.phase }, { on := 1, ground := Ground.phase }, { on := 2, ground := Ground.phase }, { on := 3, ground := Ground.phase }, { on := 4, ground := Ground.phase }, { on := 5, ground := Ground.phase }, { on := 6, ground := Ground.phase }, { on := 7, ground := Ground.phase }, { on := 8, ground := Ground.phase }, { on := 9, ground := Ground.phase }, { on := 10, ground := Ground.phase }, { on := 11, ground := Ground.phase }, { on := 12, ground := Ground.phase }, { on := 13, ground := Ground.phase }, { on := 14, ground := Ground.phase }, { on := 15, ground := Ground.phase }, { on := 16, ground := Ground.phase }, { on := 17, ground := Ground.phase }, { on := 18, ground := Ground.phase }, { on := 19, ground := Ground.phase }, { on := 20, ground := Ground.phase }, { on := 21, ground := Ground.phase }, { on := 22, ground := Ground.phase }, { on := 23, ground := Ground.phase }, { on := 24, ground := Ground.phase }, { on := 25, ground := Ground.phase }, { on := 26, ground := Ground.phase }, { on := 27, ground := Ground.phase }, { on := 28, ground := Ground.phase }, { on := 29, ground := Ground.phase }, { on := 30, ground := Ground.phase }, { on := 31, ground := Ground.phase }, { on := 32, ground := Ground.phase }, { on := 33, ground := Ground.phase }, { on := 34, ground := Ground.phase }, { on := 35, ground := Ground.phase }, { on := 36, ground := Ground.phase }, { on := 37, ground := Ground.phase }, { on := 38, ground := Ground.phase }, { on := 39, ground := Ground.phase }, { on := 40, ground := Ground.phase }, { on := 41, ground := Ground.phase }, { on := 42, ground := Ground.phase }], guard := none }) (v := (.bool true)) rfl (by kernel_rfl) (by kernel_rfl) (by kernel_rfl) (fun _ _ _ h => h) (Or.inl ⟨by rfl, ?_⟩) hHeld41 ?_
      · rintro u ⟨hb, p0, p1, p2, p3, p4, p5, p6, p7, p8, p9, p10, p11⟩
        go_simp <;> first | rfl | kernel_rfl
      try simp only [Act.put, List.setIfInBounds_toArray, List.set_cons_zero, List.set_cons_succ]
      refine wpAnyH_done (by kernel_rfl) ?_ _
      go_wp2_with fail
      go_ret
      exact ⟨rfl, HBV.out.trans (hHeld41.1.mono HBV.out.size)⟩
    · have hpos : 0 < A.length := by omega
      obtain ⟨ab, ao, hma, hlt, hc5⟩ := HA.out 0 hpos
      subst hma
      have c0 : W3.cell? ⟨ab, ao, none⟩ = some (.int .i64 (A[0].code)) := by
        rw [HB3.out.cell (p := ⟨ab, ao, none⟩) hlt]
        have := hc5 0 (.int .i64 A[0].code) rfl
        simpa using this
      have HF0 := Lib.hid (HAF.out A[0] (List.getElem_mem hpos))
      have KS := Lib.hid (Ch.ct_shut HCT.out HZ.out.2 A[0].code HF0.out.1 (by have := HN.out; omega))
      generalize A[0].code = code at c0 KS
      generalize (Ch.shutM M K code).1 = M2 at KS
      generalize (Ch.shutM M K code).2 = z2 at KS
      have hp1 : (0 : Int) < (A.length : Int) := by omega
      clear hem hlt hc5 HF0
      go_wp2_with fail
      refine KS.out.mono ?_
      rintro _ W4 ⟨rfl, ⟨K, hct⟩, hlf⟩
      have HB4 : Hid (Below w.heap.size w W4) := HB3.out.trans (hlf.b.mono HZ.out.1)
      have RE4 : Hid (Rw W4 be TEn [.int .i64 d, .int .u8 k, .int .u64 s, .slice a L.length cap]) := RE3.out.of (hlf.b.block be HBE.out)
      have HCT3 := Lib.hid hct
      clear hct hlf KS c0 hp1 hpos x5 RX3 HCT HN HZ hs1 hs2 HB3 RE3
      have HB3 := HB4
      have RE3 := RE4
      clear HB4 RE4
      generalize M2 = M at HCT3
      generalize W4 = W3 at HB3 RE3 HCT3 ⊢
      go_upto_region 7 with (fail)
      have e0 : W3.cell? ⟨be, 0, none⟩ = some (.int .i64 d) := RE3.out.cell 0
      have e1 : W3.cell? ⟨be, 1, none⟩ = some (.int .u8 k) := RE3.out.cell 1
      have e2 : W3.cell? ⟨be, 2, none⟩ = some (.int .u64 s) := RE3.out.cell 2
      have e3 : W3.cell? ⟨be, 3, none⟩ = some (.slice a L.length cap) := RE3.out.cell 3
      obtain ⟨T1, hT1⟩ : ∃ T1, T1 = (totM d k L).1 := ⟨_, rfl⟩
      obtain ⟨T2, hT2⟩ : ∃ T2, T2 = (totM d k L).2 := ⟨_, rfl⟩
      have KT1 := Lib.hid (totals_c d k s L a cap W3 (H.out.later HB3.out) (by have := HSM.out; omega))
      have KT2 : Hid (∀ u, Below w.heap.size w u → Calls Try.prog 13 #[.agg #[.int .i64 d, .int .u8 k, .int .u64 s, .slice a L.length cap]] u fun e w' => e = .returned (.tuple #[.int .i64 T1, .int .i64 T1, .int .i64 T2]) ∧ Below u.heap.size u w') := fun u hu => by
        rw [hT1, hT2]
        exact rtotals_c d k s L a cap u (H.out.later hu) (by have := HSM.out; omega)
      rw [← hT1, ← hT2] at KT1
      clear hT1 hT2
      go_wp2_with fail
      refine KT1.out.mono ?_
      rintro _ W5 ⟨rfl, hb5⟩
      have HB5 : Hid (Below w.heap.size w W5) := HB3.out.trans (hb5.mono HB3.out.size)
      have RE5 := Lib.hid (RE3.out.later hb5)
      have HCT5 := Lib.hid (HCT3.out.later hb5)
      clear e0 e1 e2 e3 KT1 hb5 HB3 RE3 HCT3
      have e0 : W5.cell? ⟨be, 0, none⟩ = some (.int .i64 d) := RE5.out.cell 0
      have e1 : W5.cell? ⟨be, 1, none⟩ = some (.int .u8 k) := RE5.out.cell 1
      have e2 : W5.cell? ⟨be, 2, none⟩ = some (.int .u64 s) := RE5.out.cell 2
      have e3 : W5.cell? ⟨be, 3, none⟩ = some (.slice a L.length cap) := RE5.out.cell 3
      go_wp2_with fail
      refine (KT2.out W5 HB5.out).mono ?_
      rintro _ W6 ⟨rfl, hb6⟩
      have HB6 : Hid (Below w.heap.size w W6) := HB5.out.trans (hb6.mono HB5.out.size)
      have RE6 := Lib.hid (RE5.out.later hb6)
      have HCT6 := Lib.hid (HCT5.out.later hb6)
      clear e0 e1 e2 e3 KT2 hb6 HB5 RE5 HCT5
      have e0 : W6.cell? ⟨be, 0, none⟩ = some (.int .i64 d) := RE6.out.cell 0
      have e1 : W6.cell? ⟨be, 1, none⟩ = some (.int .u8 k) := RE6.out.cell 1
      have e2 : W6.cell? ⟨be, 2, none⟩ = some (.int .u64 s) := RE6.out.cell 2
      have e3 : W6.cell? ⟨be, 3, none⟩ = some (.slice a L.length cap) := RE6.out.cell 3
      obtain ⟨D, hD⟩ : ∃ D, D = (revM d k s L day).1.1 := ⟨_, rfl⟩
      obtain ⟨K9, hK9⟩ : ∃ K9, K9 = (revM d k s L day).1.2.1 := ⟨_, rfl⟩
      obtain ⟨S9, hS9⟩ : ∃ S9, S9 = (revM d k s L day).1.2.2 := ⟨_, rfl⟩
      obtain ⟨R, hR⟩ : ∃ R, R = (revM d k s L day).2.1 := ⟨_, rfl⟩
      obtain ⟨z, hz⟩ : ∃ z, z = (revM d k s L day).2.2 := ⟨_, rfl⟩
      have HRL : Hid (R.length ≤ 100) := by show _ ≤ _; rw [hR]; exact Nat.le_trans (revM_len d k s L day) HSM.out
      have KR1 : Hid (∀ u, Below w.heap.size w u → Calls Try.prog 14 #[.agg #[.int .i64 d, .int .u8 k, .int .u64 s, .slice a L.length cap], .int .i64 day] u fun e w' => ∃ ra rc, e = .returned (.tuple #[.agg #[.int .i64 D, .int .u8 K9, .int .u64 S9, .slice ra R.length rc], .int .i64 z]) ∧ Lns w' ra R ∧ Below u.heap.size u w') := fun u hu => by
        refine (reverse_c d k s L a cap day u (H.out.later hu) (by have := HSM.out; omega)).mono ?_
        intro e w' he
        rw [hD, hK9, hS9, hR, hz]
        exact rev_form he
      have KR2 : Hid (∀ u, Below w.heap.size w u → Calls Try.prog 15 #[.agg #[.int .i64 d, .int .u8 k, .int .u64 s, .slice a L.length cap], .int .i64 day] u fun e w' => ∃ ra rc, e = .returned (.tuple #[.agg #[.int .i64 D, .int .u8 K9, .int .u64 S9, .slice ra R.length rc], .int .i64 z]) ∧ Lns w' ra R ∧ Below u.heap.size u w') := fun u hu => by
        refine (rreverse_c d k s L a cap day u (H.out.later hu) (by have := HSM.out; omega)).mono ?_
        intro e w' he
        rw [hD, hK9, hS9, hR, hz]
        exact rev_form he
      clear hD hK9 hS9 hR hz
      go_wp2_with fail
      refine (KR1.out W6 HB6.out).mono ?_
      rintro _ W7 ⟨ra, rc, rfl, hr7, hb7⟩
      have HB7 : Hid (Below w.heap.size w W7) := HB6.out.trans (hb7.mono HB6.out.size)
      have RE7 := Lib.hid (RE6.out.later hb7)
      have HCT7 := Lib.hid (HCT6.out.later hb7)
      have HR7 := Lib.hid hr7
      clear e0 e1 e2 e3 KR1 hb7 HB6 RE6 HCT6 hr7
      go_upto_region 10 with (fail)
      have bz : Below W7.heap.size W7 (W7.alloc (.cells #[.int .i64 D, .int .u8 K9, .int .u64 S9, .slice ra R.length rc] TEn)) := (Below.refl _ _).alloc (Nat.le_refl _) _
      have RA8 : Hid (Rw (W7.alloc (.cells #[.int .i64 D, .int .u8 K9, .int .u64 S9, .slice ra R.length rc] TEn)) W7.heap.size TEn [.int .i64 D, .int .u8 K9, .int .u64 S9, .slice ra R.length rc]) := Rw.new W7 [.int .i64 D, .int .u8 K9, .int .u64 S9, .slice ra R.length rc] TEn
      have HB8 : Hid (Below w.heap.size w (W7.alloc (.cells #[.int .i64 D, .int .u8 K9, .int .u64 S9, .slice ra R.length rc] TEn))) := HB7.out.trans (bz.mono HB7.out.size)
      have RE8 := Lib.hid (RE7.out.later bz)
      have HCT8 := Lib.hid (HCT7.out.later bz)
      have HR8 := Lib.hid (HR7.out.later bz)
      obtain ⟨br, hbr⟩ : ∃ br, br = W7.heap.size := ⟨_, rfl⟩
      rw [← hbr] at RA8 ⊢
      generalize W7.alloc (.cells #[.int .i64 D, .int .u8 K9, .int .u64 S9, .slice ra R.length rc] TEn) = W8 at RA8 HB8 RE8 HCT8 HR8 ⊢
      clear bz hbr HB7 RE7 HCT7 HR7
      have e0 : W8.cell? ⟨be, 0, none⟩ = some (.int .i64 d) := RE8.out.cell 0
      have e1 : W8.cell? ⟨be, 1, none⟩ = some (.int .u8 k) := RE8.out.cell 1
      have e2 : W8.cell? ⟨be, 2, none⟩ = some (.int .u64 s) := RE8.out.cell 2
      have e3 : W8.cell? ⟨be, 3, none⟩ = some (.slice a L.length cap) := RE8.out.cell 3
      go_wp2_with fail
      refine (KR2.out W8 HB8.out).mono ?_
      rintro _ W9 ⟨rb, rd, rfl, hs9, hb9⟩
      have HB9 : Hid (Below w.heap.size w W9) := HB8.out.trans (hb9.mono HB8.out.size)
      have RE9 := Lib.hid (RE8.out.later hb9)
      have HCT9 := Lib.hid (HCT8.out.later hb9)
      have HR9 := Lib.hid (HR8.out.later hb9)
      have RA9 := Lib.hid (RA8.out.later hb9)
      have HS9 := Lib.hid hs9
      clear e0 e1 e2 e3 KR2 hb9 HB8 RE8 HCT8 hs9 HR8 RA8
      go_upto_region 11 with (fail)
      have bz : Below W9.heap.size W9 (W9.alloc (.cells #[.int .i64 D, .int .u8 K9, .int .u64 S9, .slice rb R.length rd] TEn)) := (Below.refl _ _).alloc (Nat.le_refl _) _
      have RB0 : Hid (Rw (W9.alloc (.cells #[.int .i64 D, .int .u8 K9, .int .u64 S9, .slice rb R.length rd] TEn)) W9.heap.size TEn [.int .i64 D, .int .u8 K9, .int .u64 S9, .slice rb R.length rd]) := Rw.new W9 [.int .i64 D, .int .u8 K9, .int .u64 S9, .slice rb R.length rd] TEn
      have HBV : Hid (Below w.heap.size w (W9.alloc (.cells #[.int .i64 D, .int .u8 K9, .int .u64 S9, .slice rb R.length rd] TEn))) := HB9.out.trans (bz.mono HB9.out.size)
      have REV := Lib.hid (RE9.out.later bz)
      have HCTV := Lib.hid (HCT9.out.later bz)
      have HRV := Lib.hid (HR9.out.later bz)
      have HSV := Lib.hid (HS9.out.later bz)
      have RAV := Lib.hid (RA9.out.later bz)
      obtain ⟨bs9, hbr⟩ : ∃ br, br = W9.heap.size := ⟨_, rfl⟩
      rw [← hbr] at RB0 ⊢
      generalize W9.alloc (.cells #[.int .i64 D, .int .u8 K9, .int .u64 S9, .slice rb R.length rd] TEn) = V at RB0 HBV REV HCTV HRV HSV RAV ⊢
      clear bz hbr HB9 RE9 HCT9 HR9 HS9 RA9
      have HS : Hid (∀ u, Below V.heap.size V u → (Below V.heap.size V u ∧ u.cell? ⟨be, 0, none⟩ = some (.int .i64 d) ∧ u.cell? ⟨be, 1, none⟩ = some (.int .u8 k) ∧ u.cell? ⟨be, 2, none⟩ = some (.int .u64 s) ∧ u.cell? ⟨be, 3, none⟩ = some (.slice a L.length cap) ∧ u.cell? ⟨br, 0, none⟩ = some (.int .i64 D) ∧ u.cell? ⟨br, 1, none⟩ = some (.int .u8 K9) ∧ u.cell? ⟨br, 2, none⟩ = some (.int .u64 S9) ∧ u.cell? ⟨br, 3, none⟩ = some (.slice ra R.length rc) ∧ u.cell? ⟨bs9, 0, none⟩ = some (.int .i64 D) ∧ u.cell? ⟨bs9, 1, none⟩ = some (.int .u8 K9) ∧ u.cell? ⟨bs9, 2, none⟩ = some (.int .u64 S9) ∧ u.cell? ⟨bs9, 3, none⟩ = some (.slice rb R.length rd))) := fun u hu => ⟨hu, (REV.out.later hu).cell 0, (REV.out.later hu).cell 1, (REV.out.later hu).cell 2, (REV.out.later hu).cell 3, (RAV.out.later hu).cell 0, (RAV.out.later hu).cell 1, (RAV.out.later hu).cell 2, (RAV.out.later hu).cell 3, (RB0.out.later hu).cell 0, (RB0.out.later hu).cell 1, (RB0.out.later hu).cell 2, (RB0.out.later hu).cell 3⟩
      have HLU : Hid (∀ u, Below V.heap.size V u → Lns u a L) := fun u hu => H.out.later (HBV.out.trans (hu.mono HBV.out.size))
      obtain ⟨n1, hn1⟩ : ∃ n1, n1 = chkM d k L := ⟨_, rfl⟩
      obtain ⟨n2, hn2⟩ : ∃ n2, n2 = onM M d k L := ⟨_, rfl⟩
      have KC1 : Hid (∀ u, Below V.heap.size V u → Calls Try.prog 16 #[.agg #[.int .i64 d, .int .u8 k, .int .u64 s, .slice a L.length cap]] u fun e w' => e = .returned (.int .i64 n1) ∧ Below u.heap.size u w') := fun u hu => by
        rw [hn1]
        exact check_c d k s L a cap u (HLU.out u hu) (by have := HSM.out; omega)
      have KC2 : Hid (∀ u, Below V.heap.size V u → Calls Try.prog 17 #[.agg #[.int .i64 d, .int .u8 k, .int .u64 s, .slice a L.length cap]] u fun e w' => e = .returned (.int .i64 n1) ∧ Below u.heap.size u w') := fun u hu => by
        rw [hn1]
        exact rcheck_c d k s L a cap u (HLU.out u hu) (by have := HSM.out; omega)
      have KON : Hid (∀ u, Below V.heap.size V u → Calls Try.prog 18 #[.pointer (some ⟨c, 0, none⟩), .agg #[.int .i64 d, .int .u8 k, .int .u64 s, .slice a L.length cap]] u fun e w' => e = .returned (.int .i64 n2) ∧ Below u.heap.size u w') := fun u hu => by
        rw [hn2]
        exact on_c (HCTV.out.later hu) d k s L a cap (HLU.out u hu) (by have := HSM.out; omega)
      have KAL : Hid (∀ u, Below V.heap.size V u → Calls Try.prog 20 #[.pointer (some ⟨c, 0, none⟩)] u fun e w' => ∃ la lc, e = .returned (.slice la K.length lc) ∧ Ch.Acs w' la (Ch.lst M K) ∧ Below u.heap.size u w') := fun u hu => by
        refine (Ch.ct_all (HCTV.out.later hu)).mono ?_
        rintro e w' ⟨v, rfl, ho, hb⟩
        obtain ⟨la, lc, rfl, h2, _⟩ := Ch.acs_own ho rfl
        exact ⟨la, lc, by rw [Ch.lst_len], h2, hb⟩
      have KRO : Hid (∀ u la lc, Below V.heap.size V u → Ch.Acs u la (Ch.lst M K) → Calls Try.prog 19 #[.slice la K.length lc, .agg #[.int .i64 d, .int .u8 k, .int .u64 s, .slice a L.length cap]] u fun e w' => e = .returned (.int .i64 n2) ∧ Below u.heap.size u w') := fun u la lc hu hA => by
        rw [hn2]
        exact ron_c HCTV.out.gm d k s L a cap la lc u (HLU.out u hu) (by have := HSM.out; omega) hA
      have KSE : Hid (∀ u, Below V.heap.size V u → Calls Try.prog 21 #[.agg #[.int .i64 D, .int .u8 K9, .int .u64 S9, .slice ra R.length rc], .agg #[.int .i64 D, .int .u8 K9, .int .u64 S9, .slice rb R.length rd]] u fun e w' => e = .returned (.bool true) ∧ Below u.heap.size u w') := fun u hu =>
        sameE_c D K9 S9 R ra rb rc rd u (HRV.out.later hu) (HSV.out.later hu) (by have := HRL.out; omega)
      clear hn1 hn2 HLU RB0 REV HCTV HRV HSV RAV HRL
      refine wp_region_held_drew (S := (fun u => (Below V.heap.size V u ∧ u.cell? ⟨be, 0, none⟩ = some (.int .i64 d) ∧ u.cell? ⟨be, 1, none⟩ = some (.int .u8 k) ∧ u.cell? ⟨be, 2, none⟩ = some (.int .u64 s) ∧ u.cell? ⟨be, 3, none⟩ = some (.slice a L.length cap) ∧ u.cell? ⟨br, 0, none⟩ = some (.int .i64 D) ∧ u.cell? ⟨br, 1, none⟩ = some (.int .u8 K9) ∧ u.cell? ⟨br, 2, none⟩ = some (.int .u64 S9) ∧ u.cell? ⟨br, 3, none⟩ = some (.slice ra R.length rc) ∧ u.cell? ⟨bs9, 0, none⟩ = some (.int .i64 D) ∧ u.cell? ⟨bs9, 1, none⟩ = some (.int .u8 K9) ∧ u.cell? ⟨bs9, 2, none⟩ = some (.int .u64 S9) ∧ u.cell? ⟨bs9, 3, none⟩ = some (.slice rb R.length rd)))) (by kernel_rfl) ?_ (fun hHeld => ?_)
      · exact HS.out _ (Below.refl _ V).drew
      refine wpAnyH_take (i := 0) (oi := { dst := some 72, op := Op.load 25 (Operand.tmp 3), type := 25, pos := "law.go:60", after := #[], guard := none }) (v := (.agg #[.int .i64 d, .int .u8 k, .int .u64 s, .slice a L.length cap])) rfl (by kernel_rfl) (by kernel_rfl) (by kernel_rfl) (fun _ _ _ h => h) (Or.inl ⟨by rfl, ?_⟩) hHeld ?_
      · rintro u ⟨hb, p0, p1, p2, p3, p4, p5, p6, p7, p8, p9, p10, p11⟩
        go_simp <;> first | rfl | kernel_rfl
      try simp only [Act.put, List.setIfInBounds_toArray, List.set_cons_zero, List.set_cons_succ]
      refine wpAnyH_take (i := 2) (oi := { dst := some 74, op := Op.load 25 (Operand.tmp 3), type := 25, pos := "law.go:60", after := #[], guard := none }) (v := (.agg #[.int .i64 d, .int .u8 k, .int .u64 s, .slice a L.length cap])) rfl (by kernel_rfl) (by kernel_rfl) (by kernel_rfl) (fun _ _ _ h => h) (Or.inl ⟨by rfl, ?_⟩) hHeld ?_
      · rintro u ⟨hb, p0, p1, p2, p3, p4, p5, p6, p7, p8, p9, p10, p11⟩
        go_simp <;> first | rfl | kernel_rfl
      try simp only [Act.put, List.setIfInBounds_toArray, List.set_cons_zero, List.set_cons_succ]
      refine wpAnyH_ready (rs := [1]) (by kernel_rfl) (by simp) ?_
      refine AllReadyH.cons (o := { dst := some 73, op := Op.call { callee := Callee.value (Operand.func 16), args := #[Operand.tmp 72], argTypes := #[25] }, type := 32, pos := "law.go:60", after := #[{ on := 0, ground := Ground.data }], guard := none }) rfl (fun Kq hKq => ?_) AllReadyH.nil
      go_simp
      refine (KC1.out _ hHeld.1).mono ?_
      rintro _ V1 ⟨rfl, hb1⟩
      go_simp
      refine hKq.out _ _ ((HS.out _ (hHeld.1.trans (hb1.mono hHeld.1.size)))) (fun hHeld1 => ?_)
      clear hKq Kq
      try simp only [Act.put, List.setIfInBounds_toArray, List.set_cons_zero, List.set_cons_succ]
      refine wpAnyH_ready (rs := [3]) (by kernel_rfl) (by simp) ?_
      refine AllReadyH.cons (o := { dst := some 75, op := Op.call { callee := Callee.value (Operand.func 17), args := #[Operand.tmp 74], argTypes := #[25] }, type := 3, pos := "law.go:60", after := #[{ on := 2, ground := Ground.data }, { on := 1, ground := Ground.chain }], guard := none }) rfl (fun Kq hKq => ?_) AllReadyH.nil
      go_simp
      refine (KC2.out _ hHeld1.1).mono ?_
      rintro _ V2 ⟨rfl, hb2⟩
      go_simp
      refine hKq.out _ _ ((HS.out _ (hHeld1.1.trans (hb2.mono hHeld1.1.size)))) (fun hHeld3 => ?_)
      clear hKq Kq
      try simp only [Act.put, List.setIfInBounds_toArray, List.set_cons_zero, List.set_cons_succ]
      refine wpAnyH_take (i := 4) (oi := { dst := some 76, op := Op.binOp BinOp.eql 3 (Operand.tmp 73) (Operand.tmp 75) 3, type := 4, pos := "law.go:60", after := #[{ on := 1, ground := Ground.data }, { on := 3, ground := Ground.data }], guard := none }) (v := (.bool true)) rfl (by kernel_rfl) (by kernel_rfl) (by kernel_rfl) (fun _ _ _ h => h) (Or.inl ⟨by rfl, ?_⟩) hHeld3 ?_
      · rintro u ⟨hb, p0, p1, p2, p3, p4, p5, p6, p7, p8, p9, p10, p11⟩
        go_simp <;> first | rfl | kernel_rfl
      try simp only [Act.put, List.setIfInBounds_toArray, List.set_cons_zero, List.set_cons_succ]
      refine wpAnyH_take (i := 5) (oi := { dst := some 77, op := Op.move (Operand.tmp 76), type := 4, pos := "law.go:60", after := #[{ on := 4, ground := Ground.data }, { on := 3, ground := Ground.chain }], guard := none }) (v := (.bool true)) rfl (by kernel_rfl) (by kernel_rfl) (by kernel_rfl) (fun _ _ _ h => h) (Or.inl ⟨by rfl, ?_⟩) hHeld3 ?_
      · rintro u ⟨hb, p0, p1, p2, p3, p4, p5, p6, p7, p8, p9, p10, p11⟩
        go_simp <;> first | rfl | kernel_rfl
      try simp only [Act.put, List.setIfInBounds_toArray, List.set_cons_zero, List.set_cons_succ]
      refine wpAnyH_take (i := 6) (oi := { dst := some 78, op := Op.move (Operand.tmp 6), type := 30, pos := "law.go:60", after := #[{ on := 5, ground := Ground.guard }], guard := some (5, true) }) (v := (.pointer (some ⟨c, 0, none⟩))) rfl (by kernel_rfl) (by kernel_rfl) (by kernel_rfl) (fun _ _ _ h => h) (Or.inl ⟨by rfl, ?_⟩) hHeld3 ?_
      · rintro u ⟨hb, p0, p1, p2, p3, p4, p5, p6, p7, p8, p9, p10, p11⟩
        go_simp <;> first | rfl | kernel_rfl
      try simp only [Act.put, List.setIfInBounds_toArray, List.set_cons_zero, List.set_cons_succ]
      refine wpAnyH_take (i := 7) (oi := { dst := some 79, op := Op.load 25 (Operand.tmp 3), type := 25, pos := "law.go:60", after := #[{ on := 5, ground := Ground.guard }], guard := some (5, true) }) (v := (.agg #[.int .i64 d, .int .u8 k, .int .u64 s, .slice a L.length cap])) rfl (by kernel_rfl) (by kernel_rfl) (by kernel_rfl) (fun _ _ _ h => h) (Or.inl ⟨by rfl, ?_⟩) hHeld3 ?_
      · rintro u ⟨hb, p0, p1, p2, p3, p4, p5, p6, p7, p8, p9, p10, p11⟩
        go_simp <;> first | rfl | kernel_rfl
      try simp only [Act.put, List.setIfInBounds_toArray, List.set_cons_zero, List.set_cons_succ]
      refine wpAnyH_take (i := 9) (oi := { dst := some 81, op := Op.move (Operand.tmp 6), type := 30, pos := "law.go:60", after := #[{ on := 5, ground := Ground.guard }], guard := some (5, true) }) (v := (.pointer (some ⟨c, 0, none⟩))) rfl (by kernel_rfl) (by kernel_rfl) (by kernel_rfl) (fun _ _ _ h => h) (Or.inl ⟨by rfl, ?_⟩) hHeld3 ?_
      · rintro u ⟨hb, p0, p1, p2, p3, p4, p5, p6, p7, p8, p9, p10, p11⟩
        go_simp <;> first | rfl | kernel_rfl
      try simp only [Act.put, List.setIfInBounds_toArray, List.set_cons_zero, List.set_cons_succ]
      refine wpAnyH_take (i := 11) (oi := { dst := some 83, op := Op.load 25 (Operand.tmp 3), type := 25, pos := "law.go:60", after := #[{ on := 5, ground := Ground.guard }], guard := some (5, true) }) (v := (.agg #[.int .i64 d, .int .u8 k, .int .u64 s, .slice a L.length cap])) rfl (by kernel_rfl) (by kernel_rfl) (by kernel_rfl) (fun _ _ _ h => h) (Or.inl ⟨by rfl, ?_⟩) hHeld3 ?_
      · rintro u ⟨hb, p0, p1, p2, p3, p4, p5, p6, p7, p8, p9, p10, p11⟩
        go_simp <;> first | rfl | kernel_rfl
      try simp only [Act.put, List.setIfInBounds_toArray, List.set_cons_zero, List.set_cons_succ]
      refine wpAnyH_ready (rs := [8]) (by kernel_rfl) (by simp) ?_
      refine AllReadyH.cons (o := { dst := some 80, op := Op.call { callee := Callee.value (Operand.func 18), args := #[Operand.tmp 78, Operand.tmp 79], argTypes := #[30, 25] }, type := 32, pos := "law.go:60", after := #[{ on := 6, ground := Ground.data }, { on := 7, ground := Ground.data }, { on := 5, ground := Ground.chain }, { on := 5, ground := Ground.guard }], guard := some (5, true) }) rfl (fun Kq hKq => ?_) AllReadyH.nil
      go_simp
      refine (KON.out _ hHeld3.1).mono ?_
      rintro _ V3 ⟨rfl, hb3⟩
      go_simp
      refine hKq.out _ _ ((HS.out _ (hHeld3.1.trans (hb3.mono hHeld3.1.size)))) (fun hHeld8 => ?_)
      clear hKq Kq
      try simp only [Act.put, List.setIfInBounds_toArray, List.set_cons_zero, List.set_cons_succ]
      refine wpAnyH_ready (rs := [10]) (by kernel_rfl) (by simp) ?_
      refine AllReadyH.cons (o := { dst := some 82, op := Op.call { callee := Callee.value (Operand.func 20), args := #[Operand.tmp 81], argTypes := #[30] }, type := 26, pos := "law.go:60", after := #[{ on := 9, ground := Ground.data }, { on := 8, ground := Ground.chain }, { on := 5, ground := Ground.guard }], guard := some (5, true) }) rfl (fun Kq hKq => ?_) AllReadyH.nil
      go_simp
      refine (KAL.out _ hHeld8.1).mono ?_
      rintro _ V4 ⟨la, lc, rfl, hac, hb4⟩
      have HAC := Lib.hid hac
      clear hac
      go_simp
      refine hKq.out _ _ ((HS.out _ (hHeld8.1.trans (hb4.mono hHeld8.1.size)))) (fun hHeld10 => ?_)
      clear hKq Kq
      try simp only [Act.put, List.setIfInBounds_toArray, List.set_cons_zero, List.set_cons_succ]
      refine wpAnyH_ready (rs := [12]) (by kernel_rfl) (by simp) ?_
      refine AllReadyH.cons (o := { dst := some 84, op := Op.call { callee := Callee.value (Operand.func 19), args := #[Operand.tmp 82, Operand.tmp 83], argTypes := #[26, 25] }, type := 3, pos := "law.go:60", after := #[{ on := 10, ground := Ground.data }, { on := 11, ground := Ground.data }, { on := 10, ground := Ground.chain }, { on := 5, ground := Ground.guard }], guard := some (5, true) }) rfl (fun Kq hKq => ?_) AllReadyH.nil
      go_simp
      refine (KRO.out _ la lc hHeld10.1 HAC.out).mono ?_
      rintro _ V5 ⟨rfl, hb5⟩
      go_simp
      refine hKq.out _ _ ((HS.out _ (hHeld10.1.trans (hb5.mono hHeld10.1.size)))) (fun hHeld12 => ?_)
      clear hKq Kq
      try simp only [Act.put, List.setIfInBounds_toArray, List.set_cons_zero, List.set_cons_succ]
      refine wpAnyH_take (i := 13) (oi := { dst := some 85, op := Op.binOp BinOp.eql 3 (Operand.tmp 80) (Operand.tmp 84) 3, type := 4, pos := "law.go:60", after := #[{ on := 8, ground := Ground.data }, { on := 12, ground := Ground.data }, { on := 5, ground := Ground.guard }], guard := some (5, true) }) (v := (.bool true)) rfl (by kernel_rfl) (by kernel_rfl) (by kernel_rfl) (fun _ _ _ h => h) (Or.inl ⟨by rfl, ?_⟩) hHeld12 ?_
      · rintro u ⟨hb, p0, p1, p2, p3, p4, p5, p6, p7, p8, p9, p10, p11⟩
        go_simp <;> first | rfl | kernel_rfl
      try simp only [Act.put, List.setIfInBounds_toArray, List.set_cons_zero, List.set_cons_succ]
      refine wpAnyH_take (i := 14) (oi := { dst := some 86, op := Op.pick (Operand.tmp 77) (Operand.tmp 85) (Operand.const (Value.bool false)), type := 4, pos := "law.go:60", after := #[{ on := 5, ground := Ground.data }, { on := 13, ground := Ground.data }], guard := none }) (v := (.bool true)) rfl (by kernel_rfl) (by kernel_rfl) (by kernel_rfl) (fun _ _ _ h => h) (Or.inl ⟨by rfl, ?_⟩) hHeld12 ?_
      · rintro u ⟨hb, p0, p1, p2, p3, p4, p5, p6, p7, p8, p9, p10, p11⟩
        go_simp <;> first | rfl | kernel_rfl
      try simp only [Act.put, List.setIfInBounds_toArray, List.set_cons_zero, List.set_cons_succ]
      refine wpAnyH_take (i := 15) (oi := { dst := some 87, op := Op.move (Operand.tmp 86), type := 4, pos := "law.go:60", after := #[{ on := 14, ground := Ground.data }, { on := 12, ground := Ground.chain }], guard := none }) (v := (.bool true)) rfl (by kernel_rfl) (by kernel_rfl) (by kernel_rfl) (fun _ _ _ h => h) (Or.inl ⟨by rfl, ?_⟩) hHeld12 ?_
      · rintro u ⟨hb, p0, p1, p2, p3, p4, p5, p6, p7, p8, p9, p10, p11⟩
        go_simp <;> first | rfl | kernel_rfl
      try simp only [Act.put, List.setIfInBounds_toArray, List.set_cons_zero, List.set_cons_succ]
      refine wpAnyH_take (i := 16) (oi := { dst := some 88, op := Op.move (Operand.tmp 7), type := 2, pos := "law.go:60", after := #[{ on := 15, ground := Ground.guard }], guard := some (15, true) }) (v := (.int .i64 T1)) rfl (by kernel_rfl) (by kernel_rfl) (by kernel_rfl) (fun _ _ _ h => h) (Or.inl ⟨by rfl, ?_⟩) hHeld12 ?_
      · rintro u ⟨hb, p0, p1, p2, p3, p4, p5, p6, p7, p8, p9, p10, p11⟩
        go_simp <;> first | rfl | kernel_rfl
      try simp only [Act.put, List.setIfInBounds_toArray, List.set_cons_zero, List.set_cons_succ]
      refine wpAnyH_take (i := 17) (oi := { dst := some 89, op := Op.move (Operand.tmp 10), type := 2, pos := "law.go:60", after := #[{ on := 15, ground := Ground.guard }], guard := some (15, true) }) (v := (.int .i64 T1)) rfl (by kernel_rfl) (by kernel_rfl) (by kernel_rfl) (fun _ _ _ h => h) (Or.inl ⟨by rfl, ?_⟩) hHeld12 ?_
      · rintro u ⟨hb, p0, p1, p2, p3, p4, p5, p6, p7, p8, p9, p10, p11⟩
        go_simp <;> first | rfl | kernel_rfl
      try simp only [Act.put, List.setIfInBounds_toArray, List.set_cons_zero, List.set_cons_succ]
      refine wpAnyH_take (i := 18) (oi := { dst := some 90, op := Op.binOp BinOp.eql 2 (Operand.tmp 88) (Operand.tmp 89) 2, type := 4, pos := "law.go:60", after := #[{ on := 16, ground := Ground.data }, { on := 17, ground := Ground.data }, { on := 15, ground := Ground.guard }], guard := some (15, true) }) (v := (.bool true)) rfl (by kernel_rfl) (by kernel_rfl) (by kernel_rfl) (fun _ _ _ h => h) (Or.inl ⟨by rfl, ?_⟩) hHeld12 ?_
      · rintro u ⟨hb, p0, p1, p2, p3, p4, p5, p6, p7, p8, p9, p10, p11⟩
        go_simp <;> first | rfl | kernel_rfl
      try simp only [Act.put, List.setIfInBounds_toArray, List.set_cons_zero, List.set_cons_succ]
      refine wpAnyH_take (i := 19) (oi := { dst := some 91, op := Op.pick (Operand.tmp 87) (Operand.tmp 90) (Operand.const (Value.bool false)), type := 4, pos := "law.go:60", after := #[{ on := 15, ground := Ground.data }, { on := 18, ground := Ground.data }], guard := none }) (v := (.bool true)) rfl (by kernel_rfl) (by kernel_rfl) (by kernel_rfl) (fun _ _ _ h => h) (Or.inl ⟨by rfl, ?_⟩) hHeld12 ?_
      · rintro u ⟨hb, p0, p1, p2, p3, p4, p5, p6, p7, p8, p9, p10, p11⟩
        go_simp <;> first | rfl | kernel_rfl
      try simp only [Act.put, List.setIfInBounds_toArray, List.set_cons_zero, List.set_cons_succ]
      refine wpAnyH_take (i := 20) (oi := { dst := some 92, op := Op.move (Operand.tmp 91), type := 4, pos := "law.go:60", after := #[{ on := 19, ground := Ground.data }, { on := 15, ground := Ground.chain }], guard := none }) (v := (.bool true)) rfl (by kernel_rfl) (by kernel_rfl) (by kernel_rfl) (fun _ _ _ h => h) (Or.inl ⟨by rfl, ?_⟩) hHeld12 ?_
      · rintro u ⟨hb, p0, p1, p2, p3, p4, p5, p6, p7, p8, p9, p10, p11⟩
        go_simp <;> first | rfl | kernel_rfl
      try simp only [Act.put, List.setIfInBounds_toArray, List.set_cons_zero, List.set_cons_succ]
      refine wpAnyH_take (i := 21) (oi := { dst := some 93, op := Op.move (Operand.tmp 8), type := 2, pos := "law.go:60", after := #[{ on := 20, ground := Ground.guard }], guard := some (20, true) }) (v := (.int .i64 T1)) rfl (by kernel_rfl) (by kernel_rfl) (by kernel_rfl) (fun _ _ _ h => h) (Or.inl ⟨by rfl, ?_⟩) hHeld12 ?_
      · rintro u ⟨hb, p0, p1, p2, p3, p4, p5, p6, p7, p8, p9, p10, p11⟩
        go_simp <;> first | rfl | kernel_rfl
      try simp only [Act.put, List.setIfInBounds_toArray, List.set_cons_zero, List.set_cons_succ]
      refine wpAnyH_take (i := 22) (oi := { dst := some 94, op := Op.move (Operand.tmp 11), type := 2, pos := "law.go:60", after := #[{ on := 20, ground := Ground.guard }], guard := some (20, true) }) (v := (.int .i64 T1)) rfl (by kernel_rfl) (by kernel_rfl) (by kernel_rfl) (fun _ _ _ h => h) (Or.inl ⟨by rfl, ?_⟩) hHeld12 ?_
      · rintro u ⟨hb, p0, p1, p2, p3, p4, p5, p6, p7, p8, p9, p10, p11⟩
        go_simp <;> first | rfl | kernel_rfl
      try simp only [Act.put, List.setIfInBounds_toArray, List.set_cons_zero, List.set_cons_succ]
      refine wpAnyH_take (i := 23) (oi := { dst := some 95, op := Op.binOp BinOp.eql 2 (Operand.tmp 93) (Operand.tmp 94) 2, type := 4, pos := "law.go:60", after := #[{ on := 21, ground := Ground.data }, { on := 22, ground := Ground.data }, { on := 20, ground := Ground.guard }], guard := some (20, true) }) (v := (.bool true)) rfl (by kernel_rfl) (by kernel_rfl) (by kernel_rfl) (fun _ _ _ h => h) (Or.inl ⟨by rfl, ?_⟩) hHeld12 ?_
      · rintro u ⟨hb, p0, p1, p2, p3, p4, p5, p6, p7, p8, p9, p10, p11⟩
        go_simp <;> first | rfl | kernel_rfl
      try simp only [Act.put, List.setIfInBounds_toArray, List.set_cons_zero, List.set_cons_succ]
      refine wpAnyH_take (i := 24) (oi := { dst := some 96, op := Op.pick (Operand.tmp 92) (Operand.tmp 95) (Operand.const (Value.bool false)), type := 4, pos := "law.go:60", after := #[{ on := 20, ground := Ground.data }, { on := 23, ground := Ground.data }], guard := none }) (v := (.bool true)) rfl (by kernel_rfl) (by kernel_rfl) (by kernel_rfl) (fun _ _ _ h => h) (Or.inl ⟨by rfl, ?_⟩) hHeld12 ?_
      · rintro u ⟨hb, p0, p1, p2, p3, p4, p5, p6, p7, p8, p9, p10, p11⟩
        go_simp <;> first | rfl | kernel_rfl
      try simp only [Act.put, List.setIfInBounds_toArray, List.set_cons_zero, List.set_cons_succ]
      refine wpAnyH_take (i := 25) (oi := { dst := some 97, op := Op.move (Operand.tmp 96), type := 4, pos := "law.go:60", after := #[{ on := 24, ground := Ground.data }, { on := 20, ground := Ground.chain }], guard := none }) (v := (.bool true)) rfl (by kernel_rfl) (by kernel_rfl) (by kernel_rfl) (fun _ _ _ h => h) (Or.inl ⟨by rfl, ?_⟩) hHeld12 ?_
      · rintro u ⟨hb, p0, p1, p2, p3, p4, p5, p6, p7, p8, p9, p10, p11⟩
        go_simp <;> first | rfl | kernel_rfl
      try simp only [Act.put, List.setIfInBounds_toArray, List.set_cons_zero, List.set_cons_succ]
      refine wpAnyH_take (i := 26) (oi := { dst := some 98, op := Op.move (Operand.tmp 9), type := 32, pos := "law.go:60", after := #[{ on := 25, ground := Ground.guard }], guard := some (25, true) }) (v := (.int .i64 T2)) rfl (by kernel_rfl) (by kernel_rfl) (by kernel_rfl) (fun _ _ _ h => h) (Or.inl ⟨by rfl, ?_⟩) hHeld12 ?_
      · rintro u ⟨hb, p0, p1, p2, p3, p4, p5, p6, p7, p8, p9, p10, p11⟩
        go_simp <;> first | rfl | kernel_rfl
      try simp only [Act.put, List.setIfInBounds_toArray, List.set_cons_zero, List.set_cons_succ]
      refine wpAnyH_take (i := 27) (oi := { dst := some 99, op := Op.move (Operand.tmp 12), type := 3, pos := "law.go:60", after := #[{ on := 25, ground := Ground.guard }], guard := some (25, true) }) (v := (.int .i64 T2)) rfl (by kernel_rfl) (by kernel_rfl) (by kernel_rfl) (fun _ _ _ h => h) (Or.inl ⟨by rfl, ?_⟩) hHeld12 ?_
      · rintro u ⟨hb, p0, p1, p2, p3, p4, p5, p6, p7, p8, p9, p10, p11⟩
        go_simp <;> first | rfl | kernel_rfl
      try simp only [Act.put, List.setIfInBounds_toArray, List.set_cons_zero, List.set_cons_succ]
      refine wpAnyH_take (i := 28) (oi := { dst := some 100, op := Op.binOp BinOp.eql 3 (Operand.tmp 98) (Operand.tmp 99) 3, type := 4, pos := "law.go:60", after := #[{ on := 26, ground := Ground.data }, { on := 27, ground := Ground.data }, { on := 25, ground := Ground.guard }], guard := some (25, true) }) (v := (.bool true)) rfl (by kernel_rfl) (by kernel_rfl) (by kernel_rfl) (fun _ _ _ h => h) (Or.inl ⟨by rfl, ?_⟩) hHeld12 ?_
      · rintro u ⟨hb, p0, p1, p2, p3, p4, p5, p6, p7, p8, p9, p10, p11⟩
        go_simp <;> first | rfl | kernel_rfl
      try simp only [Act.put, List.setIfInBounds_toArray, List.set_cons_zero, List.set_cons_succ]
      refine wpAnyH_take (i := 29) (oi := { dst := some 101, op := Op.pick (Operand.tmp 97) (Operand.tmp 100) (Operand.const (Value.bool false)), type := 4, pos := "law.go:60", after := #[{ on := 25, ground := Ground.data }, { on := 28, ground := Ground.data }], guard := none }) (v := (.bool true)) rfl (by kernel_rfl) (by kernel_rfl) (by kernel_rfl) (fun _ _ _ h => h) (Or.inl ⟨by rfl, ?_⟩) hHeld12 ?_
      · rintro u ⟨hb, p0, p1, p2, p3, p4, p5, p6, p7, p8, p9, p10, p11⟩
        go_simp <;> first | rfl | kernel_rfl
      try simp only [Act.put, List.setIfInBounds_toArray, List.set_cons_zero, List.set_cons_succ]
      refine wpAnyH_take (i := 30) (oi := { dst := some 102, op := Op.move (Operand.tmp 101), type := 4, pos := "law.go:60", after := #[{ on := 29, ground := Ground.data }, { on := 25, ground := Ground.chain }], guard := none }) (v := (.bool true)) rfl (by kernel_rfl) (by kernel_rfl) (by kernel_rfl) (fun _ _ _ h => h) (Or.inl ⟨by rfl, ?_⟩) hHeld12 ?_
      · rintro u ⟨hb, p0, p1, p2, p3, p4, p5, p6, p7, p8, p9, p10, p11⟩
        go_simp <;> first | rfl | kernel_rfl
      try simp only [Act.put, List.setIfInBounds_toArray, List.set_cons_zero, List.set_cons_succ]
      refine wpAnyH_take (i := 31) (oi := { dst := some 103, op := Op.load 25 (Operand.tmp 13), type := 25, pos := "law.go:60", after := #[{ on := 30, ground := Ground.guard }], guard := some (30, true) }) (v := (.agg #[.int .i64 D, .int .u8 K9, .int .u64 S9, .slice ra R.length rc])) rfl (by kernel_rfl) (by kernel_rfl) (by kernel_rfl) (fun _ _ _ h => h) (Or.inl ⟨by rfl, ?_⟩) hHeld12 ?_
      · rintro u ⟨hb, p0, p1, p2, p3, p4, p5, p6, p7, p8, p9, p10, p11⟩
        go_simp <;> first | rfl | kernel_rfl
      try simp only [Act.put, List.setIfInBounds_toArray, List.set_cons_zero, List.set_cons_succ]
      refine wpAnyH_take (i := 32) (oi := { dst := some 104, op := Op.load 25 (Operand.tmp 15), type := 25, pos := "law.go:60", after := #[{ on := 30, ground := Ground.guard }], guard := some (30, true) }) (v := (.agg #[.int .i64 D, .int .u8 K9, .int .u64 S9, .slice rb R.length rd])) rfl (by kernel_rfl) (by kernel_rfl) (by kernel_rfl) (fun _ _ _ h => h) (Or.inl ⟨by rfl, ?_⟩) hHeld12 ?_
      · rintro u ⟨hb, p0, p1, p2, p3, p4, p5, p6, p7, p8, p9, p10, p11⟩
        go_simp <;> first | rfl | kernel_rfl
      try simp only [Act.put, List.setIfInBounds_toArray, List.set_cons_zero, List.set_cons_succ]
      refine wpAnyH_ready (rs := [33]) (by kernel_rfl) (by simp) ?_
      refine AllReadyH.cons (o := { dst := some 105, op := Op.call { callee := Callee.value (Operand.func 21), args := #[Operand.tmp 103, Operand.tmp 104], argTypes := #[25, 25] }, type := 4, pos := "law.go:60", after := #[{ on := 31, ground := Ground.data }, { on := 32, ground := Ground.data }, { on := 30, ground := Ground.chain }, { on := 30, ground := Ground.guard }], guard := some (30, true) }) rfl (fun Kq hKq => ?_) AllReadyH.nil
      go_simp
      refine (KSE.out _ hHeld12.1).mono ?_
      rintro _ V6 ⟨rfl, hb6⟩
      go_simp
      refine hKq.out _ _ ((HS.out _ (hHeld12.1.trans (hb6.mono hHeld12.1.size)))) (fun hHeld33 => ?_)
      clear hKq Kq
      try simp only [Act.put, List.setIfInBounds_toArray, List.set_cons_zero, List.set_cons_succ]
      refine wpAnyH_take (i := 34) (oi := { dst := some 106, op := Op.pick (Operand.tmp 102) (Operand.tmp 105) (Operand.const (Value.bool false)), type := 4, pos := "law.go:60", after := #[{ on := 30, ground := Ground.data }, { on := 33, ground := Ground.data }], guard := none }) (v := (.bool true)) rfl (by kernel_rfl) (by kernel_rfl) (by kernel_rfl) (fun _ _ _ h => h) (Or.inl ⟨by rfl, ?_⟩) hHeld33 ?_
      · rintro u ⟨hb, p0, p1, p2, p3, p4, p5, p6, p7, p8, p9, p10, p11⟩
        go_simp <;> first | rfl | kernel_rfl
      try simp only [Act.put, List.setIfInBounds_toArray, List.set_cons_zero, List.set_cons_succ]
      refine wpAnyH_take (i := 35) (oi := { dst := some 107, op := Op.move (Operand.tmp 106), type := 4, pos := "law.go:60", after := #[{ on := 34, ground := Ground.data }, { on := 33, ground := Ground.chain }], guard := none }) (v := (.bool true)) rfl (by kernel_rfl) (by kernel_rfl) (by kernel_rfl) (fun _ _ _ h => h) (Or.inl ⟨by rfl, ?_⟩) hHeld33 ?_
      · rintro u ⟨hb, p0, p1, p2, p3, p4, p5, p6, p7, p8, p9, p10, p11⟩
        go_simp <;> first | rfl | kernel_rfl
      try simp only [Act.put, List.setIfInBounds_toArray, List.set_cons_zero, List.set_cons_succ]
      refine wpAnyH_take (i := 36) (oi := { dst := some 108, op := Op.move (Operand.tmp 14), type := 32, pos := "law.go:60", after := #[{ on := 35, ground := Ground.guard }], guard := some (35, true) }) (v := (.int .i64 z)) rfl (by kernel_rfl) (by kernel_rfl) (by kernel_rfl) (fun _ _ _ h => h) (Or.inl ⟨by rfl, ?_⟩) hHeld33 ?_
      · rintro u ⟨hb, p0, p1, p2, p3, p4, p5, p6, p7, p8, p9, p10, p11⟩
        go_simp <;> first | rfl | kernel_rfl
      try simp only [Act.put, List.setIfInBounds_toArray, List.set_cons_zero, List.set_cons_succ]
      refine wpAnyH_take (i := 37) (oi := { dst := some 109, op := Op.move (Operand.tmp 16), type := 3, pos := "law.go:60", after := #[{ on := 35, ground := Ground.guard }], guard := some (35, true) }) (v := (.int .i64 z)) rfl (by kernel_rfl) (by kernel_rfl) (by kernel_rfl) (fun _ _ _ h => h) (Or.inl ⟨by rfl, ?_⟩) hHeld33 ?_
      · rintro u ⟨hb, p0, p1, p2, p3, p4, p5, p6, p7, p8, p9, p10, p11⟩
        go_simp <;> first | rfl | kernel_rfl
      try simp only [Act.put, List.setIfInBounds_toArray, List.set_cons_zero, List.set_cons_succ]
      refine wpAnyH_take (i := 38) (oi := { dst := some 110, op := Op.binOp BinOp.eql 3 (Operand.tmp 108) (Operand.tmp 109) 3, type := 4, pos := "law.go:60", after := #[{ on := 36, ground := Ground.data }, { on := 37, ground := Ground.data }, { on := 35, ground := Ground.guard }], guard := some (35, true) }) (v := (.bool true)) rfl (by kernel_rfl) (by kernel_rfl) (by kernel_rfl) (fun _ _ _ h => h) (Or.inl ⟨by rfl, ?_⟩) hHeld33 ?_
      · rintro u ⟨hb, p0, p1, p2, p3, p4, p5, p6, p7, p8, p9, p10, p11⟩
        go_simp <;> first | rfl | kernel_rfl
      try simp only [Act.put, List.setIfInBounds_toArray, List.set_cons_zero, List.set_cons_succ]
      refine wpAnyH_take (i := 39) (oi := { dst := some 111, op := Op.pick (Operand.tmp 107) (Operand.tmp 110) (Operand.const (Value.bool false)), type := 4, pos := "law.go:60", after := #[{ on := 35, ground := Ground.data }, { on := 38, ground := Ground.data }], guard := none }) (v := (.bool true)) rfl (by kernel_rfl) (by kernel_rfl) (by kernel_rfl) (fun _ _ _ h => h) (Or.inl ⟨by rfl, ?_⟩) hHeld33 ?_
      · rintro u ⟨hb, p0, p1, p2, p3, p4, p5, p6, p7, p8, p9, p10, p11⟩
        go_simp <;> first | rfl | kernel_rfl
      try simp only [Act.put, List.setIfInBounds_toArray, List.set_cons_zero, List.set_cons_succ]
      refine wpAnyH_take (i := 40) (oi := { dst := some 112, op := Op.move (Operand.tmp 111), type := 4, pos := "law.go:60", after := #[{ on := 39, ground := Ground.data }, { on := 35, ground := Ground.chain }], guard := none }) (v := (.bool true)) rfl (by kernel_rfl) (by kernel_rfl) (by kernel_rfl) (fun _ _ _ h => h) (Or.inl ⟨by rfl, ?_⟩) hHeld33 ?_
      · rintro u ⟨hb, p0, p1, p2, p3, p4, p5, p6, p7, p8, p9, p10, p11⟩
        go_simp <;> first | rfl | kernel_rfl
      try simp only [Act.put, List.setIfInBounds_toArray, List.set_cons_zero, List.set_cons_succ]
      refine wpAnyH_ready (rs := [41]) (by kernel_rfl) (by simp) ?_
      refine AllReadyH.cons (o := { dst := some 113, op := Op.call { callee := Callee.value (Operand.func 9), args := #[], argTypes := #[] }, type := 4, pos := "law.go:60", after := #[{ on := 40, ground := Ground.chain }, { on := 40, ground := Ground.guard }], guard := some (40, true) }) rfl (fun Kq hKq => ?_) AllReadyH.nil
      go_simp
      refine (KH.out _).mono ?_
      rintro _ V7 ⟨rfl, hb7⟩
      go_simp
      refine hKq.out _ _ ((HS.out _ (hHeld33.1.trans (hb7.mono hHeld33.1.size)))) (fun hHeld41 => ?_)
      clear hKq Kq
      try simp only [Act.put, List.setIfInBounds_toArray, List.set_cons_zero, List.set_cons_succ]
      refine wpAnyH_take (i := 42) (oi := { dst := some 114, op := Op.pick (Operand.tmp 112) (Operand.tmp 113) (Operand.const (Value.bool false)), type := 4, pos := "law.go:60", after := #[{ on := 40, ground := Ground.data }, { on := 41, ground := Ground.data }], guard := none }) (v := (.bool true)) rfl (by kernel_rfl) (by kernel_rfl) (by kernel_rfl) (fun _ _ _ h => h) (Or.inl ⟨by rfl, ?_⟩) hHeld41 ?_
      · rintro u ⟨hb, p0, p1, p2, p3, p4, p5, p6, p7, p8, p9, p10, p11⟩
        go_simp <;> first | rfl | kernel_rfl
      try simp only [Act.put, List.setIfInBounds_toArray, List.set_cons_zero, List.set_cons_succ]
      refine wpAnyH_take (i := 43) (oi := { dst := some 2, op := Op.assign (Operand.tmp 114), type := 4, pos := "law.go:60", after := #[{ on := 42, ground := Ground.data }, { on := 41, ground := Ground.chain }, { on := 0, ground := Ground.phase }, { on := 1, ground := Ground.phase }, { on := 2, ground := Ground.phase }, { on := 3, ground := Ground.phase }, { on := 4, ground := Ground.phase }, { on := 5, ground := Ground.phase }, { on := 6, ground := Ground.phase }, { on := 7, ground := Ground.phase }, { on := 8, ground := Ground.phase }, { on := 9, ground := Ground.phase }, { on := 10, ground := Ground.phase }, { on := 11, ground := Ground.phase }, { on := 12, ground := Ground.phase }, { on := 13, ground := Ground.phase }, { on := 14, ground := Ground.phase }, { on := 15, ground := Ground.phase }, { on := 16, ground := Ground.phase }, { on := 17, ground := Ground.phase }, { on := 18, ground := Ground.phase }, { on := 19, ground := Ground.phase }, { on := 20, ground := Ground.phase }, { on := 21, ground := Ground.phase }, { on := 22, ground := Ground.phase }, { on := 23, ground := Ground.phase }, { on := 24, ground := Ground.phase }, { on := 25, ground := Ground.phase }, { on := 26, ground := Ground.phase }, { on := 27, ground := Ground.phase }, { on := 28, ground := Ground.phase }, { on := 29, ground := Ground.phase }, { on := 30, ground := Ground.phase }, { on := 31, ground := Ground.phase }, { on := 32, ground := Ground.phase }, { on := 33, ground := Ground.phase }, { on := 34, ground := Ground.phase }, { on := 35, ground := Ground.phase }, { on := 36, ground := Ground.phase }, { on := 37, ground := Ground.phase }, { on := 38, ground := Ground.phase }, { on := 39, ground := Ground.phase }, { on := 40, ground := Ground.phase }, { on := 41, ground := Ground.phase }, { on := 42, ground := Ground.phase }], guard := none }) (v := (.bool true)) rfl (by kernel_rfl) (by kernel_rfl) (by kernel_rfl) (fun _ _ _ h => h) (Or.inl ⟨by rfl, ?_⟩) hHeld41 ?_
      · rintro u ⟨hb, p0, p1, p2, p3, p4, p5, p6, p7, p8, p9, p10, p11⟩
        go_simp <;> first | rfl | kernel_rfl
      try simp only [Act.put, List.setIfInBounds_toArray, List.set_cons_zero, List.set_cons_succ]
      refine wpAnyH_done (by kernel_rfl) ?_ _
      go_wp2_with fail
      go_ret
      exact ⟨rfl, HBV.out.trans (hHeld41.1.mono HBV.out.size)⟩
end
end Go.Proofs.Ytnblilonjpfdnaa.Jn
