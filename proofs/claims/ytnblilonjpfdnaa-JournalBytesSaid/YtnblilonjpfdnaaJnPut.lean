/- Package journal: Put. -/
import Derived.Test.YtnblilonjpfdnaaJnRev
import Derived.Test.YtnblilonjpfdnaaJaH
import Derived.Lib.Strings
namespace Go.Proofs.Ytnblilonjpfdnaa.Jn
open Go Go.RowKit Ck
/-- The bytes of a line; of lines; of an entry. -/
def lnB (x : Ln) : List UInt8 := Ta.num x.acc.toNat ++ Ta.num x.cus.toNat ++ Ta.num x.con.toNat ++ Ta.num (Tal.zig x.amt)
def linesB (L : List Ln) : List UInt8 := L.flatMap lnB
def headB (d k s : Nat) (n : Nat) : List UInt8 := Ta.num d ++ Ta.num k ++ Ta.num s ++ Ta.num n
def enB (d k s : Int) (L : List Ln) : List UInt8 := headB d.toNat k.toNat s.toNat L.length ++ linesB L
theorem linesB_snoc (L : List Ln) (x : Ln) : linesB (L ++ [x]) = linesB L ++ lnB x := by unfold linesB; rw [List.flatMap_append]; simp
def bs (l : List UInt8) : ByteArray := ⟨l.toArray⟩
theorem bs_app (a b : List UInt8) : bs a ++ bs b = bs (a ++ b) := by
  unfold bs
  apply ByteArray.ext
  simp [ByteArray.data_append]
theorem bs_size (l : List UInt8) : (bs l).size = l.length := by unfold bs; simp [ByteArray.size]
theorem num_sz (n : Nat) (h : n < 18446744073709551616) : (bs (Ta.num n)).size ≤ 10 := by rw [bs_size]; exact (Ta.num_len n h).1
theorem lnB_len {x : Ln} (h : x.okB = true) (hr : InR x.key) : (lnB x).length ≤ 40 := by
  have h1 := okB_amt h
  have h2 := hr.2.1
  have h3 := hr.2.2
  simp only [Ln.key] at h2 h3
  have z1 := (Ta.num_len x.acc.toNat (by omega)).1
  have z2 := (Ta.num_len x.cus.toNat (by omega)).1
  have z3 := (Ta.num_len x.con.toNat (by omega)).1
  have z4 := (Ta.num_len (Tal.zig x.amt) (Tal.zig_lt _ (by omega) (by omega))).1
  unfold lnB
  simp only [List.length_append]
  omega
theorem linesB_len {L : List Ln} (h : ∀ x ∈ L, x.okB = true) (hr : ∀ x ∈ L, InR x.key) : (linesB L).length ≤ 40 * L.length := by
  induction L with
  | nil => simp [linesB]
  | cons x L ih =>
    have h1 := lnB_len (h x (by simp)) (hr x (by simp))
    have h2 := ih (fun y hy => h y (by simp [hy])) (fun y hy => hr y (by simp [hy]))
    have e : linesB (x :: L) = lnB x ++ linesB L := rfl
    rw [e, List.length_append, List.length_cons]
    omega
/-- What Put leaves. -/
def PutR (d k s : Int) (L : List Ln) (w : World) (e : Ending) (w' : World) : Prop := Below w.heap.size w w' ∧ ((chkM d k L ≠ 0 ∧ e = .returned (.tuple #[.string ⟨#[]⟩, .int .i64 (chkM d k L)])) ∨ (chkM d k L = 0 ∧ e = .returned (.tuple #[.string (bs (enB d k s L)), .int .i64 0])))
structure EnR (k s : Int) (L : List Ln) : Prop where
  k : 0 ≤ k ∧ k ≤ 255
  s : 0 ≤ s ∧ s ≤ 18446744073709551615
  l : ∀ x ∈ L, InR x.key
section
set_option maxRecDepth 100000
set_option maxHeartbeats 3200000
theorem put_c (d k s : Int) (L : List Ln) (a : Option Addr) (cap : Nat) (w : World) (h : Lns w a L) (hl : L.length ≤ 1000000) (hr : EnR k s L) : Calls Try.prog 25 #[(.agg #[.int .i64 d, .int .u8 k, .int .u64 s, .slice a L.length cap])] w (PutR d k s L w) := by
  have H := Lib.hid h
  have HL := Lib.hid hl
  have HE := Lib.hid hr
  have KN : Hid (∀ (n : Nat) u, n < 18446744073709551616 → Calls Try.prog 62 #[.int .u64 (n : Int)] u fun e w' => e = .returned (.string (bs (Ta.num n))) ∧ Below u.heap.size u w') := fun n u hn => Tal.num_c n u hn
  have KI : Hid (∀ (n : Int) u, -9223372036854775808 ≤ n → n ≤ 9223372036854775807 → Calls Try.prog 63 #[.int .i64 n] u fun e w' => e = .returned (.string (bs (Ta.num (Tal.zig n)))) ∧ Below u.heap.size u w') := fun n u h0 h1 => Tal.int_c n u h0 h1
  have HB0 : Hid (Below w.heap.size w (w.alloc (.cells #[.int .i64 d, .int .u8 k, .int .u64 s, .slice a L.length cap] TEn))) := (Below.refl _ w).alloc (Nat.le_refl _) _
  have RE0 : Hid (Rw (w.alloc (.cells #[.int .i64 d, .int .u8 k, .int .u64 s, .slice a L.length cap] TEn)) w.heap.size TEn [.int .i64 d, .int .u8 k, .int .u64 s, .slice a L.length cap]) := Rw.new w [.int .i64 d, .int .u8 k, .int .u64 s, .slice a L.length cap] TEn
  clear h hl hr
  go_enter Try.func25, Try.ntmps25
  go_upto_region 1 with (fail)
  obtain ⟨lo, hlo⟩ : ∃ lo, lo = w.heap.size := ⟨_, rfl⟩
  have HLO := Lib.hid hlo
  rw [← hlo] at RE0 HB0 ⊢
  clear hlo
  generalize w.alloc (.cells #[.int .i64 d, .int .u8 k, .int .u64 s, .slice a L.length cap] TEn) = W2 at HB0 RE0 ⊢
  have KC := Lib.hid (check_c d k s L a cap W2 (H.out.later (by rw [← HLO.out]; exact HB0.out)) HL.out)
  obtain ⟨ch, hch⟩ : ∃ ch, ch = chkM d k L := ⟨_, rfl⟩
  rw [← hch] at KC
  have HCH := Lib.hid hch
  have e0 : W2.cell? ⟨lo, 0, none⟩ = some (.int .i64 d) := RE0.out.cell 0
  have e1 : W2.cell? ⟨lo, 1, none⟩ = some (.int .u8 k) := RE0.out.cell 1
  have e2 : W2.cell? ⟨lo, 2, none⟩ = some (.int .u64 s) := RE0.out.cell 2
  have e3 : W2.cell? ⟨lo, 3, none⟩ = some (.slice a L.length cap) := RE0.out.cell 3
  clear hch
  go_wp2_with fail
  refine KC.out.mono ?_
  rintro _ W3 ⟨rfl, hb3⟩
  have HB3 : Hid (Below lo w W3) := HB0.out.trans (hb3.mono (by rw [HLO.out]; exact HB0.out.size))
  have RE3 := Lib.hid (RE0.out.later hb3)
  clear e0 e1 e2 e3 hb3 HB0 RE0 KC
  by_cases hc0 : ch = 0
  · subst hc0
    have HCK := Lib.hid (chk_ok' HCH.out.symm)
    have HLEN : Hid (2 ≤ L.length ∧ L.length ≤ 64 ∧ 1 ≤ d ∧ d ≤ 3652059) := by
      have := HCK.out.1
      unfold badB dayB at this
      simp at this
      show _ ∧ _
      omega
    obtain ⟨dn, hdn⟩ : ∃ dn : Nat, d = (dn : Int) := ⟨d.toNat, by have := HLEN.out; omega⟩
    obtain ⟨kn, hkn⟩ : ∃ kn : Nat, k = (kn : Int) := ⟨k.toNat, by have := HE.out.k; omega⟩
    obtain ⟨sn, hsn⟩ : ∃ sn : Nat, s = (sn : Int) := ⟨s.toNat, by have := HE.out.s; omega⟩
    subst hdn hkn hsn
    have HEB : Hid (enB (dn : Int) (kn : Int) (sn : Int) L = headB dn kn sn L.length ++ linesB L) := by show _ = _; unfold enB; rw [Int.toNat_natCast, Int.toNat_natCast, Int.toNat_natCast]
    have hwd : IntKind.u64.wrap (dn : Int) = (dn : Int) := IntWalk.u64_in _ (by have := HLEN.out; exact ⟨by omega, by omega⟩)
    have hwk : IntKind.u64.wrap (kn : Int) = (kn : Int) := IntWalk.u64_in _ (by have := HE.out.k; exact ⟨by omega, by omega⟩)
    have hwl : IntKind.u64.wrap (L.length : Int) = (L.length : Int) := IntWalk.u64_in _ (by have := HLEN.out; exact ⟨by omega, by omega⟩)
    have HNM : Hid (dn < 18446744073709551616 ∧ kn < 18446744073709551616 ∧ sn < 18446744073709551616 ∧ L.length < 18446744073709551616) := by
      have h1 := HLEN.out
      have h2 := HE.out.k
      have h3 := HE.out.s
      show _ ∧ _
      omega
    have HSK : Hid (∀ u u', (lo < u.heap.size ∧ u.cell? ⟨lo, 0, none⟩ = some (.int .i64 (dn : Int)) ∧ u.cell? ⟨lo, 1, none⟩ = some (.int .u8 (kn : Int)) ∧ u.cell? ⟨lo, 2, none⟩ = some (.int .u64 (sn : Int)) ∧ u.cell? ⟨lo, 3, none⟩ = some (.slice a L.length cap)) → Below u.heap.size u u' → (lo < u'.heap.size ∧ u'.cell? ⟨lo, 0, none⟩ = some (.int .i64 (dn : Int)) ∧ u'.cell? ⟨lo, 1, none⟩ = some (.int .u8 (kn : Int)) ∧ u'.cell? ⟨lo, 2, none⟩ = some (.int .u64 (sn : Int)) ∧ u'.cell? ⟨lo, 3, none⟩ = some (.slice a L.length cap))) := by
      rintro u u' ⟨h0, h1, h2, h3, h4⟩ hb
      exact ⟨Nat.lt_of_lt_of_le h0 hb.size, by rw [hb.cell h0]; exact h1, by rw [hb.cell h0]; exact h2, by rw [hb.cell h0]; exact h3, by rw [hb.cell h0]; exact h4⟩
    have K1 := Lib.hid fun u => KN.out dn u HNM.out.1
    have K2 := Lib.hid fun u => KN.out kn u HNM.out.2.1
    have K3 := Lib.hid fun u => KN.out sn u HNM.out.2.2.1
    have K4 := Lib.hid fun u => KN.out L.length u HNM.out.2.2.2
    have HSTR : Hid (bs (Ta.num dn) ++ bs (Ta.num kn) ++ bs (Ta.num sn) ++ bs (Ta.num L.length) = bs (headB dn kn sn L.length)) := by
      show _ = _
      rw [bs_app, bs_app, bs_app]; rfl
    have z1 := num_sz dn HNM.out.1
    have z2 := num_sz kn HNM.out.2.1
    have z3 := num_sz sn HNM.out.2.2.1
    have z4 := num_sz L.length HNM.out.2.2.2
    have HHD : Hid ((headB dn kn sn L.length).length ≤ 40) := by
      show _ ≤ _
      rw [bs_size] at z1 z2 z3 z4
      unfold headB
      simp only [List.length_append]
      omega
    go_upto_region 4 with (fail)
    have HS0 : Hid (w.heap.size ≤ W3.heap.size) := by exact (HB3).out.size
    refine wp_region_held_drew (S := (fun u => (lo < u.heap.size ∧ u.cell? ⟨lo, 0, none⟩ = some (.int .i64 (dn : Int)) ∧ u.cell? ⟨lo, 1, none⟩ = some (.int .u8 (kn : Int)) ∧ u.cell? ⟨lo, 2, none⟩ = some (.int .u64 (sn : Int)) ∧ u.cell? ⟨lo, 3, none⟩ = some (.slice a L.length cap)))) (by kernel_rfl) ?_ (fun hHeld => ?_)
    · exact ⟨RE3.out.lt, RE3.out.cell 0, RE3.out.cell 1, RE3.out.cell 2, RE3.out.cell 3⟩
    refine wpAnyH_take (i := 0) (oi := { dst := some 13, op := Op.fieldAddr 25 (Operand.tmp 1) 0, type := 0, pos := "journal.go:155", after := #[], guard := none }) (v := (.pointer (some ⟨lo, 0, none⟩))) rfl (by kernel_rfl) (by kernel_rfl) (by kernel_rfl) (fun _ _ _ h => h) (Or.inl ⟨by rfl, ?_⟩) hHeld ?_
    · rintro u ⟨h0, p0, p1, p2, p3⟩
      go_simp <;> first | exact hwd | exact hwk | exact hwl | omega | rfl | kernel_rfl
    try simp only [Act.put, List.setIfInBounds_toArray, List.set_cons_zero, List.set_cons_succ]
    refine wpAnyH_take (i := 1) (oi := { dst := some 14, op := Op.load 3 (Operand.tmp 13), type := 3, pos := "journal.go:155", after := #[{ on := 0, ground := Ground.data }], guard := none }) (v := (.int .i64 (dn : Int))) rfl (by kernel_rfl) (by kernel_rfl) (by kernel_rfl) (fun _ _ _ h => h) (Or.inl ⟨by rfl, ?_⟩) hHeld ?_
    · rintro u ⟨h0, p0, p1, p2, p3⟩
      go_simp <;> first | exact hwd | exact hwk | exact hwl | omega | rfl | kernel_rfl
    try simp only [Act.put, List.setIfInBounds_toArray, List.set_cons_zero, List.set_cons_succ]
    refine wpAnyH_take (i := 2) (oi := { dst := some 15, op := Op.convert 3 22 (Operand.tmp 14), type := 22, pos := "journal.go:155", after := #[{ on := 1, ground := Ground.data }], guard := none }) (v := (.int .u64 (dn : Int))) rfl (by kernel_rfl) (by kernel_rfl) (by kernel_rfl) (fun _ _ _ h => h) (Or.inl ⟨by rfl, ?_⟩) hHeld ?_
    · rintro u ⟨h0, p0, p1, p2, p3⟩
      go_simp <;> first | exact hwd | exact hwk | exact hwl | omega | rfl | kernel_rfl
    try simp only [Act.put, List.setIfInBounds_toArray, List.set_cons_zero, List.set_cons_succ]
    refine wpAnyH_take (i := 4) (oi := { dst := some 17, op := Op.fieldAddr 25 (Operand.tmp 1) 1, type := 0, pos := "journal.go:155", after := #[], guard := none }) (v := (.pointer (some ⟨lo, 1, none⟩))) rfl (by kernel_rfl) (by kernel_rfl) (by kernel_rfl) (fun _ _ _ h => h) (Or.inl ⟨by rfl, ?_⟩) hHeld ?_
    · rintro u ⟨h0, p0, p1, p2, p3⟩
      go_simp <;> first | exact hwd | exact hwk | exact hwl | omega | rfl | kernel_rfl
    try simp only [Act.put, List.setIfInBounds_toArray, List.set_cons_zero, List.set_cons_succ]
    refine wpAnyH_take (i := 5) (oi := { dst := some 18, op := Op.load 5 (Operand.tmp 17), type := 5, pos := "journal.go:155", after := #[{ on := 4, ground := Ground.data }], guard := none }) (v := (.int .u8 (kn : Int))) rfl (by kernel_rfl) (by kernel_rfl) (by kernel_rfl) (fun _ _ _ h => h) (Or.inl ⟨by rfl, ?_⟩) hHeld ?_
    · rintro u ⟨h0, p0, p1, p2, p3⟩
      go_simp <;> first | exact hwd | exact hwk | exact hwl | omega | rfl | kernel_rfl
    try simp only [Act.put, List.setIfInBounds_toArray, List.set_cons_zero, List.set_cons_succ]
    refine wpAnyH_take (i := 6) (oi := { dst := some 19, op := Op.convert 5 22 (Operand.tmp 18), type := 22, pos := "journal.go:155", after := #[{ on := 5, ground := Ground.data }], guard := none }) (v := (.int .u64 (kn : Int))) rfl (by kernel_rfl) (by kernel_rfl) (by kernel_rfl) (fun _ _ _ h => h) (Or.inl ⟨by rfl, ?_⟩) hHeld ?_
    · rintro u ⟨h0, p0, p1, p2, p3⟩
      go_simp <;> first | exact hwd | exact hwk | exact hwl | omega | rfl | kernel_rfl
    try simp only [Act.put, List.setIfInBounds_toArray, List.set_cons_zero, List.set_cons_succ]
    refine wpAnyH_take (i := 9) (oi := { dst := some 22, op := Op.fieldAddr 25 (Operand.tmp 1) 2, type := 0, pos := "journal.go:155", after := #[], guard := none }) (v := (.pointer (some ⟨lo, 2, none⟩))) rfl (by kernel_rfl) (by kernel_rfl) (by kernel_rfl) (fun _ _ _ h => h) (Or.inl ⟨by rfl, ?_⟩) hHeld ?_
    · rintro u ⟨h0, p0, p1, p2, p3⟩
      go_simp <;> first | exact hwd | exact hwk | exact hwl | omega | rfl | kernel_rfl
    try simp only [Act.put, List.setIfInBounds_toArray, List.set_cons_zero, List.set_cons_succ]
    refine wpAnyH_take (i := 10) (oi := { dst := some 23, op := Op.load 22 (Operand.tmp 22), type := 22, pos := "journal.go:155", after := #[{ on := 9, ground := Ground.data }], guard := none }) (v := (.int .u64 (sn : Int))) rfl (by kernel_rfl) (by kernel_rfl) (by kernel_rfl) (fun _ _ _ h => h) (Or.inl ⟨by rfl, ?_⟩) hHeld ?_
    · rintro u ⟨h0, p0, p1, p2, p3⟩
      go_simp <;> first | exact hwd | exact hwk | exact hwl | omega | rfl | kernel_rfl
    try simp only [Act.put, List.setIfInBounds_toArray, List.set_cons_zero, List.set_cons_succ]
    refine wpAnyH_take (i := 13) (oi := { dst := some 26, op := Op.fieldAddr 25 (Operand.tmp 1) 3, type := 0, pos := "journal.go:155", after := #[], guard := none }) (v := (.pointer (some ⟨lo, 3, none⟩))) rfl (by kernel_rfl) (by kernel_rfl) (by kernel_rfl) (fun _ _ _ h => h) (Or.inl ⟨by rfl, ?_⟩) hHeld ?_
    · rintro u ⟨h0, p0, p1, p2, p3⟩
      go_simp <;> first | exact hwd | exact hwk | exact hwl | omega | rfl | kernel_rfl
    try simp only [Act.put, List.setIfInBounds_toArray, List.set_cons_zero, List.set_cons_succ]
    refine wpAnyH_take (i := 14) (oi := { dst := some 27, op := Op.load 23 (Operand.tmp 26), type := 23, pos := "journal.go:155", after := #[{ on := 13, ground := Ground.data }], guard := none }) (v := (.slice a L.length cap)) rfl (by kernel_rfl) (by kernel_rfl) (by kernel_rfl) (fun _ _ _ h => h) (Or.inl ⟨by rfl, ?_⟩) hHeld ?_
    · rintro u ⟨h0, p0, p1, p2, p3⟩
      go_simp <;> first | exact hwd | exact hwk | exact hwl | omega | rfl | kernel_rfl
    try simp only [Act.put, List.setIfInBounds_toArray, List.set_cons_zero, List.set_cons_succ]
    refine wpAnyH_take (i := 15) (oi := { dst := some 28, op := Op.call { callee := Callee.builtin Builtin.len, args := #[Operand.tmp 27], argTypes := #[23] }, type := 3, pos := "journal.go:155", after := #[{ on := 14, ground := Ground.data }], guard := none }) (v := (.int .i64 (L.length : Int))) rfl (by kernel_rfl) (by kernel_rfl) (by kernel_rfl) (fun _ _ _ h => h) (Or.inl ⟨by rfl, ?_⟩) hHeld ?_
    · rintro u ⟨h0, p0, p1, p2, p3⟩
      go_simp <;> first | exact hwd | exact hwk | exact hwl | omega | rfl | kernel_rfl
    try simp only [Act.put, List.setIfInBounds_toArray, List.set_cons_zero, List.set_cons_succ]
    refine wpAnyH_take (i := 16) (oi := { dst := some 29, op := Op.convert 3 22 (Operand.tmp 28), type := 22, pos := "journal.go:155", after := #[{ on := 15, ground := Ground.data }], guard := none }) (v := (.int .u64 (L.length : Int))) rfl (by kernel_rfl) (by kernel_rfl) (by kernel_rfl) (fun _ _ _ h => h) (Or.inl ⟨by rfl, ?_⟩) hHeld ?_
    · rintro u ⟨h0, p0, p1, p2, p3⟩
      go_simp <;> first | exact hwd | exact hwk | exact hwl | omega | rfl | kernel_rfl
    try simp only [Act.put, List.setIfInBounds_toArray, List.set_cons_zero, List.set_cons_succ]
    refine wpAnyH_ready (rs := [3]) (by kernel_rfl) (by simp) ?_
    refine AllReadyH.cons (o := { dst := some 16, op := Op.call { callee := Callee.value (Operand.func 62), args := #[Operand.tmp 15], argTypes := #[22] }, type := 9, pos := "journal.go:155", after := #[{ on := 2, ground := Ground.data }], guard := none }) rfl (fun Kq hKq => ?_) AllReadyH.nil
    go_simp
    refine (K1.out _).mono ?_
    rintro _ V1 ⟨rfl, hb1⟩
    have SZ2 : Hid (w.heap.size ≤ V1.heap.size) := Nat.le_trans HS0.out hb1.size
    go_simp
    refine hKq.out _ _ ((HSK.out _ _ hHeld hb1)) (fun hHeld3 => ?_)
    clear hKq Kq
    try simp only [Act.put, List.setIfInBounds_toArray, List.set_cons_zero, List.set_cons_succ]
    refine wpAnyH_ready (rs := [7]) (by kernel_rfl) (by simp) ?_
    refine AllReadyH.cons (o := { dst := some 20, op := Op.call { callee := Callee.value (Operand.func 62), args := #[Operand.tmp 19], argTypes := #[22] }, type := 9, pos := "journal.go:155", after := #[{ on := 6, ground := Ground.data }, { on := 3, ground := Ground.chain }], guard := none }) rfl (fun Kq hKq => ?_) AllReadyH.nil
    go_simp
    refine (K2.out _).mono ?_
    rintro _ V2 ⟨rfl, hb2⟩
    have SZ3 : Hid (w.heap.size ≤ V2.heap.size) := Nat.le_trans SZ2.out hb2.size
    go_simp
    refine hKq.out _ _ ((HSK.out _ _ hHeld3 hb2)) (fun hHeld7 => ?_)
    clear hKq Kq
    try simp only [Act.put, List.setIfInBounds_toArray, List.set_cons_zero, List.set_cons_succ]
    refine wpAnyH_take (i := 8) (oi := { dst := some 21, op := Op.binOp BinOp.add 9 (Operand.tmp 16) (Operand.tmp 20) 9, type := 9, pos := "journal.go:155", after := #[{ on := 3, ground := Ground.data }, { on := 7, ground := Ground.data }], guard := none }) (v := (.string (bs (Ta.num dn) ++ bs (Ta.num kn)))) rfl (by kernel_rfl) (by kernel_rfl) (by kernel_rfl) (fun _ _ _ h => h) (Or.inl ⟨by rfl, ?_⟩) hHeld7 ?_
    · rintro u ⟨h0, p0, p1, p2, p3⟩
      go_simp <;> first | exact hwd | exact hwk | exact hwl | omega | rfl | kernel_rfl
    try simp only [Act.put, List.setIfInBounds_toArray, List.set_cons_zero, List.set_cons_succ]
    refine wpAnyH_ready (rs := [11]) (by kernel_rfl) (by simp) ?_
    refine AllReadyH.cons (o := { dst := some 24, op := Op.call { callee := Callee.value (Operand.func 62), args := #[Operand.tmp 23], argTypes := #[22] }, type := 9, pos := "journal.go:155", after := #[{ on := 10, ground := Ground.data }, { on := 7, ground := Ground.chain }], guard := none }) rfl (fun Kq hKq => ?_) AllReadyH.nil
    go_simp
    refine (K3.out _).mono ?_
    rintro _ V3 ⟨rfl, hb3⟩
    have SZ4 : Hid (w.heap.size ≤ V3.heap.size) := Nat.le_trans SZ3.out hb3.size
    go_simp
    refine hKq.out _ _ ((HSK.out _ _ hHeld7 hb3)) (fun hHeld11 => ?_)
    clear hKq Kq
    try simp only [Act.put, List.setIfInBounds_toArray, List.set_cons_zero, List.set_cons_succ]
    refine wpAnyH_take (i := 12) (oi := { dst := some 25, op := Op.binOp BinOp.add 9 (Operand.tmp 21) (Operand.tmp 24) 9, type := 9, pos := "journal.go:155", after := #[{ on := 8, ground := Ground.data }, { on := 11, ground := Ground.data }], guard := none }) (v := (.string (bs (Ta.num dn) ++ bs (Ta.num kn) ++ bs (Ta.num sn)))) rfl (by kernel_rfl) (by kernel_rfl) (by kernel_rfl) (fun _ _ _ h => h) (Or.inl ⟨by rfl, ?_⟩) hHeld11 ?_
    · rintro u ⟨h0, p0, p1, p2, p3⟩
      go_simp <;> first | exact hwd | exact hwk | exact hwl | omega | rfl | kernel_rfl
    try simp only [Act.put, List.setIfInBounds_toArray, List.set_cons_zero, List.set_cons_succ]
    refine wpAnyH_ready (rs := [17]) (by kernel_rfl) (by simp) ?_
    refine AllReadyH.cons (o := { dst := some 30, op := Op.call { callee := Callee.value (Operand.func 62), args := #[Operand.tmp 29], argTypes := #[22] }, type := 9, pos := "journal.go:155", after := #[{ on := 16, ground := Ground.data }, { on := 11, ground := Ground.chain }], guard := none }) rfl (fun Kq hKq => ?_) AllReadyH.nil
    go_simp
    refine (K4.out _).mono ?_
    rintro _ V4 ⟨rfl, hb4⟩
    go_simp
    refine hKq.out _ _ ((HSK.out _ _ hHeld11 hb4)) (fun hHeld17 => ?_)
    clear hKq Kq
    try simp only [Act.put, List.setIfInBounds_toArray, List.set_cons_zero, List.set_cons_succ]
    refine wpAnyH_take (i := 18) (oi := { dst := some 31, op := Op.binOp BinOp.add 9 (Operand.tmp 25) (Operand.tmp 30) 9, type := 9, pos := "journal.go:155", after := #[{ on := 12, ground := Ground.data }, { on := 17, ground := Ground.data }], guard := none }) (v := (.string (bs (Ta.num dn) ++ bs (Ta.num kn) ++ bs (Ta.num sn) ++ bs (Ta.num L.length)))) rfl (by kernel_rfl) (by kernel_rfl) (by kernel_rfl) (fun _ _ _ h => h) (Or.inl ⟨by rfl, ?_⟩) hHeld17 ?_
    · rintro u ⟨h0, p0, p1, p2, p3⟩
      go_simp <;> first | exact hwd | exact hwk | exact hwl | omega | rfl | kernel_rfl
    try simp only [Act.put, List.setIfInBounds_toArray, List.set_cons_zero, List.set_cons_succ]
    refine wpAnyH_take (i := 19) (oi := { dst := some 5, op := Op.assign (Operand.tmp 31), type := 9, pos := "journal.go:155", after := #[{ on := 18, ground := Ground.data }, { on := 17, ground := Ground.chain }, { on := 0, ground := Ground.phase }, { on := 1, ground := Ground.phase }, { on := 2, ground := Ground.phase }, { on := 3, ground := Ground.phase }, { on := 4, ground := Ground.phase }, { on := 5, ground := Ground.phase }, { on := 6, ground := Ground.phase }, { on := 7, ground := Ground.phase }, { on := 8, ground := Ground.phase }, { on := 9, ground := Ground.phase }, { on := 10, ground := Ground.phase }, { on := 11, ground := Ground.phase }, { on := 12, ground := Ground.phase }, { on := 13, ground := Ground.phase }, { on := 14, ground := Ground.phase }, { on := 15, ground := Ground.phase }, { on := 16, ground := Ground.phase }, { on := 17, ground := Ground.phase }, { on := 18, ground := Ground.phase }], guard := none }) (v := (.string (bs (Ta.num dn) ++ bs (Ta.num kn) ++ bs (Ta.num sn) ++ bs (Ta.num L.length)))) rfl (by kernel_rfl) (by kernel_rfl) (by kernel_rfl) (fun _ _ _ h => h) (Or.inl ⟨by rfl, ?_⟩) hHeld17 ?_
    · rintro u ⟨h0, p0, p1, p2, p3⟩
      go_simp <;> first | exact hwd | exact hwk | exact hwl | omega | rfl | kernel_rfl
    try simp only [Act.put, List.setIfInBounds_toArray, List.set_cons_zero, List.set_cons_succ]
    have hHeldE := hHeld17
    refine wpAnyH_done (by kernel_rfl) ?_ _
    rw [HSTR.out]
    clear z1 z2 z3 z4 hwd hwk hwl K1 K2 K3 K4 HSTR HSK
    have e3 : V4.cell? ⟨lo, 3, none⟩ = some (.slice a L.length cap) := hHeldE.2.2.2.2
    have HB4 : Hid (Below lo w V4) := (((HB3.out.drew.trans (hb1.mono (by rw [HLO.out]; exact HB3.out.size))).trans (hb2.mono (by rw [HLO.out]; exact SZ2.out))).trans (hb3.mono (by rw [HLO.out]; exact SZ3.out))).trans (hb4.mono (by rw [HLO.out]; exact SZ4.out))
    clear hb1 hb2 hb3 hb4 SZ2 SZ3 SZ4
    go_upto_region 6 with (fail)
    clear e3 hHeldE
    generalize headB dn kn sn L.length = HD at HEB HHD ⊢
    go_loopg [5, 35] L.length (fun kx s5 s35 wr => ∃ i : Nat, s35 = .int .i64 (i : Int) ∧ s5 = .string (bs (HD ++ linesB (L.take i))) ∧ i ≤ L.length ∧ Hid (Below lo w wr) ∧ L.length ≤ i + kx)
    case atStart => exact ⟨0, rfl, by simp [linesB], Nat.zero_le _, HB4.out, by omega⟩
    case round =>
      obtain ⟨i, rfl, rfl, hi9, HC, hkx⟩ := hrel
      by_cases hlt : i < L.length
      · obtain ⟨ab, ao, rfl, _, hc⟩ := (H.out.later (by rw [← HLO.out]; exact HC.out)) i hlt
        have c0 := hc 0 _ rfl
        have c1 := hc 1 _ rfl
        have c2 := hc 2 _ rfl
        have c3 := hc 3 _ rfl
        have HST : Hid (linesB (L.take (i + 1)) = linesB (L.take i) ++ lnB L[i]) := by show _ = _; rw [List.take_succ_eq_append_getElem hlt, linesB_snoc]
        have HOK : Hid (L[i].okB = true) := List.all_eq_true.1 HCK.out.2.1 _ (List.getElem_mem hlt)
        have HRX : Hid (InR L[i].key) := HE.out.l _ (List.getElem_mem hlt)
        obtain ⟨x, hx⟩ : ∃ x, x = L[i] := ⟨_, rfl⟩
        rw [← hx] at c0 c1 c2 c3 HST HOK HRX
        have j0 : (0 : Int) ≤ (i : Int) := by omega
        have j1 : (i : Int) < (L.length : Int) := by omega
        have j2 : L.length ≤ 64 := HLEN.out.2.1
        have HLT := Lib.hid hlt
        have HKX := Lib.hid hkx
        rw [Nat.add_zero] at c0
        clear hc hx hlt hkx
        obtain ⟨xa, xb, xc, xd⟩ := x
        obtain ⟨an, han⟩ : ∃ an : Nat, xa = (an : Int) := ⟨xa.toNat, by have := okB_amt HOK.out; simp only at this; omega⟩
        obtain ⟨bn, hbn⟩ : ∃ bn : Nat, xb = (bn : Int) := ⟨xb.toNat, by have := HRX.out.2.1.1; simp only [Ln.key] at this; omega⟩
        obtain ⟨cn, hcn⟩ : ∃ cn : Nat, xc = (cn : Int) := ⟨xc.toNat, by have := HRX.out.2.2.1; simp only [Ln.key] at this; omega⟩
        subst han hbn hcn
        have HNM2 : Hid (an < 18446744073709551616 ∧ bn < 18446744073709551616 ∧ cn < 18446744073709551616 ∧ -9223372036854775808 ≤ xd ∧ xd ≤ 9223372036854775807) := by
          have h1 := okB_amt HOK.out
          have h2 := HRX.out.2.1.2
          have h3 := HRX.out.2.2.2
          simp only [Ln.key] at h1 h2 h3
          show _ ∧ _
          omega
        have hwa : IntKind.u64.wrap (an : Int) = (an : Int) := IntWalk.u64_in _ (by have := HNM2.out; exact ⟨by omega, by omega⟩)
        have HLB : Hid (lnB ⟨(an : Int), (bn : Int), (cn : Int), xd⟩ = Ta.num an ++ Ta.num bn ++ Ta.num cn ++ Ta.num (Tal.zig xd)) := by show _ = _; unfold lnB; simp only [Int.toNat_natCast]
        simp only at c0 c1 c2 c3
        go_upto_region 8 with (fail)
        have hb1 : Below wr.heap.size wr (wr.alloc (.cells #[.int .i64 (an : Int), .int .u64 (bn : Int), .int .u64 (cn : Int), .int .i64 xd] TLine)) := (Below.refl _ _).alloc (Nat.le_refl _) _
        have HC1 : Hid (Below lo w (wr.alloc (.cells #[.int .i64 (an : Int), .int .u64 (bn : Int), .int .u64 (cn : Int), .int .i64 xd] TLine))) := HC.out.trans (hb1.mono (by rw [HLO.out]; exact HC.out.size))
        have RX1 : Hid (Rw (wr.alloc (.cells #[.int .i64 (an : Int), .int .u64 (bn : Int), .int .u64 (cn : Int), .int .i64 xd] TLine)) wr.heap.size TLine [.int .i64 (an : Int), .int .u64 (bn : Int), .int .u64 (cn : Int), .int .i64 xd]) := Rw.new wr [.int .i64 (an : Int), .int .u64 (bn : Int), .int .u64 (cn : Int), .int .i64 xd] TLine
        obtain ⟨bx, hbx⟩ : ∃ bx, bx = wr.heap.size := ⟨_, rfl⟩
        rw [← hbx] at RX1 ⊢
        generalize wr.alloc (.cells #[.int .i64 (an : Int), .int .u64 (bn : Int), .int .u64 (cn : Int), .int .i64 xd] TLine) = W4 at HC1 RX1 ⊢
        clear c0 c1 c2 c3 hb1 hbx HC
        have HSK : Hid (∀ u u', (bx < u.heap.size ∧ u.cell? ⟨bx, 0, none⟩ = some (.int .i64 (an : Int)) ∧ u.cell? ⟨bx, 1, none⟩ = some (.int .u64 (bn : Int)) ∧ u.cell? ⟨bx, 2, none⟩ = some (.int .u64 (cn : Int)) ∧ u.cell? ⟨bx, 3, none⟩ = some (.int .i64 xd)) → Below u.heap.size u u' → (bx < u'.heap.size ∧ u'.cell? ⟨bx, 0, none⟩ = some (.int .i64 (an : Int)) ∧ u'.cell? ⟨bx, 1, none⟩ = some (.int .u64 (bn : Int)) ∧ u'.cell? ⟨bx, 2, none⟩ = some (.int .u64 (cn : Int)) ∧ u'.cell? ⟨bx, 3, none⟩ = some (.int .i64 xd))) := by
          rintro u u' ⟨h0, h1, h2, h3, h4⟩ hb
          exact ⟨Nat.lt_of_lt_of_le h0 hb.size, by rw [hb.cell h0]; exact h1, by rw [hb.cell h0]; exact h2, by rw [hb.cell h0]; exact h3, by rw [hb.cell h0]; exact h4⟩
        have K1 := Lib.hid fun u => KN.out an u HNM2.out.1
        have K2 := Lib.hid fun u => KN.out bn u HNM2.out.2.1
        have K3 := Lib.hid fun u => KN.out cn u HNM2.out.2.2.1
        have K4 := Lib.hid fun u => KI.out xd u HNM2.out.2.2.2.1 HNM2.out.2.2.2.2
        obtain ⟨B, hB⟩ : ∃ B, B = HD ++ linesB (L.take i) := ⟨_, rfl⟩
        rw [← hB]
        have zB : (bs B).size ≤ 10000 := by
          have h1 := linesB_len (L := L.take i) (fun y hy => List.all_eq_true.1 HCK.out.2.1 y (List.mem_of_mem_take hy)) (fun y hy => HE.out.l y (List.mem_of_mem_take hy))
          have h2 := HHD.out
          have h3 := HLEN.out.2.1
          rw [List.length_take] at h1
          rw [bs_size, hB, List.length_append]
          omega
        have z1 := num_sz an HNM2.out.1
        have z2 := num_sz bn HNM2.out.2.1
        have z3 := num_sz cn HNM2.out.2.2.1
        have z4 := num_sz (Tal.zig xd) (Tal.zig_lt _ HNM2.out.2.2.2.1 HNM2.out.2.2.2.2)
        have HSTR : Hid (bs B ++ (bs (Ta.num an) ++ bs (Ta.num bn) ++ bs (Ta.num cn) ++ bs (Ta.num (Tal.zig xd))) = bs (HD ++ linesB (L.take (i + 1)))) := by
          show _ = _
          rw [bs_app, bs_app, bs_app, bs_app, HST.out, ← HLB.out, hB, List.append_assoc]
        clear hB
        have HS0 : Hid (w.heap.size ≤ W4.heap.size) := by exact (HC1).out.size
        refine wp_region_held_drew (S := (fun u => (bx < u.heap.size ∧ u.cell? ⟨bx, 0, none⟩ = some (.int .i64 (an : Int)) ∧ u.cell? ⟨bx, 1, none⟩ = some (.int .u64 (bn : Int)) ∧ u.cell? ⟨bx, 2, none⟩ = some (.int .u64 (cn : Int)) ∧ u.cell? ⟨bx, 3, none⟩ = some (.int .i64 xd)))) (by kernel_rfl) ?_ (fun hHeld => ?_)
        · exact ⟨RX1.out.lt, RX1.out.cell 0, RX1.out.cell 1, RX1.out.cell 2, RX1.out.cell 3⟩
        refine wpAnyH_take (i := 0) (oi := { dst := some 39, op := Op.move (Operand.tmp 5), type := 9, pos := "journal.go:157", after := #[], guard := none }) (v := (.string (bs B))) rfl (by kernel_rfl) (by kernel_rfl) (by kernel_rfl) (fun _ _ _ h => h) (Or.inl ⟨by rfl, ?_⟩) hHeld ?_
        · rintro u ⟨h0, p0, p1, p2, p3⟩
          go_simp <;> first | exact hwa | omega | rfl | kernel_rfl
        try simp only [Act.put, List.setIfInBounds_toArray, List.set_cons_zero, List.set_cons_succ]
        refine wpAnyH_take (i := 1) (oi := { dst := some 40, op := Op.fieldAddr 67 (Operand.tmp 7) 0, type := 0, pos := "journal.go:157", after := #[], guard := none }) (v := (.pointer (some ⟨bx, 0, none⟩))) rfl (by kernel_rfl) (by kernel_rfl) (by kernel_rfl) (fun _ _ _ h => h) (Or.inl ⟨by rfl, ?_⟩) hHeld ?_
        · rintro u ⟨h0, p0, p1, p2, p3⟩
          go_simp <;> first | exact hwa | omega | rfl | kernel_rfl
        try simp only [Act.put, List.setIfInBounds_toArray, List.set_cons_zero, List.set_cons_succ]
        refine wpAnyH_take (i := 2) (oi := { dst := some 41, op := Op.load 3 (Operand.tmp 40), type := 3, pos := "journal.go:157", after := #[{ on := 1, ground := Ground.data }], guard := none }) (v := (.int .i64 (an : Int))) rfl (by kernel_rfl) (by kernel_rfl) (by kernel_rfl) (fun _ _ _ h => h) (Or.inl ⟨by rfl, ?_⟩) hHeld ?_
        · rintro u ⟨h0, p0, p1, p2, p3⟩
          go_simp <;> first | exact hwa | omega | rfl | kernel_rfl
        try simp only [Act.put, List.setIfInBounds_toArray, List.set_cons_zero, List.set_cons_succ]
        refine wpAnyH_take (i := 3) (oi := { dst := some 42, op := Op.convert 3 22 (Operand.tmp 41), type := 22, pos := "journal.go:157", after := #[{ on := 2, ground := Ground.data }], guard := none }) (v := (.int .u64 (an : Int))) rfl (by kernel_rfl) (by kernel_rfl) (by kernel_rfl) (fun _ _ _ h => h) (Or.inl ⟨by rfl, ?_⟩) hHeld ?_
        · rintro u ⟨h0, p0, p1, p2, p3⟩
          go_simp <;> first | exact hwa | omega | rfl | kernel_rfl
        try simp only [Act.put, List.setIfInBounds_toArray, List.set_cons_zero, List.set_cons_succ]
        refine wpAnyH_take (i := 5) (oi := { dst := some 44, op := Op.fieldAddr 67 (Operand.tmp 7) 1, type := 0, pos := "journal.go:157", after := #[], guard := none }) (v := (.pointer (some ⟨bx, 1, none⟩))) rfl (by kernel_rfl) (by kernel_rfl) (by kernel_rfl) (fun _ _ _ h => h) (Or.inl ⟨by rfl, ?_⟩) hHeld ?_
        · rintro u ⟨h0, p0, p1, p2, p3⟩
          go_simp <;> first | exact hwa | omega | rfl | kernel_rfl
        try simp only [Act.put, List.setIfInBounds_toArray, List.set_cons_zero, List.set_cons_succ]
        refine wpAnyH_take (i := 6) (oi := { dst := some 45, op := Op.load 22 (Operand.tmp 44), type := 22, pos := "journal.go:157", after := #[{ on := 5, ground := Ground.data }], guard := none }) (v := (.int .u64 (bn : Int))) rfl (by kernel_rfl) (by kernel_rfl) (by kernel_rfl) (fun _ _ _ h => h) (Or.inl ⟨by rfl, ?_⟩) hHeld ?_
        · rintro u ⟨h0, p0, p1, p2, p3⟩
          go_simp <;> first | exact hwa | omega | rfl | kernel_rfl
        try simp only [Act.put, List.setIfInBounds_toArray, List.set_cons_zero, List.set_cons_succ]
        refine wpAnyH_take (i := 9) (oi := { dst := some 48, op := Op.fieldAddr 67 (Operand.tmp 7) 2, type := 0, pos := "journal.go:157", after := #[], guard := none }) (v := (.pointer (some ⟨bx, 2, none⟩))) rfl (by kernel_rfl) (by kernel_rfl) (by kernel_rfl) (fun _ _ _ h => h) (Or.inl ⟨by rfl, ?_⟩) hHeld ?_
        · rintro u ⟨h0, p0, p1, p2, p3⟩
          go_simp <;> first | exact hwa | omega | rfl | kernel_rfl
        try simp only [Act.put, List.setIfInBounds_toArray, List.set_cons_zero, List.set_cons_succ]
        refine wpAnyH_take (i := 10) (oi := { dst := some 49, op := Op.load 22 (Operand.tmp 48), type := 22, pos := "journal.go:157", after := #[{ on := 9, ground := Ground.data }], guard := none }) (v := (.int .u64 (cn : Int))) rfl (by kernel_rfl) (by kernel_rfl) (by kernel_rfl) (fun _ _ _ h => h) (Or.inl ⟨by rfl, ?_⟩) hHeld ?_
        · rintro u ⟨h0, p0, p1, p2, p3⟩
          go_simp <;> first | exact hwa | omega | rfl | kernel_rfl
        try simp only [Act.put, List.setIfInBounds_toArray, List.set_cons_zero, List.set_cons_succ]
        refine wpAnyH_take (i := 13) (oi := { dst := some 52, op := Op.fieldAddr 67 (Operand.tmp 7) 3, type := 0, pos := "journal.go:157", after := #[], guard := none }) (v := (.pointer (some ⟨bx, 3, none⟩))) rfl (by kernel_rfl) (by kernel_rfl) (by kernel_rfl) (fun _ _ _ h => h) (Or.inl ⟨by rfl, ?_⟩) hHeld ?_
        · rintro u ⟨h0, p0, p1, p2, p3⟩
          go_simp <;> first | exact hwa | omega | rfl | kernel_rfl
        try simp only [Act.put, List.setIfInBounds_toArray, List.set_cons_zero, List.set_cons_succ]
        refine wpAnyH_take (i := 14) (oi := { dst := some 53, op := Op.load 2 (Operand.tmp 52), type := 2, pos := "journal.go:157", after := #[{ on := 13, ground := Ground.data }], guard := none }) (v := (.int .i64 xd)) rfl (by kernel_rfl) (by kernel_rfl) (by kernel_rfl) (fun _ _ _ h => h) (Or.inl ⟨by rfl, ?_⟩) hHeld ?_
        · rintro u ⟨h0, p0, p1, p2, p3⟩
          go_simp <;> first | exact hwa | omega | rfl | kernel_rfl
        try simp only [Act.put, List.setIfInBounds_toArray, List.set_cons_zero, List.set_cons_succ]
        refine wpAnyH_ready (rs := [4]) (by kernel_rfl) (by simp) ?_
        refine AllReadyH.cons (o := { dst := some 43, op := Op.call { callee := Callee.value (Operand.func 62), args := #[Operand.tmp 42], argTypes := #[22] }, type := 9, pos := "journal.go:157", after := #[{ on := 3, ground := Ground.data }], guard := none }) rfl (fun Kq hKq => ?_) AllReadyH.nil
        go_simp
        refine (K1.out _).mono ?_
        rintro _ V1 ⟨rfl, hb1⟩
        have SZ2 : Hid (w.heap.size ≤ V1.heap.size) := Nat.le_trans HS0.out hb1.size
        go_simp
        refine hKq.out _ _ ((HSK.out _ _ hHeld hb1)) (fun hHeld4 => ?_)
        clear hKq Kq
        try simp only [Act.put, List.setIfInBounds_toArray, List.set_cons_zero, List.set_cons_succ]
        refine wpAnyH_ready (rs := [7]) (by kernel_rfl) (by simp) ?_
        refine AllReadyH.cons (o := { dst := some 46, op := Op.call { callee := Callee.value (Operand.func 62), args := #[Operand.tmp 45], argTypes := #[22] }, type := 9, pos := "journal.go:157", after := #[{ on := 6, ground := Ground.data }, { on := 4, ground := Ground.chain }], guard := none }) rfl (fun Kq hKq => ?_) AllReadyH.nil
        go_simp
        refine (K2.out _).mono ?_
        rintro _ V2 ⟨rfl, hb2⟩
        have SZ3 : Hid (w.heap.size ≤ V2.heap.size) := Nat.le_trans SZ2.out hb2.size
        go_simp
        refine hKq.out _ _ ((HSK.out _ _ hHeld4 hb2)) (fun hHeld7 => ?_)
        clear hKq Kq
        try simp only [Act.put, List.setIfInBounds_toArray, List.set_cons_zero, List.set_cons_succ]
        refine wpAnyH_take (i := 8) (oi := { dst := some 47, op := Op.binOp BinOp.add 9 (Operand.tmp 43) (Operand.tmp 46) 9, type := 9, pos := "journal.go:157", after := #[{ on := 4, ground := Ground.data }, { on := 7, ground := Ground.data }], guard := none }) (v := (.string (bs (Ta.num an) ++ bs (Ta.num bn)))) rfl (by kernel_rfl) (by kernel_rfl) (by kernel_rfl) (fun _ _ _ h => h) (Or.inl ⟨by rfl, ?_⟩) hHeld7 ?_
        · rintro u ⟨h0, p0, p1, p2, p3⟩
          go_simp <;> first | exact hwa | omega | rfl | kernel_rfl
        try simp only [Act.put, List.setIfInBounds_toArray, List.set_cons_zero, List.set_cons_succ]
        refine wpAnyH_ready (rs := [11]) (by kernel_rfl) (by simp) ?_
        refine AllReadyH.cons (o := { dst := some 50, op := Op.call { callee := Callee.value (Operand.func 62), args := #[Operand.tmp 49], argTypes := #[22] }, type := 9, pos := "journal.go:157", after := #[{ on := 10, ground := Ground.data }, { on := 7, ground := Ground.chain }], guard := none }) rfl (fun Kq hKq => ?_) AllReadyH.nil
        go_simp
        refine (K3.out _).mono ?_
        rintro _ V3 ⟨rfl, hb3⟩
        have SZ4 : Hid (w.heap.size ≤ V3.heap.size) := Nat.le_trans SZ3.out hb3.size
        go_simp
        refine hKq.out _ _ ((HSK.out _ _ hHeld7 hb3)) (fun hHeld11 => ?_)
        clear hKq Kq
        try simp only [Act.put, List.setIfInBounds_toArray, List.set_cons_zero, List.set_cons_succ]
        refine wpAnyH_take (i := 12) (oi := { dst := some 51, op := Op.binOp BinOp.add 9 (Operand.tmp 47) (Operand.tmp 50) 9, type := 9, pos := "journal.go:157", after := #[{ on := 8, ground := Ground.data }, { on := 11, ground := Ground.data }], guard := none }) (v := (.string (bs (Ta.num an) ++ bs (Ta.num bn) ++ bs (Ta.num cn)))) rfl (by kernel_rfl) (by kernel_rfl) (by kernel_rfl) (fun _ _ _ h => h) (Or.inl ⟨by rfl, ?_⟩) hHeld11 ?_
        · rintro u ⟨h0, p0, p1, p2, p3⟩
          go_simp <;> first | exact hwa | omega | rfl | kernel_rfl
        try simp only [Act.put, List.setIfInBounds_toArray, List.set_cons_zero, List.set_cons_succ]
        refine wpAnyH_ready (rs := [15]) (by kernel_rfl) (by simp) ?_
        refine AllReadyH.cons (o := { dst := some 54, op := Op.call { callee := Callee.value (Operand.func 63), args := #[Operand.tmp 53], argTypes := #[2] }, type := 9, pos := "journal.go:157", after := #[{ on := 14, ground := Ground.data }, { on := 11, ground := Ground.chain }], guard := none }) rfl (fun Kq hKq => ?_) AllReadyH.nil
        go_simp
        refine (K4.out _).mono ?_
        rintro _ V4 ⟨rfl, hb4⟩
        go_simp
        refine hKq.out _ _ ((HSK.out _ _ hHeld11 hb4)) (fun hHeld15 => ?_)
        clear hKq Kq
        try simp only [Act.put, List.setIfInBounds_toArray, List.set_cons_zero, List.set_cons_succ]
        refine wpAnyH_take (i := 16) (oi := { dst := some 55, op := Op.binOp BinOp.add 9 (Operand.tmp 51) (Operand.tmp 54) 9, type := 9, pos := "journal.go:157", after := #[{ on := 12, ground := Ground.data }, { on := 15, ground := Ground.data }], guard := none }) (v := (.string (bs (Ta.num an) ++ bs (Ta.num bn) ++ bs (Ta.num cn) ++ bs (Ta.num (Tal.zig xd))))) rfl (by kernel_rfl) (by kernel_rfl) (by kernel_rfl) (fun _ _ _ h => h) (Or.inl ⟨by rfl, ?_⟩) hHeld15 ?_
        · rintro u ⟨h0, p0, p1, p2, p3⟩
          go_simp <;> first | exact hwa | omega | rfl | kernel_rfl
        try simp only [Act.put, List.setIfInBounds_toArray, List.set_cons_zero, List.set_cons_succ]
        refine wpAnyH_take (i := 17) (oi := { dst := some 56, op := Op.binOp BinOp.add 9 (Operand.tmp 39) (Operand.tmp 55) 9, type := 9, pos := "journal.go:157", after := #[{ on := 0, ground := Ground.data }, { on := 16, ground := Ground.data }], guard := none }) (v := (.string (bs B ++ (bs (Ta.num an) ++ bs (Ta.num bn) ++ bs (Ta.num cn) ++ bs (Ta.num (Tal.zig xd)))))) rfl (by kernel_rfl) (by kernel_rfl) (by kernel_rfl) (fun _ _ _ h => h) (Or.inl ⟨by rfl, ?_⟩) hHeld15 ?_
        · rintro u ⟨h0, p0, p1, p2, p3⟩
          go_simp <;> first | exact hwa | omega | rfl | kernel_rfl
        try simp only [Act.put, List.setIfInBounds_toArray, List.set_cons_zero, List.set_cons_succ]
        refine wpAnyH_take (i := 18) (oi := { dst := some 5, op := Op.assign (Operand.tmp 56), type := 9, pos := "journal.go:157", after := #[{ on := 17, ground := Ground.data }, { on := 15, ground := Ground.chain }, { on := 0, ground := Ground.phase }, { on := 1, ground := Ground.phase }, { on := 2, ground := Ground.phase }, { on := 3, ground := Ground.phase }, { on := 4, ground := Ground.phase }, { on := 5, ground := Ground.phase }, { on := 6, ground := Ground.phase }, { on := 7, ground := Ground.phase }, { on := 8, ground := Ground.phase }, { on := 9, ground := Ground.phase }, { on := 10, ground := Ground.phase }, { on := 11, ground := Ground.phase }, { on := 12, ground := Ground.phase }, { on := 13, ground := Ground.phase }, { on := 14, ground := Ground.phase }, { on := 15, ground := Ground.phase }, { on := 16, ground := Ground.phase }, { on := 17, ground := Ground.phase }], guard := none }) (v := (.string (bs B ++ (bs (Ta.num an) ++ bs (Ta.num bn) ++ bs (Ta.num cn) ++ bs (Ta.num (Tal.zig xd)))))) rfl (by kernel_rfl) (by kernel_rfl) (by kernel_rfl) (fun _ _ _ h => h) (Or.inl ⟨by rfl, ?_⟩) hHeld15 ?_
        · rintro u ⟨h0, p0, p1, p2, p3⟩
          go_simp <;> first | exact hwa | omega | rfl | kernel_rfl
        try simp only [Act.put, List.setIfInBounds_toArray, List.set_cons_zero, List.set_cons_succ]
        have hHeldE := hHeld15
        refine wpAnyH_done (by kernel_rfl) ?_ _
        rw [HSTR.out]
        clear z1 z2 z3 z4 zB hwa K1 K2 K3 K4 HSTR HSK hHeldE
        have HC5 : Hid (Below lo w V4) := (((HC1.out.drew.trans (hb1.mono (by rw [HLO.out]; exact HC1.out.size))).trans (hb2.mono (by rw [HLO.out]; exact SZ2.out))).trans (hb3.mono (by rw [HLO.out]; exact SZ3.out))).trans (hb4.mono (by rw [HLO.out]; exact SZ4.out))
        clear hb1 hb2 hb3 hb4 SZ2 SZ3 SZ4
        go_wp2_with fail
        have hlt := HLT.out
        have hkx := HKX.out
        go_roundg (L.length - (i + 1))
        case measure => omega
        case rel => exact ⟨i + 1, by simp, rfl, by omega, HC5, by omega⟩
      · obtain rfl : i = L.length := by omega
        rw [List.take_length]
        clear hkx hlt hi9
        go_wp2_with fail
        refine bodyPost_ret (v := .tuple #[.string (bs (HD ++ linesB L)), .int .i64 0]) (by simp [results, Try.results25, go_sem]) rfl ?_
        exact ⟨by rw [← HLO.out]; exact HC.out, .inr ⟨HCH.out.symm, by rw [HEB.out]⟩⟩
  · have n1 : (ch == 0) = false := beq_eq_false_iff_ne.2 hc0
    have n2 : (ch != 0) = true := by simpa using hc0
    have HNE := Lib.hid hc0
    clear hc0
    go_wp2_with fail
    refine bodyPost_ret (v := .tuple #[.string ⟨#[]⟩, .int .i64 ch]) (by simp [results, Try.results25, go_sem]) rfl ?_
    exact ⟨by rw [← HLO.out]; exact HB3.out, .inl ⟨by rw [← HCH.out]; exact HNE.out, by rw [← HCH.out]⟩⟩
end
end Go.Proofs.Ytnblilonjpfdnaa.Jn
