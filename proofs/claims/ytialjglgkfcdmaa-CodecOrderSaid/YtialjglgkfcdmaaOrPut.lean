/- Package order: Put. -/
import Derived.Test.YtialjglgkfcdmaaOrNum2
import Derived.Test.YtialjglgkfcdmaaOrPFit
namespace Go.Proofs.Ytialjglgkfcdmaa.Or
open Go.RowKit Cm
theorem encAll_next : ∀ (K : List UInt8) (L : List Fd) (k : Nat) (hk : k < K.length) (hl : k < L.length), encAll K (L.take (k + 1)) = encAll K (L.take k) ++ enc K[k] L[k]
  | c :: K, f :: L, 0, _, _ => by simp [encAll]
  | c :: K, f :: L, k + 1, hk, hl => by
    simp only [List.take_succ_cons, List.getElem_cons_succ, encAll]
    rw [encAll_next K L k (by simpa using hk) (by simpa using hl), List.append_assoc]
theorem encAll_split : ∀ (K : List UInt8) (L : List Fd) (k : Nat), encAll K L = encAll K (L.take k) ++ encAll (K.drop k) (L.drop k)
  | [], L, k => by simp [encAll]
  | c :: K, [], k => by
    have h : ∀ J, encAll J [] = [] := fun J => by cases J <;> rfl
    simp [h]
  | c :: K, f :: L, 0 => by simp [encAll]
  | c :: K, f :: L, k + 1 => by
    simp only [List.take_succ_cons, List.drop_succ_cons, encAll]
    rw [encAll_split K L k, List.append_assoc]
/-- The key of fields, or an error. -/
def putF (K : List UInt8) (L : List Fd) : List UInt8 × Int :=
  if kindsB K then if fitB K L then if 1024 < (encAll K L).length then ([], 3) else (encAll K L, 0) else ([], 5) else ([], 2)
def PutRes (K : List UInt8) (L : List Fd) (w : World) (e : Ending) (w' : World) : Prop :=
  e = .returned (.tuple #[.string ⟨(putF K L).1.toArray⟩, .int .i64 (putF K L).2]) ∧ Below w.heap.size w w'
theorem put_kinds {K : List UInt8} {L : List Fd} (h : kindsB K = false) : putF K L = ([], 2) := by unfold putF; rw [h]; rfl
theorem put_unfit {K : List UInt8} {L : List Fd} (hk : kindsB K = true) (h : fitB K L = false) : putF K L = ([], 5) := by unfold putF; rw [hk, h]; rfl
theorem put_long {K : List UInt8} {L : List Fd} (hk : kindsB K = true) (h : fitB K L = true) (hl : 1024 < (encAll K L).length) : putF K L = ([], 3) := by unfold putF; rw [hk, h]; simp [hl]
theorem put_ok {K : List UInt8} {L : List Fd} (hk : kindsB K = true) (h : fitB K L = true) (hl : (encAll K L).length ≤ 1024) : putF K L = (encAll K L, 0) := by unfold putF; rw [hk, h]; simp [Nat.not_lt.2 hl]
theorem fit_len {K : List UInt8} {L : List Fd} (h : fitB K L = true) : kindsB K = true ∧ L.length ≤ K.length := by
  unfold fitB at h
  simp only [Bool.and_eq_true, decide_eq_true_eq] at h
  exact h.1
theorem fit_at {K : List UInt8} {L : List Fd} (h : fitB K L = true) (j : Nat) (hj : j < L.length) (hk : j < K.length) : fitsB K[j] L[j] = true := by
  unfold fitB at h
  simp only [Bool.and_eq_true, List.all_eq_true] at h
  have := h.2 j (List.mem_range.2 hj)
  simpa [hj, hk] using this
theorem kinds_at {K : List UInt8} (h : kindsB K = true) (j : Nat) (hk : j < K.length) : K[j].toNat = 110 ∨ K[j].toNat = 105 ∨ K[j].toNat = 115 := by
  unfold kindsB at h
  simp only [Bool.and_eq_true, List.all_eq_true] at h
  rcases okB_cases K[j] with ⟨_, h1⟩ | ⟨h1, _⟩
  · exact h1
  · rw [h.2 _ (List.getElem_mem hk)] at h1; cases h1
theorem enc_n {c : UInt8} {f : Fd} (h : c.toNat = 110) : enc c f = numL 0 f.n.toNat := by unfold enc; rw [if_pos h]
theorem encAll_nil (K : List UInt8) : encAll K [] = [] := by cases K <;> rfl
theorem addNumber_z (base : Nat) (v : Value) (bs : List UInt8) (z : Int) (w : World) (hbase : base ≤ w.heap.size) (hown : OwnB base w v bs) (h0 : 0 ≤ z) (h1 : z < 18446744073709551616) (hlen : bs.length ≤ 100000) :
    Calls Try.prog 67 #[v, .int .u8 0, .int .u64 z] w (AddRes base w (bs ++ numL 0 z.toNat)) := by
  obtain ⟨m, rfl⟩ : ∃ m : Nat, z = (m : Int) := ⟨z.toNat, by omega⟩
  exact addNumber_c base v bs 0 m w hbase hown (by omega) (by omega) hlen
theorem enc_i {c : UInt8} {f : Fd} (h : c.toNat = 105) : enc c f = if f.i < 0 then (numL 128 (-f.i - 1).toNat).map cpl else numL 128 f.i.toNat := by unfold enc; rw [if_neg (by omega), if_pos h]
theorem enc_s {c : UInt8} {f : Fd} (h : c.toNat = 115) : enc c f = escL f.s.data.toList ++ [0, 0] := by unfold enc; rw [if_neg (by omega), if_neg (by omega)]
/-- Fields as a statement may have them. -/
def Fine (L : List Fd) : Prop := ∀ f ∈ L, f.ok ∧ f.s.size ≤ 100000
set_option maxRecDepth 100000 in
set_option maxHeartbeats 3200000 in
theorem put_c (s : ByteArray) (w : World) (a : Option Addr) (cap : Nat) (L : List Fd) (hL : Fds w a L) (hf : Fine L) (hs : s.size ≤ 1000000) (hl : L.length ≤ 1000000) :
    Calls Try.prog 49 #[.string s, .slice a L.length cap] w (PutRes s.data.toList L w) := by
  have HL := Lib.hid hL
  have HFI := Lib.hid hf
  have KK := Lib.hid (fun w => kinds_c s w (by omega))
  have KT := Lib.hid (fun w h => pfit_c s w a cap L h hs hl)
  have hsz : s.data.toList.length = s.size := by simp
  have HSZ := Lib.hid hsz
  clear hL hsz hf
  cases hk : kindsB s.data.toList with
  | false =>
    have HR := Lib.hid (put_kinds (L := L) hk)
    rw [hk] at KK
    clear hk
    go_enter Try.func49, Try.ntmps49
    go_wp2_with fail
    refine (KK.out _).mono ?_
    rintro e w' ⟨rfl, rfl⟩
    go_wp2_with fail
    go_ret2
    exact ⟨by rw [HR.out]; rfl, Below.refl _ _⟩
  | true =>
    cases hft : fitB s.data.toList L with
    | false =>
      have HR := Lib.hid (put_unfit hk hft)
      rw [hk] at KK
      rw [hft] at KT
      clear hk hft
      go_enter Try.func49, Try.ntmps49
      go_wp2_with fail
      refine (KK.out _).mono ?_
      rintro e w' ⟨rfl, rfl⟩
      go_wp2_with fail
      refine (KT.out _ HL.out).mono ?_
      rintro e w1 ⟨rfl, b1⟩
      go_wp2_with fail
      go_ret2
      exact ⟨by rw [HR.out]; rfl, b1⟩
    | true =>
      have HK := Lib.hid hk
      have HT := Lib.hid hft
      have hLK := (fit_len hft).2
      rw [HSZ.out] at hLK
      rw [hk] at KK
      rw [hft] at KT
      clear hk hft
      go_enter Try.func49, Try.ntmps49
      go_wp2_with fail
      refine (KK.out _).mono ?_
      rintro e w' ⟨rfl, rfl⟩
      go_wp2_with fail
      refine (KT.out _ HL.out).mono ?_
      rintro e w1 ⟨rfl, b1⟩
      have HB1 := Lib.hid b1
      clear b1
      go_wp2_with fail
      go_loopw [6, 7, 8, 18] (fun v _ _ i wr => ∃ k : Nat, k ≤ L.length ∧ i = .int .i64 k ∧ OwnB w.heap.size wr v (encAll s.data.toList (L.take k)) ∧ (encAll s.data.toList (L.take k)).length ≤ 1024 ∧ Below w.heap.size w wr) (fun _ _ _ i _ => L.length - (intOf i).toNat)
      case atStart => exact ⟨0, by omega, rfl, by rw [List.take_zero, encAll_nil]; exact OwnB.nil _ _, by rw [List.take_zero, encAll_nil]; simp, HB1.out⟩
      case round =>
        obtain ⟨k, hk, rfl, hown, hlen, hB⟩ := hrel
        have HW := Lib.hid hown
        have HB := Lib.hid hB
        have HLE := Lib.hid hlen
        clear hown hB hlen
        by_cases hlt : k < L.length
        · obtain ⟨b, off, rfl, hbl, c0, c1, c2⟩ := HL.out.later HB.out k hlt
          have hks : k < s.size := by omega
          have hks2 : k < s.data.toList.length := by rw [HSZ.out]; exact hks
          have HBY := Lib.hid (byte_at s k hks)
          have hcs := kinds_at HK.out k hks2
          rw [HBY.out] at hcs
          have hnx := encAll_next s.data.toList L k hks2 hlt
          have hfine := HFI.out L[k] (List.getElem_mem hlt)
          rw [HBY.out] at hnx
          obtain ⟨f, hf⟩ : ∃ f, L[k] = f := ⟨_, rfl⟩
          rw [hf] at c0 c1 c2 hnx hfine
          obtain ⟨M, hM⟩ : ∃ M, encAll s.data.toList (L.take k) = M := ⟨_, rfl⟩
          rw [hM] at hnx HW HLE
          have HNX := Lib.hid hnx
          have HSP := Lib.hid (encAll_split s.data.toList L (k + 1))
          obtain ⟨hok, hsz9⟩ := hfine
          have HOK := Lib.hid hok
          have hml := HLE.out
          have hgl : w.heap.size ≤ wr.heap.size := HB.out.size
          have p0 : (0 : Int) ≤ (k : Int) := by omega
          have p1 : (k : Int) < (L.length : Int) := by omega
          have p2 : (k : Int) < (s.size : Int) := by omega
          obtain ⟨av, cv, hv⟩ := HW.out.shape
          subst hv
          clear hf hM hnx hok
          obtain ⟨c, hc⟩ : ∃ c, s[k] = c := ⟨_, rfl⟩
          have HC := Lib.hid hc
          rw [hc] at hcs HNX
          have hcc : s[k] = c := HC.out
          clear hc
          rcases hcs with hc | hc | hc
          · have HEN := Lib.hid (enc_n (f := f) hc)
            have KN := Lib.hid (fun w3 h1 h2 => addNumber_z w.heap.size (.slice av M.length cv) M f.n w3 h1 h2 HOK.out.n0 HOK.out.n1 (by omega))
            have d1 : ((c.toNat : Int) == 110) = true := beq_iff_eq.2 (by omega)
            clear hc
            go_wp2_with fail
            have hd := new_fd wr f
            have B2 := HB.out.alloc HB.out.size (.cells #[.int .u64 f.n, .int .i64 f.i, .string f.s] 59)
            have O2 := HW.out.later ((Below.refl _ wr).alloc (Nat.le_refl _) (.cells #[.int .u64 f.n, .int .i64 f.i, .string f.s] 59))
            generalize wr.alloc (.cells #[.int .u64 f.n, .int .i64 f.i, .string f.s] 59) = W2 at hd B2 O2 ⊢
            have HB2 := Lib.hid B2
            have HO2 := Lib.hid O2
            obtain ⟨e0, e1, e2⟩ := hd
            have hb2 : w.heap.size ≤ W2.heap.size := B2.size
            clear B2 O2 c0 c1 c2
            go_wp2_with fail
            refine (KN.out _ hb2 HO2.out).mono ?_
            rintro e w3 ⟨v3, rfl, h3, b3⟩
            have B3 := Lib.hid (HB2.out.trans b3)
            have H3 := Lib.hid h3
            obtain ⟨a3, c3, hv3⟩ := h3.shape
            subst hv3
            clear h3 b3 e0 e1 e2
            obtain ⟨X, hX⟩ : ∃ X, M ++ enc c f = X := ⟨_, rfl⟩
            have HX := Lib.hid (show encAll s.data.toList (L.take (k + 1)) = X by rw [HNX.out, hX])
            rw [← HEN.out, hX] at H3 ⊢
            clear hX
            by_cases hxl : X.length ≤ 1024
            · have q1 : (X.length : Int) ≤ 1024 := by omega
              go_wp2_with fail
              exact ⟨⟨k + 1, by omega, by simp, by rw [HX.out]; exact H3.out, by rw [HX.out]; exact hxl, B3.out⟩, by simp [intOf]; omega⟩
            · have q1 : ¬ (X.length : Int) ≤ 1024 := by omega
              have HR := Lib.hid (put_long HK.out HT.out (by rw [HSP.out, HX.out, List.length_append]; omega))
              go_wp2_with fail
              go_ret2
              exact ⟨by rw [HR.out]; rfl, B3.out⟩
          · have HEN := Lib.hid (enc_i (f := f) hc)
            have KN := Lib.hid (fun w3 h1 h2 => addInteger_c w.heap.size (.slice av M.length cv) M f.i w3 h1 h2 HOK.out.i0 HOK.out.i1 (by omega))
            have d1 : ((c.toNat : Int) == 110) = false := beq_eq_false_iff_ne.2 (by omega)
            have d2 : ((c.toNat : Int) == 105) = true := beq_iff_eq.2 (by omega)
            clear hc
            go_wp2_with fail
            have hd := new_fd wr f
            have B2 := HB.out.alloc HB.out.size (.cells #[.int .u64 f.n, .int .i64 f.i, .string f.s] 59)
            have O2 := HW.out.later ((Below.refl _ wr).alloc (Nat.le_refl _) (.cells #[.int .u64 f.n, .int .i64 f.i, .string f.s] 59))
            generalize wr.alloc (.cells #[.int .u64 f.n, .int .i64 f.i, .string f.s] 59) = W2 at hd B2 O2 ⊢
            have HB2 := Lib.hid B2
            have HO2 := Lib.hid O2
            obtain ⟨e0, e1, e2⟩ := hd
            have hb2 : w.heap.size ≤ W2.heap.size := B2.size
            clear B2 O2 c0 c1 c2
            go_wp2_with fail
            refine (KN.out _ hb2 HO2.out).mono ?_
            rintro e w3 ⟨v3, rfl, h3, b3⟩
            have B3 := Lib.hid (HB2.out.trans b3)
            have H3 := Lib.hid h3
            obtain ⟨a3, c3, hv3⟩ := h3.shape
            subst hv3
            clear h3 b3 e0 e1 e2
            obtain ⟨X, hX⟩ : ∃ X, M ++ enc c f = X := ⟨_, rfl⟩
            have HX := Lib.hid (show encAll s.data.toList (L.take (k + 1)) = X by rw [HNX.out, hX])
            rw [← HEN.out, hX] at H3 ⊢
            clear hX
            by_cases hxl : X.length ≤ 1024
            · have q1 : (X.length : Int) ≤ 1024 := by omega
              go_wp2_with fail
              exact ⟨⟨k + 1, by omega, by simp, by rw [HX.out]; exact H3.out, by rw [HX.out]; exact hxl, B3.out⟩, by simp [intOf]; omega⟩
            · have q1 : ¬ (X.length : Int) ≤ 1024 := by omega
              have HR := Lib.hid (put_long HK.out HT.out (by rw [HSP.out, HX.out, List.length_append]; omega))
              go_wp2_with fail
              go_ret2
              exact ⟨by rw [HR.out]; rfl, B3.out⟩
          · have HEN := Lib.hid (enc_s (f := f) hc)
            have KN := Lib.hid (fun w3 h1 h2 => addString_c w.heap.size (.slice av M.length cv) M f.s w3 h1 h2 hsz9 (by omega))
            have d1 : ((c.toNat : Int) == 110) = false := beq_eq_false_iff_ne.2 (by omega)
            have d2 : ((c.toNat : Int) == 105) = false := beq_eq_false_iff_ne.2 (by omega)
            have d3 : ((c.toNat : Int) == 115) = true := beq_iff_eq.2 (by omega)
            clear hc
            go_wp2_with fail
            have hd := new_fd wr f
            have B2 := HB.out.alloc HB.out.size (.cells #[.int .u64 f.n, .int .i64 f.i, .string f.s] 59)
            have O2 := HW.out.later ((Below.refl _ wr).alloc (Nat.le_refl _) (.cells #[.int .u64 f.n, .int .i64 f.i, .string f.s] 59))
            generalize wr.alloc (.cells #[.int .u64 f.n, .int .i64 f.i, .string f.s] 59) = W2 at hd B2 O2 ⊢
            have HB2 := Lib.hid B2
            have HO2 := Lib.hid O2
            obtain ⟨e0, e1, e2⟩ := hd
            have hb2 : w.heap.size ≤ W2.heap.size := B2.size
            clear B2 O2 c0 c1 c2
            go_wp2_with fail
            refine (KN.out _ hb2 HO2.out).mono ?_
            rintro e w3 ⟨v3, rfl, h3, b3⟩
            have B3 := Lib.hid (HB2.out.trans b3)
            have H3 := Lib.hid h3
            obtain ⟨a3, c3, hv3⟩ := h3.shape
            subst hv3
            clear h3 b3 e0 e1 e2
            obtain ⟨X, hX⟩ : ∃ X, M ++ enc c f = X := ⟨_, rfl⟩
            have HX := Lib.hid (show encAll s.data.toList (L.take (k + 1)) = X by rw [HNX.out, hX])
            rw [← HEN.out, hX] at H3 ⊢
            clear hX
            by_cases hxl : X.length ≤ 1024
            · have q1 : (X.length : Int) ≤ 1024 := by omega
              go_wp2_with fail
              exact ⟨⟨k + 1, by omega, by simp, by rw [HX.out]; exact H3.out, by rw [HX.out]; exact hxl, B3.out⟩, by simp [intOf]; omega⟩
            · have q1 : ¬ (X.length : Int) ≤ 1024 := by omega
              have HR := Lib.hid (put_long HK.out HT.out (by rw [HSP.out, HX.out, List.length_append]; omega))
              go_wp2_with fail
              go_ret2
              exact ⟨by rw [HR.out]; rfl, B3.out⟩
        · obtain rfl : k = L.length := by omega
          have HT2 := Lib.hid (show L.take L.length = L from List.take_length)
          rw [HT2.out] at HW HLE
          have HR := Lib.hid (put_ok HK.out HT.out HLE.out)
          have hstr := HW.out.str
          go_wp2_with fail
          go_ret2
          exact ⟨by rw [HR.out]; rfl, HB.out⟩
end Go.Proofs.Ytialjglgkfcdmaa.Or
