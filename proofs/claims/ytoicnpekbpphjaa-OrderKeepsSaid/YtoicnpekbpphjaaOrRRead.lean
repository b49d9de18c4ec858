/- Package quittanceref12: read. -/
import Derived.Test.YtoicnpekbpphjaaOrRSize
import Derived.Test.YtoicnpekbpphjaaOrTakeF
namespace Go.Proofs.Ytoicnpekbpphjaa.Or
open Go.RowKit Cm
def ReadRes (c : UInt8) (L : List UInt8) (w : World) (e : Ending) (w' : World) : Prop :=
  ∃ f : Fd, e = .returned (.agg #[.int .u64 f.n, .int .i64 f.i, .string f.s]) ∧ f.ok ∧ f.s.size ≤ 5000 ∧ (∀ g, takeF c L = some (g, []) → f = g) ∧ Below w.heap.size w w'
theorem drop1 (F : ByteArray) : (F.extract 1 F.size).data.toList = F.data.toList.drop 1 := by rw [ext_drop]
theorem fd_two (w : World) (f : Fd) (t : TypeId) : FdAt ((w.alloc (.cells #[.int .u64 f.n, .int .i64 f.i, .string f.s] t)).alloc (.cells #[.int .u64 f.n, .int .i64 f.i, .string f.s] t)) w.heap.size f :=
  (fd_new w f t).later ((Below.refl _ _).alloc (Nat.le_refl _) _)
set_option maxRecDepth 100000 in
set_option maxHeartbeats 1600000 in
theorem read_n (c : UInt8) (F : ByteArray) (w : World) (hc : c.toNat = 110) (hF : 0 < F.size) (hF9 : F.size ≤ 9) : Calls Try.prog 32 #[.int .u8 (c.toNat : Int), .string F] w (ReadRes c F.data.toList w) := by
  have d1 : ((c.toNat : Int) == 110) = true := beq_iff_eq.2 (by omega)
  have p1 : (1 : Int) ≤ (F.size : Int) := by omega
  have hsz : (F.extract 1 F.size).size ≤ 8 := by rw [ByteArray.size_extract]; omega
  have KN := Lib.hid (fun w => number_c (F.extract 1 F.size) false w hsz)
  rw [drop1, fl_false] at KN
  have hne : F.data.toList ≠ [] := by intro h; have e : F.data.toList.length = F.size := by simp
                                      rw [h] at e; simp at e; omega
  have hv := val_lt 8 (F.data.toList.drop 1) (by rw [List.length_drop]; simp; omega)
  have HT := Lib.hid (show ∀ g, takeF c F.data.toList = some (g, []) → (⟨(valL (F.data.toList.drop 1) : Int), 0, ⟨#[]⟩⟩ : Fd) = g by
    intro g h
    unfold takeF at h
    rw [if_pos hc] at h
    cases ht : tnum 0 false F.data.toList with
    | none => rw [ht] at h; cases h
    | some x =>
      rw [ht] at h
      obtain ⟨rfl, hr⟩ := Prod.mk.inj (Option.some.inj h)
      have := (tnum_sound (by omega) ht hne).1
      rw [fl_false, hr, List.append_nil] at this
      have e : F.data.toList.drop 1 = shortL x.1 := by rw [this]; rfl
      rw [e, val_short])
  obtain ⟨v, hvv⟩ : ∃ v, valL (F.data.toList.drop 1) = v := ⟨_, rfl⟩
  rw [hvv] at HT KN hv
  have HV := Lib.hid hv
  clear hc hsz hne hvv hv
  go_enter Try.func32, Try.ntmps32
  go_wp2_with fail
  refine (KN.out _).mono ?_
  rintro e w1 ⟨rfl, rfl⟩
  go_wp2_with fail
  obtain ⟨e0, e1, e2, _⟩ := fd_two w (⟨(v : Int), 0, ⟨#[]⟩⟩) 47
  have hB := below2 w (.cells #[.int .u64 (⟨(v : Int), 0, ⟨#[]⟩⟩ : Fd).n, .int .i64 (⟨(v : Int), 0, ⟨#[]⟩⟩ : Fd).i, .string (⟨(v : Int), 0, ⟨#[]⟩⟩ : Fd).s] 47) (.cells #[.int .u64 (⟨(v : Int), 0, ⟨#[]⟩⟩ : Fd).n, .int .i64 (⟨(v : Int), 0, ⟨#[]⟩⟩ : Fd).i, .string (⟨(v : Int), 0, ⟨#[]⟩⟩ : Fd).s] 47)
  simp only at e0 e1 e2 hB
  generalize (w.alloc _).alloc _ = W5 at e0 e1 e2 hB ⊢
  refine bodyPost_ret (v := .agg #[.int .u64 (⟨(v : Int), 0, ⟨#[]⟩⟩ : Fd).n, .int .i64 (⟨(v : Int), 0, ⟨#[]⟩⟩ : Fd).i, .string (⟨(v : Int), 0, ⟨#[]⟩⟩ : Fd).s]) (by simp [results, Try.results32, go_sem, e0, e1, e2]) rfl ⟨⟨(v : Int), 0, ⟨#[]⟩⟩, rfl, ⟨by simp, by have := HV.out; simp; omega, by simp, by simp⟩, Nat.zero_le _, HT.out, hB⟩
set_option maxRecDepth 100000 in
set_option maxHeartbeats 1600000 in
theorem read_i (c : UInt8) (F : ByteArray) (w : World) (hc : c.toNat = 105) (hF : 0 < F.size) (hF9 : F.size ≤ 9) : Calls Try.prog 32 #[.int .u8 (c.toNat : Int), .string F] w (ReadRes c F.data.toList w) := by
  have d1 : ((c.toNat : Int) == 110) = false := beq_eq_false_iff_ne.2 (by omega)
  have d2 : ((c.toNat : Int) == 105) = true := beq_iff_eq.2 (by omega)
  have p1 : (1 : Int) ≤ (F.size : Int) := by omega
  have p2 : (0 : Int) < (F.size : Int) := by omega
  have hsz : (F.extract 1 F.size).size ≤ 8 := by rw [ByteArray.size_extract]; omega
  have hne : F.data.toList ≠ [] := by intro h; have e : F.data.toList.length = F.size := by simp
                                      rw [h] at e; simp at e; omega
  obtain ⟨hneg, -⟩ := negB_is F hF
  have key : ∀ g, takeF c F.data.toList = some (g, []) → ∃ n, n < 9223372036854775808 ∧ valL ((F.data.toList.drop 1).map (fl (negB F.data.toList))) = n ∧ g = ⟨0, if negB F.data.toList then -(n : Int) - 1 else (n : Int), ⟨#[]⟩⟩ := by
    intro g h
    unfold takeF at h
    rw [if_neg (by omega), if_pos hc] at h
    cases ht : takeI F.data.toList with
    | none => rw [ht] at h; cases h
    | some x =>
      rw [ht] at h
      obtain ⟨rfl, hr⟩ := Prod.mk.inj (Option.some.inj h)
      obtain ⟨n, hn, hn9, hx⟩ := takeI_num ht
      have := (tnum_sound (by omega) hn hne).1
      rw [hr, List.append_nil] at this
      refine ⟨n, hn9, ?_, by rw [hx]⟩
      have e : (F.data.toList.drop 1).map (fl (negB F.data.toList)) = shortL n := by
        obtain ⟨B, hB⟩ : ∃ B, negB F.data.toList = B := ⟨_, rfl⟩
        rw [hB] at this ⊢
        have h2 := congrArg (List.drop 1) this
        rw [h2]
        unfold numL
        rw [List.map_cons, List.drop_succ_cons, List.drop_zero, fl_map]
      rw [e, val_short]
  have hv := fun b => val_lt 8 ((F.data.toList.drop 1).map (fl b)) (by rw [List.length_map, List.length_drop]; simp; omega)
  cases hb : negB F.data.toList with
  | true =>
    rw [hb] at hneg key
    have hlo : F[0].toNat < 128 := of_decide_eq_true hneg.symm
    have KN := Lib.hid (fun w => number_c (F.extract 1 F.size) true w hsz)
    rw [drop1] at KN
    have hv := hv true
    obtain ⟨v, hvv⟩ : ∃ v, valL ((F.data.toList.drop 1).map (fl true)) = v := ⟨_, rfl⟩
    rw [hvv] at key KN hv
    obtain ⟨m, hm⟩ : ∃ m : Int, IntKind.i64.wrap (v : Int) = m := ⟨_, rfl⟩
    obtain ⟨m2, hm2⟩ : ∃ m2 : Int, IntKind.i64.wrap (-m) = m2 := ⟨_, rfl⟩
    obtain ⟨m3, hm3⟩ : ∃ m3 : Int, IntKind.i64.wrap (m2 - 1) = m3 := ⟨_, rfl⟩
    have HOK := Lib.hid (show -9223372036854775808 ≤ m3 ∧ m3 < 9223372036854775808 by rw [← hm3, IntKind.wrap_i64]; omega)
    have HT := Lib.hid (show ∀ g, takeF c F.data.toList = some (g, []) → (⟨0, m3, ⟨#[]⟩⟩ : Fd) = g by
      intro g h
      obtain ⟨n, hn9, rfl, rfl⟩ := key g h
      have e1 : m = (v : Int) := by rw [← hm, IntKind.wrap_i64]; omega
      have e2 : m2 = -(v : Int) := by rw [← hm2, e1, IntKind.wrap_i64]; omega
      have e3 : m3 = -(v : Int) - 1 := by rw [← hm3, e2, IntKind.wrap_i64]; omega
      simp [e3])
    obtain ⟨z, hz⟩ : ∃ z, F[0].toNat = z := ⟨_, rfl⟩
    rw [hz] at hlo
    have q1 : ¬ (128 : Int) ≤ (z : Int) := by omega
    clear hc hsz hne hvv hv key hneg hb hlo
    go_enter Try.func32, Try.ntmps32
    go_wp2_with fail
    refine (KN.out _).mono ?_
    rintro e w1 ⟨rfl, rfl⟩
    go_wp2_with fail
    obtain ⟨e0, e1, e2, _⟩ := fd_two w (⟨0, m3, ⟨#[]⟩⟩) 47
    have hB := below2 w (.cells #[.int .u64 (⟨0, m3, ⟨#[]⟩⟩ : Fd).n, .int .i64 (⟨0, m3, ⟨#[]⟩⟩ : Fd).i, .string (⟨0, m3, ⟨#[]⟩⟩ : Fd).s] 47) (.cells #[.int .u64 (⟨0, m3, ⟨#[]⟩⟩ : Fd).n, .int .i64 (⟨0, m3, ⟨#[]⟩⟩ : Fd).i, .string (⟨0, m3, ⟨#[]⟩⟩ : Fd).s] 47)
    simp only at e0 e1 e2 hB
    generalize (w.alloc _).alloc _ = W5 at e0 e1 e2 hB ⊢
    refine bodyPost_ret (v := .agg #[.int .u64 (⟨0, m3, ⟨#[]⟩⟩ : Fd).n, .int .i64 (⟨0, m3, ⟨#[]⟩⟩ : Fd).i, .string (⟨0, m3, ⟨#[]⟩⟩ : Fd).s]) (by simp [results, Try.results32, go_sem, e0, e1, e2]) rfl ⟨⟨0, m3, ⟨#[]⟩⟩, rfl, ⟨by simp, by simp, HOK.out.1, HOK.out.2⟩, Nat.zero_le _, HT.out, hB⟩
  | false =>
    rw [hb] at hneg key
    have hlo : ¬ F[0].toNat < 128 := of_decide_eq_false hneg.symm
    have KN := Lib.hid (fun w => number_c (F.extract 1 F.size) false w hsz)
    rw [drop1] at KN
    have hv := hv false
    obtain ⟨v, hvv⟩ : ∃ v, valL ((F.data.toList.drop 1).map (fl false)) = v := ⟨_, rfl⟩
    rw [hvv] at key KN hv
    obtain ⟨m, hm⟩ : ∃ m : Int, IntKind.i64.wrap (v : Int) = m := ⟨_, rfl⟩
    have HOK := Lib.hid (show -9223372036854775808 ≤ m ∧ m < 9223372036854775808 by rw [← hm, IntKind.wrap_i64]; omega)
    have HT := Lib.hid (show ∀ g, takeF c F.data.toList = some (g, []) → (⟨0, m, ⟨#[]⟩⟩ : Fd) = g by
      intro g h
      obtain ⟨n, hn9, rfl, rfl⟩ := key g h
      have e1 : m = (v : Int) := by rw [← hm, IntKind.wrap_i64]; omega
      simp [e1])
    obtain ⟨z, hz⟩ : ∃ z, F[0].toNat = z := ⟨_, rfl⟩
    rw [hz] at hlo
    have q1 : (128 : Int) ≤ (z : Int) := by omega
    clear hc hsz hne hvv hv key hneg hb hlo
    go_enter Try.func32, Try.ntmps32
    go_wp2_with fail
    refine (KN.out _).mono ?_
    rintro e w1 ⟨rfl, rfl⟩
    go_wp2_with fail
    obtain ⟨e0, e1, e2, _⟩ := fd_two w (⟨0, m, ⟨#[]⟩⟩) 47
    have hB := below2 w (.cells #[.int .u64 (⟨0, m, ⟨#[]⟩⟩ : Fd).n, .int .i64 (⟨0, m, ⟨#[]⟩⟩ : Fd).i, .string (⟨0, m, ⟨#[]⟩⟩ : Fd).s] 47) (.cells #[.int .u64 (⟨0, m, ⟨#[]⟩⟩ : Fd).n, .int .i64 (⟨0, m, ⟨#[]⟩⟩ : Fd).i, .string (⟨0, m, ⟨#[]⟩⟩ : Fd).s] 47)
    simp only at e0 e1 e2 hB
    generalize (w.alloc _).alloc _ = W5 at e0 e1 e2 hB ⊢
    refine bodyPost_ret (v := .agg #[.int .u64 (⟨0, m, ⟨#[]⟩⟩ : Fd).n, .int .i64 (⟨0, m, ⟨#[]⟩⟩ : Fd).i, .string (⟨0, m, ⟨#[]⟩⟩ : Fd).s]) (by simp [results, Try.results32, go_sem, e0, e1, e2]) rfl ⟨⟨0, m, ⟨#[]⟩⟩, rfl, ⟨by simp, by simp, HOK.out.1, HOK.out.2⟩, Nat.zero_le _, HT.out, hB⟩
end Go.Proofs.Ytoicnpekbpphjaa.Or
