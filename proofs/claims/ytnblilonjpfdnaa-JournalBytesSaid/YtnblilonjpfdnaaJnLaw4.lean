/- The statement of journal on order. -/
import Derived.Test.YtnblilonjpfdnaaJnOf
import Derived.Test.YtnblilonjpfdnaaJnRPut
namespace Go.Proofs.Ytnblilonjpfdnaa.Jn
open Go Go.RowKit Ck
theorem step_app4 {P : Program} {ops : Array Oper} {o : Oper} {a : Act} {w w' : World} {Kq : Act → World → Prop} {Q : Exit → Act → World → Prop} {E : Prop} (hg : o.guard = none) (s x : Operand) (t : TypeId)
    (ho : o.op = .call { callee := .builtin .append, args := #[s, x], argTypes := #[t, t] }) (v : Value) (A : Option Addr) (m c : Nat) (v' : Value) (hs : a.eval s = v) (hx : a.eval x = .slice A m c)
    (hr : (Builtin.append_ #[t, t] o.type #[v, .slice A m c]).run P w = .ok v' w') (h : Kq (a.put o.dst v') w') : if Region.wanted o (yielded ops a.tmps) = true then o.wp P a w Kq Q else E := by
  simp only [Region.wanted, hg, if_true]
  unfold Oper.wp execOp
  simp only [ho, resolve, invoke, builtin, Sem.run_bind, Sem.run_pure, Result.andThen_ok, List.map_toArray, List.map_cons, List.map_nil, hs, hx, hr]
  exact h
theorem fits_fit {n : Int} (h : fitB n = true) : Ar.ok n = true ∧ Ar.val n = n := by
  refine fits_yes ?_
  unfold fitB at h
  simp at h
  unfold Ar.Fits
  omega
theorem tok_fit {L : List Ln} (h : tokB L = true) : ∀ x ∈ L, fitB (ksum L x.key) = true := by
  unfold tokB at h
  rw [Bool.and_eq_true] at h
  exact fun x hx => List.all_eq_true.1 h.2 x hx
theorem tidied_in {L T : List Ln} (h : Tidied L T) (hr : ∀ x ∈ L, InR x.key) : ∀ y ∈ T, InR y.key := fun y hy => by
  obtain ⟨g1, g2⟩ := (h.mem y).1 hy
  obtain ⟨x, hx, e⟩ := ksum_has (g2 ▸ g1)
  rw [← e]; exact hr x hx
theorem tidied_fit {L T : List Ln} (h : Tidied L T) (ht : tokB L = true) : ∀ y ∈ T, I64 y.amt := fun y hy => by
  have h1 := h.tok ht
  unfold tokB at h1
  rw [Bool.and_eq_true] at h1
  have := okB_amt (List.all_eq_true.1 h1.1 y hy)
  unfold I64
  omega
/-- The sum of a line's likes, on both sides. -/
def OfRes (n : Int) (w : World) (e : Ending) (w' : World) : Prop := e = .returned (.tuple #[.int .i64 n, .bool true]) ∧ Below w.heap.size w w'
theorem turned_take {L : List Ln} (k : Nat) : flatL (L.drop k) ++ flatL (L.take k) = flatL (L.drop k ++ L.take k) := (flatL_app _ _).symm
theorem take_flat {L : List Ln} {k : Nat} (hk : k ≤ L.length) : flatL (L.take k) = (flatL L).take (k * 4) := by
  have e : flatL L = flatL (L.take k) ++ flatL (L.drop k) := by rw [← flatL_app, List.take_append_drop]
  rw [e, List.take_left']
  rw [flatL_len, List.length_take, Nat.min_eq_left hk]
theorem drop_flat {L : List Ln} {k : Nat} (hk : k ≤ L.length) : flatL (L.drop k) = (flatL L).drop (k * 4) := by
  have e : flatL L = flatL (L.take k) ++ flatL (L.drop k) := by rw [← flatL_app, List.take_append_drop]
  rw [e, List.drop_left']
  rw [flatL_len, List.length_take, Nat.min_eq_left hk]
section
set_option maxRecDepth 100000
set_option maxHeartbeats 6400000
theorem order_law (L : List Ln) (a : Option Addr) (cap : Nat) (turn : Int) (w : World) (h : LnC w cap a L) (hf : ∀ x ∈ L, x.Fits) (hl : L.length ≤ maxLen) (ht : I64 turn) : Calls Try.prog 7 #[.slice a L.length cap, .int .i64 turn] w fun e w' => e = .returned (.bool true) ∧ Below w.heap.size w w' := by
  have KH := Lib.hid head_c
  by_cases hbig : 60 < (L.length : Int)
  · have hl9 : (L.length : Int) ≤ 9223372036854775807 := by unfold maxLen at hl; omega
    clear h hf
    go_enter Try.func7, Try.ntmps7
    go_wp2_with fail
    refine (KH.out _).mono ?_
    rintro _ w1 ⟨rfl, hb1⟩
    go_wp2_with fail
    go_ret
    exact ⟨rfl, hb1⟩
  have H := Lib.hid h
  have HR : Hid (∀ x ∈ L, InR x.key) := fun x hx => (hf x hx).1
  have HI : Hid (∀ x ∈ L, I64 x.amt) := fun x hx => (hf x hx).2
  have hsm : (L.length : Int) ≤ 60 := by omega
  have HSM : Hid (L.length ≤ 60) := by show _ ≤ _; omega
  have HTN := Lib.hid ht
  clear h hf hbig hl ht
  have KT := Lib.hid (tidy_c L a cap w H.out.1 HR.out (by have := HSM.out; omega))
  go_enter Try.func7, Try.ntmps7
  go_wp2_with fail
  refine KT.out.mono ?_
  rintro _ W1 ⟨hb1, hr1⟩
  have HB1 := Lib.hid hb1
  clear KT hb1
  rcases hr1 with ⟨htok, T, v, hT, he, hown, hTL⟩ | ⟨_, he⟩
  · subst he
    obtain ⟨ta, tc, hv, hlt1, _⟩ := lns_own hown
    subst hv
    have HT1 := Lib.hid hlt1
    have HTD := Lib.hid hT
    have HTK := Lib.hid htok
    have HTL := Lib.hid hTL
    clear hlt1 hown hT htok hTL
    by_cases h0 : (L.length : Int) = 0
    · have hT0 : T.length = 0 := by have := HTL.out; omega
      rw [hT0]
      clear hsm
      go_wp2_with fail
      refine (KH.out _).mono ?_
      rintro _ w9 ⟨rfl, hb9⟩
      have HB9 : Hid (Below w.heap.size w w9) := HB1.out.trans (hb9.mono HB1.out.size)
      clear hb9
      go_wp2_with fail
      go_ret
      exact ⟨rfl, HB9.out⟩
    have hn0 : ((L.length : Int) == 0) = false := beq_eq_false_iff_ne.2 h0
    have HPOS : Hid (0 < L.length) := by show _ < _; omega
    obtain ⟨ab, ao, ha⟩ : ∃ ab ao, a = some ⟨ab, ao, none⟩ := by
      obtain ⟨b, o, h1, _⟩ := H.out.1 0 HPOS.out
      exact ⟨b, o, h1⟩
    subst ha
    obtain ⟨q, hq⟩ : ∃ q, q = turn.tmod (L.length : Int) := ⟨_, rfl⟩
    have hq1 : q < (L.length : Int) := by rw [hq]; exact Int.tmod_lt_of_pos _ (by have := HPOS.out; omega)
    have hq2 : -(L.length : Int) < q := by
      have := Int.tmod_lt_of_pos (-turn) (show 0 < (L.length : Int) by have := HPOS.out; omega)
      rw [Int.neg_tmod] at this
      omega
    have HQ1 := Lib.hid hq1
    have HQ2 := Lib.hid hq2
    have HQ := Lib.hid hq
    have hne : (L.length : Int) ≠ -1 := by omega
    have htb := HTN.out
    unfold I64 at htb
    have hnn : ¬ L.length = 0 := by have := HPOS.out; omega
    have hn1 : (L.length == 0) = false := beq_eq_false_iff_ne.2 hnn
    have hn2 : decide (L.length = 0) = false := decide_eq_false hnn
    have hn3 : ¬ (L.length : Int) = 0 := h0
    have hcap : L.length ≤ cap := H.out.2.2
    have HCP := Lib.hid hcap
    clear hq1 hq2 hq h0 hcap
    go_upto_region 9 with (fail)
    rw [← HQ.out]
    clear hne htb hn0 hsm hnn hn1 hn2 hn3
    by_cases hneg : q < 0
    · have hq2 := HQ2.out
      have hs9 : L.length ≤ 60 := HSM.out
      go_upto_region 11 with (fail)
      obtain ⟨kn, hkn⟩ : ∃ kn : Nat, q + (L.length : Int) = (kn : Int) := ⟨(q + (L.length : Int)).toNat, by omega⟩
      have HKN : Hid (kn < L.length) := by show _ < _; omega
      rw [hkn]
      clear hkn hneg hq2 hs9
      have HNA : Hid (∀ u, Below W1.heap.size W1 u → ∀ j v, (flatL L)[j]? = some v → u.cell? ((⟨ab, ao, none⟩ : Addr).add j) = some v) := fun u hu => lns_news (H.out.1.later (HB1.out.trans (hu.mono HB1.out.size)))
      obtain ⟨i4, z4, hk0, hk1, hk2, hk3, hk4⟩ := info_ln
      have HFD : Hid ((flatL (L.drop kn)).length = (L.length - kn) * 4) := by show _ = _; rw [flatL_len, List.length_drop]
      have HFT : Hid ((flatL (L.take kn)).length = kn * 4) := by show _ = _; rw [flatL_len, List.length_take, Nat.min_eq_left (Nat.le_of_lt HKN.out)]
      have HLD : Hid (∀ u, Below W1.heap.size W1 u → ∀ j v, (flatL (L.drop kn))[j]? = some v → u.cell? ((⟨ab, ao + kn * 4, none⟩ : Addr).add j) = some v) := fun u hu j v hv => by
        rw [drop_flat (Nat.le_of_lt HKN.out), List.getElem?_drop] at hv
        have := HNA.out u hu _ v hv
        rw [Addr.add_lit] at this ⊢
        rw [show ao + kn * 4 + j = ao + (kn * 4 + j) by omega]; exact this
      have HLT : Hid (∀ u, Below W1.heap.size W1 u → ∀ j v, (flatL (L.take kn))[j]? = some v → u.cell? ((⟨ab, ao, none⟩ : Addr).add j) = some v) := fun u hu j v hv => by
        have hj : j < kn * 4 := by rw [← HFT.out]; exact (List.getElem?_eq_some_iff.1 hv).1
        rw [take_flat (Nat.le_of_lt HKN.out), List.getElem?_take_of_lt hj] at hv
        exact HNA.out u hu j v hv
      obtain ⟨B, hB⟩ : ∃ B, B = L.drop kn ++ L.take kn := ⟨_, rfl⟩
      have HBL : Hid (B.length = L.length - kn + kn) := by show _ = _; rw [hB, List.length_append, List.length_drop, List.length_take, Nat.min_eq_left (Nat.le_of_lt HKN.out)]
      have HBF : Hid (flatL (L.drop kn) ++ flatL (L.take kn) = flatL B) := by show _ = _; rw [hB]; exact turned_take kn
      have HBT : Hid (tokB B = true) := by
        show _ = _
        rw [hB]
        exact tok_comm (by rw [List.take_append_drop]; exact HTK.out)
      have HBS : Hid (Tidied B T) := HTD.out.congr fun q => by rw [hB, ksum_comm, List.take_append_drop]
      have HBI : Hid (∀ x ∈ B, InR x.key) := fun x hx => HR.out x (by
        rw [hB, List.mem_append] at hx
        exact hx.elim (fun h => List.mem_of_mem_drop h) (fun h => List.mem_of_mem_take h))
      have KTD : Hid (∀ u ya yc, Lns u ya B → Calls Try.prog 22 #[.slice ya (L.length - kn + kn) yc] u fun e w' => ∃ sa sc, e = .returned (.tuple #[.slice sa T.length sc, .int .i64 0]) ∧ Lns w' sa T ∧ Below u.heap.size u w') := fun u ya yc hy => by
        have h1 := tidy_c B ya yc u hy HBI.out (by rw [HBL.out]; have := HSM.out; have := HKN.out; omega)
        rw [HBL.out] at h1
        refine h1.mono ?_
        rintro e w' ⟨hb, ⟨_, T', v, hT', h2, h3, _⟩ | ⟨h0, _⟩⟩
        · obtain rfl := HBS.out.uniq hT'
          obtain ⟨sa, sc, rfl, h4, _⟩ := lns_own h3
          exact ⟨sa, sc, h2, h4, hb⟩
        · rw [HBT.out] at h0; cases h0
      clear hB HBT HBS HBI
      have q1 : (0 : Int) ≤ (kn : Int) := by omega
      have q2 : (kn : Int) ≤ (L.length : Int) := by have := HKN.out; omega
      have q3 : (L.length : Int) ≤ (cap : Int) := by have := HCP.out; omega
      have q4 : (kn : Int) ≤ (cap : Int) := by omega
      have q5 : (cap - kn == 0) = false := by have := HCP.out; have := HKN.out; simp; omega
      refine wp_region_held_drew (S := (fun u => Below W1.heap.size W1 u)) (by kernel_rfl) ?_ (fun hHeld => ?_)
      · exact (Below.refl _ W1).drew
      refine wpAnyH_take (i := 1) (oi := { dst := some 56, op := Op.move (Operand.tmp 0), type := 23, pos := "law.go:139", after := #[], guard := none }) (v := (.slice (some ⟨ab, ao, none⟩) L.length cap)) rfl (by kernel_rfl) (by kernel_rfl) (by kernel_rfl) (fun _ _ _ h => h) (Or.inl ⟨by rfl, ?_⟩) hHeld ?_
      · rintro u _
        go_simp <;> first | rfl | kernel_rfl
      try simp only [Act.put, List.setIfInBounds_toArray, List.set_cons_zero, List.set_cons_succ]
      refine wpAnyH_take (i := 2) (oi := { dst := some 57, op := Op.move (Operand.tmp 7), type := 3, pos := "law.go:139", after := #[], guard := none }) (v := (.int .i64 (kn : Int))) rfl (by kernel_rfl) (by kernel_rfl) (by kernel_rfl) (fun _ _ _ h => h) (Or.inl ⟨by rfl, ?_⟩) hHeld ?_
      · rintro u _
        go_simp <;> first | rfl | kernel_rfl
      try simp only [Act.put, List.setIfInBounds_toArray, List.set_cons_zero, List.set_cons_succ]
      refine wpAnyH_take (i := 3) (oi := { dst := some 58, op := Op.slice 23 (Operand.tmp 56) (some (Operand.tmp 57)) none none, type := 23, pos := "law.go:139", after := #[{ on := 1, ground := Ground.data }, { on := 2, ground := Ground.data }], guard := none }) (v := (.slice (some ⟨ab, ao + kn * 4, none⟩) (L.length - kn) (cap - kn))) rfl (by kernel_rfl) (by kernel_rfl) (by kernel_rfl) (fun _ _ _ h => h) (Or.inl ⟨by rfl, ?_⟩) hHeld ?_
      · rintro u _
        go_simp <;> first | rfl | (intro e; have h1 := HCP.out; have h2 := HKN.out; omega) | kernel_rfl
      try simp only [Act.put, List.setIfInBounds_toArray, List.set_cons_zero, List.set_cons_succ]
      refine wpAnyH_take (i := 5) (oi := { dst := some 60, op := Op.move (Operand.tmp 0), type := 23, pos := "law.go:139", after := #[], guard := none }) (v := (.slice (some ⟨ab, ao, none⟩) L.length cap)) rfl (by kernel_rfl) (by kernel_rfl) (by kernel_rfl) (fun _ _ _ h => h) (Or.inl ⟨by rfl, ?_⟩) hHeld ?_
      · rintro u _
        go_simp <;> first | rfl | kernel_rfl
      try simp only [Act.put, List.setIfInBounds_toArray, List.set_cons_zero, List.set_cons_succ]
      refine wpAnyH_take (i := 6) (oi := { dst := some 61, op := Op.move (Operand.tmp 7), type := 3, pos := "law.go:139", after := #[], guard := none }) (v := (.int .i64 (kn : Int))) rfl (by kernel_rfl) (by kernel_rfl) (by kernel_rfl) (fun _ _ _ h => h) (Or.inl ⟨by rfl, ?_⟩) hHeld ?_
      · rintro u _
        go_simp <;> first | rfl | kernel_rfl
      try simp only [Act.put, List.setIfInBounds_toArray, List.set_cons_zero, List.set_cons_succ]
      refine wpAnyH_take (i := 7) (oi := { dst := some 62, op := Op.slice 23 (Operand.tmp 60) none (some (Operand.tmp 61)) none, type := 23, pos := "law.go:139", after := #[{ on := 5, ground := Ground.data }, { on := 6, ground := Ground.data }], guard := none }) (v := (.slice (some ⟨ab, ao, none⟩) kn cap)) rfl (by kernel_rfl) (by kernel_rfl) (by kernel_rfl) (fun _ _ _ h => h) (Or.inl ⟨by rfl, ?_⟩) hHeld ?_
      · rintro u _
        go_simp <;> first | rfl | (intro e; have h1 := HCP.out; have h2 := HKN.out; omega) | kernel_rfl
      try simp only [Act.put, List.setIfInBounds_toArray, List.set_cons_zero, List.set_cons_succ]
      refine wpAnyH_ready (rs := [0]) (by kernel_rfl) (by simp) ?_
      refine AllReadyH.cons (o := { dst := some 55, op := Op.buildSlice 23 0 #[], type := 23, pos := "law.go:139", after := #[], guard := none }) rfl (fun Kq hKq => ?_) AllReadyH.nil
      go_simp
      have O1 : Hid (((W1.alloc (.cells #[] TLine)).drew).ownsRow W1.heap.size TLine 4 (.slice (some ⟨W1.heap.size, 0, none⟩) 0 0) 0 []) := Ch.own_zero W1 TLine W1.heap.size 4 (Nat.le_refl _)
      have B1 : Hid (Below W1.heap.size W1 ((W1.alloc (.cells #[] TLine)).drew)) := ((Below.refl _ W1).alloc (Nat.le_refl _) _).drew
      refine hKq.out _ _ (B1.out) (fun hHeld0 => ?_)
      clear hKq Kq
      try simp only [Act.put, List.setIfInBounds_toArray, List.set_cons_zero, List.set_cons_succ]
      generalize (W1.alloc (.cells #[] TLine)).drew = V1 at O1 B1 hHeld0 ⊢
      refine wpAnyH_ready (rs := [4]) (by kernel_rfl) (by simp) ?_
      refine AllReadyH.cons (o := { dst := some 59, op := Op.call { callee := Callee.builtin Builtin.append, args := #[Operand.tmp 55, Operand.tmp 58], argTypes := #[23, 23] }, type := 23, pos := "law.go:139", after := #[{ on := 0, ground := Ground.data }, { on := 3, ground := Ground.data }], guard := none }) rfl (fun Kq hKq => ?_) AllReadyH.nil
      obtain ⟨y2, V2, hrun, hown, hgrow, _, _⟩ := run_append_own_at (P := Try.prog) (w := V1) W1.heap.size TLines TLines TLine i4 z4 4 32 Try.underlying23 hk0 hk1 hk2 hk3 hk4 (by decide) _ 0 ([]) O1.out ⟨ab, ao + kn * 4, none⟩ (L.length - kn) (cap - kn) (flatL (L.drop kn)) HFD.out (HLD.out _ B1.out) (flatL_one _) (by have := HSM.out; have := HKN.out; unfold maxLen; omega) (by have := HSM.out; have := HKN.out; omega) B1.out.size
      refine step_app4 rfl _ _ TLines rfl (.slice (some ⟨W1.heap.size, 0, none⟩) 0 0) (some ⟨ab, ao + kn * 4, none⟩) (L.length - kn) (cap - kn) y2 (by rfl) (by rfl) hrun ?_
      have B2 : Hid (Below W1.heap.size W1 V2) := B1.out.grown hgrow B1.out.size (fun j hj => (O1.out.lt j hj).1)
      have O2 := Lib.hid hown
      refine hKq.out _ _ B2.out (fun hHeld4 => ?_)
      clear hKq Kq hrun hown hgrow
      try simp only [Act.put, List.setIfInBounds_toArray, List.set_cons_zero, List.set_cons_succ]
      rw [Nat.zero_add, List.nil_append] at O2
      obtain ⟨ya, yc, hy2⟩ := own_any O2.out
      subst hy2
      refine wpAnyH_ready (rs := [8]) (by kernel_rfl) (by simp) ?_
      refine AllReadyH.cons (o := { dst := some 63, op := Op.call { callee := Callee.builtin Builtin.append, args := #[Operand.tmp 59, Operand.tmp 62], argTypes := #[23, 23] }, type := 23, pos := "law.go:139", after := #[{ on := 4, ground := Ground.data }, { on := 7, ground := Ground.data }, { on := 4, ground := Ground.chain }], guard := none }) rfl (fun Kq hKq => ?_) AllReadyH.nil
      obtain ⟨y3, V3, hrun, hown, hgrow, _, _⟩ := run_append_own_at (P := Try.prog) (w := V2) W1.heap.size TLines TLines TLine i4 z4 4 32 Try.underlying23 hk0 hk1 hk2 hk3 hk4 (by decide) _ (L.length - kn) (flatL (L.drop kn)) O2.out ⟨ab, ao, none⟩ kn cap (flatL (L.take kn)) HFT.out (HLT.out _ B2.out) (flatL_one _) (by have := HSM.out; have := HKN.out; unfold maxLen; omega) (by have := HSM.out; have := HKN.out; omega) B2.out.size
      refine step_app4 rfl _ _ TLines rfl (.slice ya (L.length - kn) yc) (some ⟨ab, ao, none⟩) kn cap y3 (by rfl) (by rfl) hrun ?_
      have B3 : Hid (Below W1.heap.size W1 V3) := B2.out.grown hgrow B2.out.size (fun j hj => (O2.out.lt j hj).1)
      have O3 := Lib.hid hown
      refine hKq.out _ _ B3.out (fun hHeld8 => ?_)
      clear hKq Kq hrun hown hgrow
      try simp only [Act.put, List.setIfInBounds_toArray, List.set_cons_zero, List.set_cons_succ]
      rw [HBF.out] at O3
      have O3' : Hid (V3.ownsRow W1.heap.size TLine 4 y3 B.length (flatL B)) := by show World.ownsRow _ _ _ _ _ _ _; rw [HBL.out]; exact O3.out
      obtain ⟨za, zc, hy3, hz3, _⟩ := lns_own O3'.out
      rw [HBL.out] at hy3
      subst hy3
      have KT3 := Lib.hid (KTD.out V3 za zc hz3)
      clear hz3 O3' O3 O2 O1
      refine wpAnyH_ready (rs := [9]) (by kernel_rfl) (by simp) ?_
      refine AllReadyH.cons (o := { dst := some 64, op := Op.call { callee := Callee.value (Operand.func 22), args := #[Operand.tmp 63], argTypes := #[23] }, type := 51, pos := "law.go:139", after := #[{ on := 8, ground := Ground.data }, { on := 8, ground := Ground.chain }], guard := none }) rfl (fun Kq hKq => ?_) AllReadyH.nil
      go_simp
      refine KT3.out.mono ?_
      rintro _ V4 ⟨sa, sc, rfl, hsl, hb4⟩
      have B4 : Hid (Below W1.heap.size W1 V4) := B3.out.trans (hb4.mono B3.out.size)
      go_simp
      refine hKq.out _ _ (B4.out) (fun hHeld9 => ?_)
      clear hKq Kq
      try simp only [Act.put, List.setIfInBounds_toArray, List.set_cons_zero, List.set_cons_succ]
      refine wpAnyH_take (i := 10) (oi := { dst := some 54, op := Op.move (Operand.tmp 64), type := 51, pos := "law.go:139", after := #[{ on := 9, ground := Ground.data }], guard := none }) (v := (.tuple #[.slice sa T.length sc, .int .i64 0])) rfl (by kernel_rfl) (by kernel_rfl) (by kernel_rfl) (fun _ _ _ h => h) (Or.inl ⟨by rfl, ?_⟩) hHeld9 ?_
      · rintro u _
        go_simp <;> first | rfl | kernel_rfl
      try simp only [Act.put, List.setIfInBounds_toArray, List.set_cons_zero, List.set_cons_succ]
      refine wpAnyH_take (i := 11) (oi := { dst := some 65, op := Op.extract (Operand.tmp 54) 0, type := 23, pos := "law.go:139", after := #[{ on := 10, ground := Ground.data }], guard := none }) (v := (.slice sa T.length sc)) rfl (by kernel_rfl) (by kernel_rfl) (by kernel_rfl) (fun _ _ _ h => h) (Or.inl ⟨by rfl, ?_⟩) hHeld9 ?_
      · rintro u _
        go_simp <;> first | rfl | kernel_rfl
      try simp only [Act.put, List.setIfInBounds_toArray, List.set_cons_zero, List.set_cons_succ]
      refine wpAnyH_take (i := 12) (oi := { dst := some 66, op := Op.extract (Operand.tmp 54) 1, type := 32, pos := "law.go:139", after := #[{ on := 10, ground := Ground.data }, { on := 13, ground := Ground.gcOnly Departure.lateStores }], guard := none }) (v := (.int .i64 0)) rfl (by kernel_rfl) (by kernel_rfl) (by kernel_rfl) (fun _ _ _ h => h) (Or.inl ⟨by rfl, ?_⟩) hHeld9 ?_
      · rintro u _
        go_simp <;> first | rfl | kernel_rfl
      try simp only [Act.put, List.setIfInBounds_toArray, List.set_cons_zero, List.set_cons_succ]
      refine wpAnyH_take (i := 13) (oi := { dst := some 8, op := Op.assign (Operand.tmp 65), type := 23, pos := "law.go:139", after := #[{ on := 11, ground := Ground.data }, { on := 9, ground := Ground.chain }, { on := 0, ground := Ground.phase }, { on := 1, ground := Ground.phase }, { on := 2, ground := Ground.phase }, { on := 3, ground := Ground.phase }, { on := 4, ground := Ground.phase }, { on := 5, ground := Ground.phase }, { on := 6, ground := Ground.phase }, { on := 7, ground := Ground.phase }, { on := 8, ground := Ground.phase }, { on := 9, ground := Ground.phase }, { on := 10, ground := Ground.phase }, { on := 11, ground := Ground.phase }, { on := 12, ground := Ground.textOnly Departure.lateStores }], guard := none }) (v := (.slice sa T.length sc)) rfl (by kernel_rfl) (by kernel_rfl) (by kernel_rfl) (fun _ _ _ h => h) (Or.inl ⟨by rfl, ?_⟩) hHeld9 ?_
      · rintro u _
        go_simp <;> first | rfl | kernel_rfl
      try simp only [Act.put, List.setIfInBounds_toArray, List.set_cons_zero, List.set_cons_succ]
      refine wpAnyH_take (i := 14) (oi := { dst := some 9, op := Op.assign (Operand.tmp 66), type := 32, pos := "law.go:139", after := #[{ on := 12, ground := Ground.data }, { on := 13, ground := Ground.chain }, { on := 0, ground := Ground.phase }, { on := 1, ground := Ground.phase }, { on := 2, ground := Ground.phase }, { on := 3, ground := Ground.phase }, { on := 4, ground := Ground.phase }, { on := 5, ground := Ground.phase }, { on := 6, ground := Ground.phase }, { on := 7, ground := Ground.phase }, { on := 8, ground := Ground.phase }, { on := 9, ground := Ground.phase }, { on := 10, ground := Ground.phase }, { on := 11, ground := Ground.phase }, { on := 12, ground := Ground.phase }, { on := 13, ground := Ground.phase }], guard := none }) (v := (.int .i64 0)) rfl (by kernel_rfl) (by kernel_rfl) (by kernel_rfl) (fun _ _ _ h => h) (Or.inl ⟨by rfl, ?_⟩) hHeld9 ?_
      · rintro u _
        go_simp <;> first | rfl | kernel_rfl
      try simp only [Act.put, List.setIfInBounds_toArray, List.set_cons_zero, List.set_cons_succ]
      have hHeldE := B4.out
      clear hb4 B1 B2 B3 B4 KT3
      refine wpAnyH_done (by kernel_rfl) ?_ _
      clear q1 q2 q3 q4 q5 HNA HLD HLT HFD HFT HBL HBF KTD
      have HB4 : Hid (Below w.heap.size w V4) := HB1.out.trans (hHeldE.mono HB1.out.size)
      have HT4 := Lib.hid (HT1.out.later hHeldE)
      have HS4 := Lib.hid hsl
      clear hHeldE hsl
      have KT2 : Hid (Calls Try.prog 22 #[.slice ta T.length tc] V4 fun e w' => ∃ sa sc, e = .returned (.tuple #[.slice sa T.length sc, .int .i64 0]) ∧ Lns w' sa T ∧ Below V4.heap.size V4 w') := by
        refine (tidy_c T ta tc V4 HT4.out (tidied_in HTD.out HR.out) (by have := HTL.out; have := HSM.out; omega)).mono ?_
        rintro e w' ⟨hb, ⟨_, T', v, hT', h2, h3, _⟩ | ⟨h0, _⟩⟩
        · obtain rfl := HTD.out.again.uniq hT'
          obtain ⟨sa, sc, rfl, h4, _⟩ := lns_own h3
          exact ⟨sa, sc, h2, h4, hb⟩
        · rw [HTD.out.tok HTK.out] at h0; cases h0
      go_wp2_with fail
      refine KT2.out.mono ?_
      rintro _ V5 ⟨ca, cc, rfl, hc5, hb5⟩
      have HB5 : Hid (Below w.heap.size w V5) := HB4.out.trans (hb5.mono HB4.out.size)
      have HT5 := Lib.hid (HT4.out.later hb5)
      have HS5 := Lib.hid (HS4.out.later hb5)
      have HC5 := Lib.hid hc5
      clear hc5 hb5 KT2 HB4 HT4 HS4
      have KS1 := Lib.hid (sameL_c T ta sa tc sc V5 HT5.out HS5.out (by have := HTL.out; have := HSM.out; omega))
      go_wp2_with fail
      refine KS1.out.mono ?_
      rintro _ V6 ⟨rfl, hb6⟩
      have HB6 : Hid (Below w.heap.size w V6) := HB5.out.trans (hb6.mono HB5.out.size)
      have HT6 := Lib.hid (HT5.out.later hb6)
      have KS2 := Lib.hid (sameL_c T ta ca tc cc V6 HT6.out (HC5.out.later hb6) (by have := HTL.out; have := HSM.out; omega))
      clear hb6 KS1 HB5 HT5 HS5 HC5
      go_wp2_with fail
      refine KS2.out.mono ?_
      rintro _ V7 ⟨rfl, hb7⟩
      have HB7 : Hid (Below w.heap.size w V7) := HB6.out.trans (hb7.mono HB6.out.size)
      have HT7 := Lib.hid (HT6.out.later hb7)
      clear hb7 KS2 HB6 HT6
      have HTS : Hid (T.length ≤ 60) := Nat.le_trans HTL.out HSM.out
      go_upto_region 16 with (fail)
      go_loopg [12] T.length (fun kx s12 wr => ∃ i : Nat, s12 = .int .i64 (i : Int) ∧ 1 ≤ i ∧ Hid (Below w.heap.size w wr) ∧ Hid (Lns wr ta T) ∧ T.length ≤ i + kx)
      case atStart => exact ⟨1, rfl, Nat.le_refl _, HB7.out, HT7.out, by omega⟩
      case round =>
        obtain ⟨i, rfl, hi1, HB, HT, hkx⟩ := hrel
        by_cases hlt : i < T.length
        · obtain ⟨m, rfl⟩ : ∃ m, i = m + 1 := ⟨i - 1, by omega⟩
          obtain ⟨tb, tq, rfl, htb, hc⟩ := HT.out m (by omega)
          obtain ⟨tb', tq', hto, _, hd⟩ := HT.out (m + 1) hlt
          obtain ⟨rfl, rfl⟩ : tb = tb' ∧ tq = tq' := by simpa using hto
          have hlq : klt (T[m]'(by omega)).key T[m + 1].key := List.pairwise_iff_getElem.1 HTD.out.up m (m + 1) (by omega) hlt (by omega)
          have HAB := Lib.hid htb
          have C0 := Lib.hid (hc 0 _ rfl)
          have C1 := Lib.hid (hc 1 _ rfl)
          have C2 := Lib.hid (hc 2 _ rfl)
          have C3 := Lib.hid (hc 3 _ rfl)
          have D0 := Lib.hid (hd 0 _ rfl)
          have D1 := Lib.hid (hd 1 _ rfl)
          have D2 := Lib.hid (hd 2 _ rfl)
          have D3 := Lib.hid (hd 3 _ rfl)
          obtain ⟨x, hx⟩ : ∃ x, x = T[m]'(by omega) := ⟨_, rfl⟩
          obtain ⟨y, hy⟩ : ∃ y, y = T[m + 1] := ⟨_, rfl⟩
          rw [← hx] at C0 C1 C2 C3 hlq
          rw [← hy] at D0 D1 D2 D3 hlq
          have KL : Hid (∀ u, Calls Try.prog 29 #[x.val, y.val] u fun e w' => e = .returned (.bool true) ∧ Below u.heap.size u w') := fun u => by
            have := lessL_c x y u
            rw [decide_eq_true hlq] at this
            exact this
          rw [Nat.add_zero] at C0 D0
          have HLTT := Lib.hid hlt
          have HKX := Lib.hid hkx
          have l0 : (0 : Int) ≤ (m : Int) := by omega
          have l1 : ((m + 1 : Nat) : Int) < (T.length : Int) := by omega
          have l2 : (m : Int) < (T.length : Int) := by omega
          have l3 : T.length ≤ 60 := HTS.out
          have l4 : ((m + 1 : Nat) : Int) - 1 = (m : Int) := by omega
          have hw1 : IntKind.i64.wrap (m : Int) = (m : Int) := IntWalk.i64_in _ ⟨by omega, by omega⟩
          clear hc hd hx hy hlq hlt hkx hto htb hi1
          obtain ⟨xa, xb, xc, xd⟩ := x
          obtain ⟨ya, yb, yc, yd⟩ := y
          unfold Ln.val at KL
          simp only at C0 C1 C2 C3 D0 D1 D2 D3 KL
          go_upto_region 18 with (fail)
          refine wp_region_held_drew (S := (fun u => (tb < u.heap.size ∧ u.cell? ⟨tb, tq + m * 4, none⟩ = some (.int .i64 xa) ∧ u.cell? ⟨tb, tq + m * 4 + 1, none⟩ = some (.int .u64 xb) ∧ u.cell? ⟨tb, tq + m * 4 + 2, none⟩ = some (.int .u64 xc) ∧ u.cell? ⟨tb, tq + m * 4 + 3, none⟩ = some (.int .i64 xd) ∧ u.cell? ⟨tb, tq + (m + 1) * 4, none⟩ = some (.int .i64 ya) ∧ u.cell? ⟨tb, tq + (m + 1) * 4 + 1, none⟩ = some (.int .u64 yb) ∧ u.cell? ⟨tb, tq + (m + 1) * 4 + 2, none⟩ = some (.int .u64 yc) ∧ u.cell? ⟨tb, tq + (m + 1) * 4 + 3, none⟩ = some (.int .i64 yd)))) (by kernel_rfl) ?_ (fun hHeld => ?_)
          · exact ⟨HAB.out, C0.out, C1.out, C2.out, C3.out, D0.out, D1.out, D2.out, D3.out⟩
          refine wpAnyH_take (i := 0) (oi := { dst := some 96, op := Op.move (Operand.tmp 5), type := 23, pos := "law.go:145", after := #[], guard := none }) (v := (.slice (some ⟨tb, tq, none⟩) T.length tc)) rfl (by kernel_rfl) (by kernel_rfl) (by kernel_rfl) (fun _ _ _ h => h) (Or.inl ⟨by rfl, ?_⟩) hHeld ?_
          · rintro u ⟨h0, p0, p1, p2, p3, q0, q1, q2, q3⟩
            go_simp <;> first | rfl | kernel_rfl
          try simp only [Act.put, List.setIfInBounds_toArray, List.set_cons_zero, List.set_cons_succ]
          refine wpAnyH_take (i := 1) (oi := { dst := some 97, op := Op.move (Operand.tmp 12), type := 3, pos := "law.go:145", after := #[], guard := none }) (v := (.int .i64 ((m + 1 : Nat) : Int))) rfl (by kernel_rfl) (by kernel_rfl) (by kernel_rfl) (fun _ _ _ h => h) (Or.inl ⟨by rfl, ?_⟩) hHeld ?_
          · rintro u ⟨h0, p0, p1, p2, p3, q0, q1, q2, q3⟩
            go_simp <;> first | rfl | kernel_rfl
          try simp only [Act.put, List.setIfInBounds_toArray, List.set_cons_zero, List.set_cons_succ]
          refine wpAnyH_take (i := 2) (oi := { dst := some 98, op := Op.binOp BinOp.sub 3 (Operand.tmp 97) (Operand.const (Value.int IntKind.i64 1)) 3, type := 3, pos := "law.go:145", after := #[{ on := 1, ground := Ground.data }], guard := none }) (v := (.int .i64 (m : Int))) rfl (by kernel_rfl) (by kernel_rfl) (by kernel_rfl) (fun _ _ _ h => h) (Or.inl ⟨by rfl, ?_⟩) hHeld ?_
          · rintro u ⟨h0, p0, p1, p2, p3, q0, q1, q2, q3⟩
            go_simp <;> first | exact hw1 | (simp [hw1]) | omega | rfl
          try simp only [Act.put, List.setIfInBounds_toArray, List.set_cons_zero, List.set_cons_succ]
          refine wpAnyH_take (i := 3) (oi := { dst := some 99, op := Op.indexAddr 23 (Operand.tmp 96) (Operand.tmp 98), type := 0, pos := "law.go:145", after := #[{ on := 0, ground := Ground.data }, { on := 2, ground := Ground.data }], guard := none }) (v := (.pointer (some ⟨tb, tq + m * 4, none⟩))) rfl (by kernel_rfl) (by kernel_rfl) (by kernel_rfl) (fun _ _ _ h => h) (Or.inl ⟨by rfl, ?_⟩) hHeld ?_
          · rintro u ⟨h0, p0, p1, p2, p3, q0, q1, q2, q3⟩
            go_simp <;> first | omega | rfl | kernel_rfl
          try simp only [Act.put, List.setIfInBounds_toArray, List.set_cons_zero, List.set_cons_succ]
          refine wpAnyH_take (i := 4) (oi := { dst := some 100, op := Op.load 67 (Operand.tmp 99), type := 67, pos := "law.go:145", after := #[{ on := 3, ground := Ground.data }], guard := none }) (v := (.agg #[.int .i64 xa, .int .u64 xb, .int .u64 xc, .int .i64 xd])) rfl (by kernel_rfl) (by kernel_rfl) (by kernel_rfl) (fun _ _ _ h => h) (Or.inl ⟨by rfl, ?_⟩) hHeld ?_
          · rintro u ⟨h0, p0, p1, p2, p3, q0, q1, q2, q3⟩
            go_simp <;> first | rfl | kernel_rfl
          try simp only [Act.put, List.setIfInBounds_toArray, List.set_cons_zero, List.set_cons_succ]
          refine wpAnyH_take (i := 5) (oi := { dst := some 101, op := Op.move (Operand.tmp 5), type := 23, pos := "law.go:145", after := #[], guard := none }) (v := (.slice (some ⟨tb, tq, none⟩) T.length tc)) rfl (by kernel_rfl) (by kernel_rfl) (by kernel_rfl) (fun _ _ _ h => h) (Or.inl ⟨by rfl, ?_⟩) hHeld ?_
          · rintro u ⟨h0, p0, p1, p2, p3, q0, q1, q2, q3⟩
            go_simp <;> first | rfl | kernel_rfl
          try simp only [Act.put, List.setIfInBounds_toArray, List.set_cons_zero, List.set_cons_succ]
          refine wpAnyH_take (i := 6) (oi := { dst := some 102, op := Op.move (Operand.tmp 12), type := 3, pos := "law.go:145", after := #[], guard := none }) (v := (.int .i64 ((m + 1 : Nat) : Int))) rfl (by kernel_rfl) (by kernel_rfl) (by kernel_rfl) (fun _ _ _ h => h) (Or.inl ⟨by rfl, ?_⟩) hHeld ?_
          · rintro u ⟨h0, p0, p1, p2, p3, q0, q1, q2, q3⟩
            go_simp <;> first | omega | rfl | kernel_rfl
          try simp only [Act.put, List.setIfInBounds_toArray, List.set_cons_zero, List.set_cons_succ]
          refine wpAnyH_take (i := 7) (oi := { dst := some 103, op := Op.indexAddr 23 (Operand.tmp 101) (Operand.tmp 102), type := 0, pos := "law.go:145", after := #[{ on := 5, ground := Ground.data }, { on := 6, ground := Ground.data }], guard := none }) (v := (.pointer (some ⟨tb, tq + (m + 1) * 4, none⟩))) rfl (by kernel_rfl) (by kernel_rfl) (by kernel_rfl) (fun _ _ _ h => h) (Or.inl ⟨by rfl, ?_⟩) hHeld ?_
          · rintro u ⟨h0, p0, p1, p2, p3, q0, q1, q2, q3⟩
            go_simp <;> first | omega | rfl | kernel_rfl
          try simp only [Act.put, List.setIfInBounds_toArray, List.set_cons_zero, List.set_cons_succ]
          refine wpAnyH_take (i := 8) (oi := { dst := some 104, op := Op.load 67 (Operand.tmp 103), type := 67, pos := "law.go:145", after := #[{ on := 7, ground := Ground.data }], guard := none }) (v := (.agg #[.int .i64 ya, .int .u64 yb, .int .u64 yc, .int .i64 yd])) rfl (by kernel_rfl) (by kernel_rfl) (by kernel_rfl) (fun _ _ _ h => h) (Or.inl ⟨by rfl, ?_⟩) hHeld ?_
          · rintro u ⟨h0, p0, p1, p2, p3, q0, q1, q2, q3⟩
            go_simp <;> first | rfl | kernel_rfl
          try simp only [Act.put, List.setIfInBounds_toArray, List.set_cons_zero, List.set_cons_succ]
          refine wpAnyH_ready (rs := [9]) (by kernel_rfl) (by simp) ?_
          refine AllReadyH.cons (o := { dst := some 105, op := Op.call { callee := Callee.value (Operand.func 29), args := #[Operand.tmp 100, Operand.tmp 104], argTypes := #[67, 67] }, type := 4, pos := "law.go:145", after := #[{ on := 4, ground := Ground.data }, { on := 8, ground := Ground.data }], guard := none }) rfl (fun Kq hKq => ?_) AllReadyH.nil
          go_simp
          refine (KL.out _).mono ?_
          rintro _ Z1 ⟨rfl, hb1⟩
          go_simp
          refine hKq.out _ _ (⟨Nat.lt_of_lt_of_le HAB.out hb1.size, (by rw [hb1.cell (p := ⟨tb, tq + m * 4, none⟩) HAB.out]; exact C0.out), (by rw [hb1.cell (p := ⟨tb, tq + m * 4 + 1, none⟩) HAB.out]; exact C1.out), (by rw [hb1.cell (p := ⟨tb, tq + m * 4 + 2, none⟩) HAB.out]; exact C2.out), (by rw [hb1.cell (p := ⟨tb, tq + m * 4 + 3, none⟩) HAB.out]; exact C3.out), (by rw [hb1.cell (p := ⟨tb, tq + (m + 1) * 4, none⟩) HAB.out]; exact D0.out), (by rw [hb1.cell (p := ⟨tb, tq + (m + 1) * 4 + 1, none⟩) HAB.out]; exact D1.out), (by rw [hb1.cell (p := ⟨tb, tq + (m + 1) * 4 + 2, none⟩) HAB.out]; exact D2.out), (by rw [hb1.cell (p := ⟨tb, tq + (m + 1) * 4 + 3, none⟩) HAB.out]; exact D3.out)⟩) (fun hHeld9 => ?_)
          clear hKq Kq
          try simp only [Act.put, List.setIfInBounds_toArray, List.set_cons_zero, List.set_cons_succ]
          refine wpAnyH_take (i := 10) (oi := { dst := some 106, op := Op.unOp UnOp.not 4 (Operand.tmp 105), type := 4, pos := "law.go:145", after := #[{ on := 9, ground := Ground.data }], guard := none }) (v := (.bool false)) rfl (by kernel_rfl) (by kernel_rfl) (by kernel_rfl) (fun _ _ _ h => h) (Or.inl ⟨by rfl, ?_⟩) hHeld9 ?_
          · rintro u ⟨h0, p0, p1, p2, p3, q0, q1, q2, q3⟩
            go_simp <;> first | rfl | kernel_rfl
          try simp only [Act.put, List.setIfInBounds_toArray, List.set_cons_zero, List.set_cons_succ]
          have hHeldE := hHeld9
          refine wpAnyH_done (by kernel_rfl) ?_ _
          have HB2 : Hid (Below w.heap.size w Z1) := HB.out.drew.trans (hb1.mono HB.out.size)
          have HT2 : Hid (Lns Z1 (some ⟨tb, tq, none⟩) T) := Lns.later (w := wr.drew) HT.out hb1
          clear hb1 HB HT C0 C1 C2 C3 D0 D1 D2 D3 hHeldE KL l4 hw1
          go_wp2_with fail
          have hlt := HLTT.out
          have hkx := HKX.out
          go_roundg (T.length - (m + 1 + 1))
          case measure => omega
          case rel => exact ⟨m + 1 + 1, by simp, by omega, HB2, HT2, by omega⟩
        · clear hkx HT7
          go_upto_region 21 with (fail)
          have HBX := HB
          have HTX := HT
          clear HB HT hlt hi1
          generalize wr = wq at HBX HTX ⊢
          go_loopg [13] L.length (fun kx s13 wr => ∃ i : Nat, s13 = .int .i64 (i : Int) ∧ i ≤ L.length ∧ Hid (Below wq.heap.size wq wr) ∧ L.length ≤ i + kx)
          case atStart => exact ⟨0, rfl, Nat.zero_le _, Below.refl _ _, by omega⟩
          case round =>
            obtain ⟨i, rfl, hi9, HB, hkx⟩ := hrel
            have HBW : Hid (Below w.heap.size w wr) := HBX.out.trans (HB.out.mono HBX.out.size)
            by_cases hlt : i < L.length
            · have HAT : Hid (∀ u, Below wr.heap.size wr u → ∀ k v, L[i].cells[k]? = some v → u.cell? ⟨ab, ao + i * 4 + k, none⟩ = some v) := fun u hu k v hv => by
                obtain ⟨b, o, h1, _, h3⟩ := (H.out.1.later (HBW.out.trans (hu.mono HBW.out.size))) i hlt
                injection h1 with h1
                injection h1 with e1 e2 _
                subst e1 e2
                exact h3 k v hv
              have HFT := fits_fit (tok_fit HTK.out _ (List.getElem_mem hlt))
              have K1 : Hid (∀ u, Below wr.heap.size wr u → Calls Try.prog 30 #[.slice (some ⟨ab, ao, none⟩) L.length cap, L[i].val] u (OfRes (ksum L L[i].key) u)) := fun u hu => by
                have := of_c L (some ⟨ab, ao, none⟩) cap L[i] u (H.out.1.later (HBW.out.trans (hu.mono HBW.out.size))) HI.out (by have := HSM.out; omega)
                unfold Told at this
                rw [HFT.1, HFT.2] at this
                exact this
              have K2 : Hid (∀ u, Below wr.heap.size wr u → Calls Try.prog 30 #[.slice ta T.length tc, L[i].val] u (OfRes (ksum L L[i].key) u)) := fun u hu => by
                have := of_c T ta tc L[i] u (HTX.out.later (HB.out.trans (hu.mono HB.out.size))) (tidied_fit HTD.out HTK.out) (by have := HTS.out; omega)
                unfold Told at this
                rw [HTD.out.sum, HFT.1, HFT.2] at this
                exact this
              obtain ⟨x, hx⟩ : ∃ x, x = L[i] := ⟨_, rfl⟩
              rw [← hx] at HAT K1 K2
              have l0 : (0 : Int) ≤ (i : Int) := by omega
              have l1 : (i : Int) < (L.length : Int) := by omega
              have l3 : L.length ≤ 60 := HSM.out
              have HLTT := Lib.hid hlt
              have HKX := Lib.hid hkx
              clear hx hlt hkx HFT
              generalize ksum L x.key = n at K1 K2
              obtain ⟨xa, xb, xc, xd⟩ := x
              unfold Ln.val OfRes at K1 K2
              simp only at K1 K2
              have c0 : wr.cell? ⟨ab, ao + i * 4, none⟩ = some (.int .i64 xa) := HAT.out wr (Below.refl _ _) 0 _ rfl
              have c1 : wr.cell? ⟨ab, ao + i * 4 + 1, none⟩ = some (.int .u64 xb) := HAT.out wr (Below.refl _ _) 1 _ rfl
              have c2 : wr.cell? ⟨ab, ao + i * 4 + 2, none⟩ = some (.int .u64 xc) := HAT.out wr (Below.refl _ _) 2 _ rfl
              have c3 : wr.cell? ⟨ab, ao + i * 4 + 3, none⟩ = some (.int .i64 xd) := HAT.out wr (Below.refl _ _) 3 _ rfl
              go_wp2_with fail
              refine (K1.out wr (Below.refl _ _)).mono ?_
              rintro _ Y1 ⟨rfl, hy1⟩
              have HY1 := Lib.hid hy1
              clear c0 c1 c2 c3 K1 hy1
              have c0 : Y1.cell? ⟨ab, ao + i * 4, none⟩ = some (.int .i64 xa) := HAT.out Y1 HY1.out 0 _ rfl
              have c1 : Y1.cell? ⟨ab, ao + i * 4 + 1, none⟩ = some (.int .u64 xb) := HAT.out Y1 HY1.out 1 _ rfl
              have c2 : Y1.cell? ⟨ab, ao + i * 4 + 2, none⟩ = some (.int .u64 xc) := HAT.out Y1 HY1.out 2 _ rfl
              have c3 : Y1.cell? ⟨ab, ao + i * 4 + 3, none⟩ = some (.int .i64 xd) := HAT.out Y1 HY1.out 3 _ rfl
              go_wp2_with fail
              refine (K2.out Y1 HY1.out).mono ?_
              rintro _ Y2 ⟨rfl, hy2⟩
              have HB2 : Hid (Below wq.heap.size wq Y2) := (HB.out.trans (HY1.out.mono HB.out.size)).trans (hy2.mono (HB.out.trans (HY1.out.mono HB.out.size)).size)
              clear c0 c1 c2 c3 K2 hy2 HAT HY1 HBW HB
              go_wp2_with fail
              have hlt := HLTT.out
              have hkx := HKX.out
              go_roundg (L.length - (i + 1))
              case measure => omega
              case rel => exact ⟨i + 1, by simp, by omega, HB2, by omega⟩
            · obtain rfl : i = L.length := by omega
              clear hkx hlt hi9
              go_wp2_with fail
              refine (KH.out _).mono ?_
              rintro _ w9 ⟨rfl, hb9⟩
              have HB9 : Hid (Below w.heap.size w w9) := HBW.out.trans (hb9.mono HBW.out.size)
              clear hb9
              go_wp2_with fail
              go_ret
              exact ⟨rfl, HB9.out⟩
    · have hq1 := HQ1.out
      go_upto_region 11 with (fail)
      obtain ⟨kn, hkn⟩ : ∃ kn : Nat, q = (kn : Int) := ⟨q.toNat, by omega⟩
      have HKN : Hid (kn < L.length) := by show _ < _; omega
      subst hkn
      clear hneg hq1
      have HNA : Hid (∀ u, Below W1.heap.size W1 u → ∀ j v, (flatL L)[j]? = some v → u.cell? ((⟨ab, ao, none⟩ : Addr).add j) = some v) := fun u hu => lns_news (H.out.1.later (HB1.out.trans (hu.mono HB1.out.size)))
      obtain ⟨i4, z4, hk0, hk1, hk2, hk3, hk4⟩ := info_ln
      have HFD : Hid ((flatL (L.drop kn)).length = (L.length - kn) * 4) := by show _ = _; rw [flatL_len, List.length_drop]
      have HFT : Hid ((flatL (L.take kn)).length = kn * 4) := by show _ = _; rw [flatL_len, List.length_take, Nat.min_eq_left (Nat.le_of_lt HKN.out)]
      have HLD : Hid (∀ u, Below W1.heap.size W1 u → ∀ j v, (flatL (L.drop kn))[j]? = some v → u.cell? ((⟨ab, ao + kn * 4, none⟩ : Addr).add j) = some v) := fun u hu j v hv => by
        rw [drop_flat (Nat.le_of_lt HKN.out), List.getElem?_drop] at hv
        have := HNA.out u hu _ v hv
        rw [Addr.add_lit] at this ⊢
        rw [show ao + kn * 4 + j = ao + (kn * 4 + j) by omega]; exact this
      have HLT : Hid (∀ u, Below W1.heap.size W1 u → ∀ j v, (flatL (L.take kn))[j]? = some v → u.cell? ((⟨ab, ao, none⟩ : Addr).add j) = some v) := fun u hu j v hv => by
        have hj : j < kn * 4 := by rw [← HFT.out]; exact (List.getElem?_eq_some_iff.1 hv).1
        rw [take_flat (Nat.le_of_lt HKN.out), List.getElem?_take_of_lt hj] at hv
        exact HNA.out u hu j v hv
      obtain ⟨B, hB⟩ : ∃ B, B = L.drop kn ++ L.take kn := ⟨_, rfl⟩
      have HBL : Hid (B.length = L.length - kn + kn) := by show _ = _; rw [hB, List.length_append, List.length_drop, List.length_take, Nat.min_eq_left (Nat.le_of_lt HKN.out)]
      have HBF : Hid (flatL (L.drop kn) ++ flatL (L.take kn) = flatL B) := by show _ = _; rw [hB]; exact turned_take kn
      have HBT : Hid (tokB B = true) := by
        show _ = _
        rw [hB]
        exact tok_comm (by rw [List.take_append_drop]; exact HTK.out)
      have HBS : Hid (Tidied B T) := HTD.out.congr fun q => by rw [hB, ksum_comm, List.take_append_drop]
      have HBI : Hid (∀ x ∈ B, InR x.key) := fun x hx => HR.out x (by
        rw [hB, List.mem_append] at hx
        exact hx.elim (fun h => List.mem_of_mem_drop h) (fun h => List.mem_of_mem_take h))
      have KTD : Hid (∀ u ya yc, Lns u ya B → Calls Try.prog 22 #[.slice ya (L.length - kn + kn) yc] u fun e w' => ∃ sa sc, e = .returned (.tuple #[.slice sa T.length sc, .int .i64 0]) ∧ Lns w' sa T ∧ Below u.heap.size u w') := fun u ya yc hy => by
        have h1 := tidy_c B ya yc u hy HBI.out (by rw [HBL.out]; have := HSM.out; have := HKN.out; omega)
        rw [HBL.out] at h1
        refine h1.mono ?_
        rintro e w' ⟨hb, ⟨_, T', v, hT', h2, h3, _⟩ | ⟨h0, _⟩⟩
        · obtain rfl := HBS.out.uniq hT'
          obtain ⟨sa, sc, rfl, h4, _⟩ := lns_own h3
          exact ⟨sa, sc, h2, h4, hb⟩
        · rw [HBT.out] at h0; cases h0
      clear hB HBT HBS HBI
      have q1 : (0 : Int) ≤ (kn : Int) := by omega
      have q2 : (kn : Int) ≤ (L.length : Int) := by have := HKN.out; omega
      have q3 : (L.length : Int) ≤ (cap : Int) := by have := HCP.out; omega
      have q4 : (kn : Int) ≤ (cap : Int) := by omega
      have q5 : (cap - kn == 0) = false := by have := HCP.out; have := HKN.out; simp; omega
      refine wp_region_held_drew (S := (fun u => Below W1.heap.size W1 u)) (by kernel_rfl) ?_ (fun hHeld => ?_)
      · exact (Below.refl _ W1).drew
      refine wpAnyH_take (i := 1) (oi := { dst := some 56, op := Op.move (Operand.tmp 0), type := 23, pos := "law.go:139", after := #[], guard := none }) (v := (.slice (some ⟨ab, ao, none⟩) L.length cap)) rfl (by kernel_rfl) (by kernel_rfl) (by kernel_rfl) (fun _ _ _ h => h) (Or.inl ⟨by rfl, ?_⟩) hHeld ?_
      · rintro u _
        go_simp <;> first | rfl | kernel_rfl
      try simp only [Act.put, List.setIfInBounds_toArray, List.set_cons_zero, List.set_cons_succ]
      refine wpAnyH_take (i := 2) (oi := { dst := some 57, op := Op.move (Operand.tmp 7), type := 3, pos := "law.go:139", after := #[], guard := none }) (v := (.int .i64 (kn : Int))) rfl (by kernel_rfl) (by kernel_rfl) (by kernel_rfl) (fun _ _ _ h => h) (Or.inl ⟨by rfl, ?_⟩) hHeld ?_
      · rintro u _
        go_simp <;> first | rfl | kernel_rfl
      try simp only [Act.put, List.setIfInBounds_toArray, List.set_cons_zero, List.set_cons_succ]
      refine wpAnyH_take (i := 3) (oi := { dst := some 58, op := Op.slice 23 (Operand.tmp 56) (some (Operand.tmp 57)) none none, type := 23, pos := "law.go:139", after := #[{ on := 1, ground := Ground.data }, { on := 2, ground := Ground.data }], guard := none }) (v := (.slice (some ⟨ab, ao + kn * 4, none⟩) (L.length - kn) (cap - kn))) rfl (by kernel_rfl) (by kernel_rfl) (by kernel_rfl) (fun _ _ _ h => h) (Or.inl ⟨by rfl, ?_⟩) hHeld ?_
      · rintro u _
        go_simp <;> first | rfl | (intro e; have h1 := HCP.out; have h2 := HKN.out; omega) | kernel_rfl
      try simp only [Act.put, List.setIfInBounds_toArray, List.set_cons_zero, List.set_cons_succ]
      refine wpAnyH_take (i := 5) (oi := { dst := some 60, op := Op.move (Operand.tmp 0), type := 23, pos := "law.go:139", after := #[], guard := none }) (v := (.slice (some ⟨ab, ao, none⟩) L.length cap)) rfl (by kernel_rfl) (by kernel_rfl) (by kernel_rfl) (fun _ _ _ h => h) (Or.inl ⟨by rfl, ?_⟩) hHeld ?_
      · rintro u _
        go_simp <;> first | rfl | kernel_rfl
      try simp only [Act.put, List.setIfInBounds_toArray, List.set_cons_zero, List.set_cons_succ]
      refine wpAnyH_take (i := 6) (oi := { dst := some 61, op := Op.move (Operand.tmp 7), type := 3, pos := "law.go:139", after := #[], guard := none }) (v := (.int .i64 (kn : Int))) rfl (by kernel_rfl) (by kernel_rfl) (by kernel_rfl) (fun _ _ _ h => h) (Or.inl ⟨by rfl, ?_⟩) hHeld ?_
      · rintro u _
        go_simp <;> first | rfl | kernel_rfl
      try simp only [Act.put, List.setIfInBounds_toArray, List.set_cons_zero, List.set_cons_succ]
      refine wpAnyH_take (i := 7) (oi := { dst := some 62, op := Op.slice 23 (Operand.tmp 60) none (some (Operand.tmp 61)) none, type := 23, pos := "law.go:139", after := #[{ on := 5, ground := Ground.data }, { on := 6, ground := Ground.data }], guard := none }) (v := (.slice (some ⟨ab, ao, none⟩) kn cap)) rfl (by kernel_rfl) (by kernel_rfl) (by kernel_rfl) (fun _ _ _ h => h) (Or.inl ⟨by rfl, ?_⟩) hHeld ?_
      · rintro u _
        go_simp <;> first | rfl | (intro e; have h1 := HCP.out; have h2 := HKN.out; omega) | kernel_rfl
      try simp only [Act.put, List.setIfInBounds_toArray, List.set_cons_zero, List.set_cons_succ]
      refine wpAnyH_ready (rs := [0]) (by kernel_rfl) (by simp) ?_
      refine AllReadyH.cons (o := { dst := some 55, op := Op.buildSlice 23 0 #[], type := 23, pos := "law.go:139", after := #[], guard := none }) rfl (fun Kq hKq => ?_) AllReadyH.nil
      go_simp
      have O1 : Hid (((W1.alloc (.cells #[] TLine)).drew).ownsRow W1.heap.size TLine 4 (.slice (some ⟨W1.heap.size, 0, none⟩) 0 0) 0 []) := Ch.own_zero W1 TLine W1.heap.size 4 (Nat.le_refl _)
      have B1 : Hid (Below W1.heap.size W1 ((W1.alloc (.cells #[] TLine)).drew)) := ((Below.refl _ W1).alloc (Nat.le_refl _) _).drew
      refine hKq.out _ _ (B1.out) (fun hHeld0 => ?_)
      clear hKq Kq
      try simp only [Act.put, List.setIfInBounds_toArray, List.set_cons_zero, List.set_cons_succ]
      generalize (W1.alloc (.cells #[] TLine)).drew = V1 at O1 B1 hHeld0 ⊢
      refine wpAnyH_ready (rs := [4]) (by kernel_rfl) (by simp) ?_
      refine AllReadyH.cons (o := { dst := some 59, op := Op.call { callee := Callee.builtin Builtin.append, args := #[Operand.tmp 55, Operand.tmp 58], argTypes := #[23, 23] }, type := 23, pos := "law.go:139", after := #[{ on := 0, ground := Ground.data }, { on := 3, ground := Ground.data }], guard := none }) rfl (fun Kq hKq => ?_) AllReadyH.nil
      obtain ⟨y2, V2, hrun, hown, hgrow, _, _⟩ := run_append_own_at (P := Try.prog) (w := V1) W1.heap.size TLines TLines TLine i4 z4 4 32 Try.underlying23 hk0 hk1 hk2 hk3 hk4 (by decide) _ 0 ([]) O1.out ⟨ab, ao + kn * 4, none⟩ (L.length - kn) (cap - kn) (flatL (L.drop kn)) HFD.out (HLD.out _ B1.out) (flatL_one _) (by have := HSM.out; have := HKN.out; unfold maxLen; omega) (by have := HSM.out; have := HKN.out; omega) B1.out.size
      refine step_app4 rfl _ _ TLines rfl (.slice (some ⟨W1.heap.size, 0, none⟩) 0 0) (some ⟨ab, ao + kn * 4, none⟩) (L.length - kn) (cap - kn) y2 (by rfl) (by rfl) hrun ?_
      have B2 : Hid (Below W1.heap.size W1 V2) := B1.out.grown hgrow B1.out.size (fun j hj => (O1.out.lt j hj).1)
      have O2 := Lib.hid hown
      refine hKq.out _ _ B2.out (fun hHeld4 => ?_)
      clear hKq Kq hrun hown hgrow
      try simp only [Act.put, List.setIfInBounds_toArray, List.set_cons_zero, List.set_cons_succ]
      rw [Nat.zero_add, List.nil_append] at O2
      obtain ⟨ya, yc, hy2⟩ := own_any O2.out
      subst hy2
      refine wpAnyH_ready (rs := [8]) (by kernel_rfl) (by simp) ?_
      refine AllReadyH.cons (o := { dst := some 63, op := Op.call { callee := Callee.builtin Builtin.append, args := #[Operand.tmp 59, Operand.tmp 62], argTypes := #[23, 23] }, type := 23, pos := "law.go:139", after := #[{ on := 4, ground := Ground.data }, { on := 7, ground := Ground.data }, { on := 4, ground := Ground.chain }], guard := none }) rfl (fun Kq hKq => ?_) AllReadyH.nil
      obtain ⟨y3, V3, hrun, hown, hgrow, _, _⟩ := run_append_own_at (P := Try.prog) (w := V2) W1.heap.size TLines TLines TLine i4 z4 4 32 Try.underlying23 hk0 hk1 hk2 hk3 hk4 (by decide) _ (L.length - kn) (flatL (L.drop kn)) O2.out ⟨ab, ao, none⟩ kn cap (flatL (L.take kn)) HFT.out (HLT.out _ B2.out) (flatL_one _) (by have := HSM.out; have := HKN.out; unfold maxLen; omega) (by have := HSM.out; have := HKN.out; omega) B2.out.size
      refine step_app4 rfl _ _ TLines rfl (.slice ya (L.length - kn) yc) (some ⟨ab, ao, none⟩) kn cap y3 (by rfl) (by rfl) hrun ?_
      have B3 : Hid (Below W1.heap.size W1 V3) := B2.out.grown hgrow B2.out.size (fun j hj => (O2.out.lt j hj).1)
      have O3 := Lib.hid hown
      refine hKq.out _ _ B3.out (fun hHeld8 => ?_)
      clear hKq Kq hrun hown hgrow
      try simp only [Act.put, List.setIfInBounds_toArray, List.set_cons_zero, List.set_cons_succ]
      rw [HBF.out] at O3
      have O3' : Hid (V3.ownsRow W1.heap.size TLine 4 y3 B.length (flatL B)) := by show World.ownsRow _ _ _ _ _ _ _; rw [HBL.out]; exact O3.out
      obtain ⟨za, zc, hy3, hz3, _⟩ := lns_own O3'.out
      rw [HBL.out] at hy3
      subst hy3
      have KT3 := Lib.hid (KTD.out V3 za zc hz3)
      clear hz3 O3' O3 O2 O1
      refine wpAnyH_ready (rs := [9]) (by kernel_rfl) (by simp) ?_
      refine AllReadyH.cons (o := { dst := some 64, op := Op.call { callee := Callee.value (Operand.func 22), args := #[Operand.tmp 63], argTypes := #[23] }, type := 51, pos := "law.go:139", after := #[{ on := 8, ground := Ground.data }, { on := 8, ground := Ground.chain }], guard := none }) rfl (fun Kq hKq => ?_) AllReadyH.nil
      go_simp
      refine KT3.out.mono ?_
      rintro _ V4 ⟨sa, sc, rfl, hsl, hb4⟩
      have B4 : Hid (Below W1.heap.size W1 V4) := B3.out.trans (hb4.mono B3.out.size)
      go_simp
      refine hKq.out _ _ (B4.out) (fun hHeld9 => ?_)
      clear hKq Kq
      try simp only [Act.put, List.setIfInBounds_toArray, List.set_cons_zero, List.set_cons_succ]
      refine wpAnyH_take (i := 10) (oi := { dst := some 54, op := Op.move (Operand.tmp 64), type := 51, pos := "law.go:139", after := #[{ on := 9, ground := Ground.data }], guard := none }) (v := (.tuple #[.slice sa T.length sc, .int .i64 0])) rfl (by kernel_rfl) (by kernel_rfl) (by kernel_rfl) (fun _ _ _ h => h) (Or.inl ⟨by rfl, ?_⟩) hHeld9 ?_
      · rintro u _
        go_simp <;> first | rfl | kernel_rfl
      try simp only [Act.put, List.setIfInBounds_toArray, List.set_cons_zero, List.set_cons_succ]
      refine wpAnyH_take (i := 11) (oi := { dst := some 65, op := Op.extract (Operand.tmp 54) 0, type := 23, pos := "law.go:139", after := #[{ on := 10, ground := Ground.data }], guard := none }) (v := (.slice sa T.length sc)) rfl (by kernel_rfl) (by kernel_rfl) (by kernel_rfl) (fun _ _ _ h => h) (Or.inl ⟨by rfl, ?_⟩) hHeld9 ?_
      · rintro u _
        go_simp <;> first | rfl | kernel_rfl
      try simp only [Act.put, List.setIfInBounds_toArray, List.set_cons_zero, List.set_cons_succ]
      refine wpAnyH_take (i := 12) (oi := { dst := some 66, op := Op.extract (Operand.tmp 54) 1, type := 32, pos := "law.go:139", after := #[{ on := 10, ground := Ground.data }, { on := 13, ground := Ground.gcOnly Departure.lateStores }], guard := none }) (v := (.int .i64 0)) rfl (by kernel_rfl) (by kernel_rfl) (by kernel_rfl) (fun _ _ _ h => h) (Or.inl ⟨by rfl, ?_⟩) hHeld9 ?_
      · rintro u _
        go_simp <;> first | rfl | kernel_rfl
      try simp only [Act.put, List.setIfInBounds_toArray, List.set_cons_zero, List.set_cons_succ]
      refine wpAnyH_take (i := 13) (oi := { dst := some 8, op := Op.assign (Operand.tmp 65), type := 23, pos := "law.go:139", after := #[{ on := 11, ground := Ground.data }, { on := 9, ground := Ground.chain }, { on := 0, ground := Ground.phase }, { on := 1, ground := Ground.phase }, { on := 2, ground := Ground.phase }, { on := 3, ground := Ground.phase }, { on := 4, ground := Ground.phase }, { on := 5, ground := Ground.phase }, { on := 6, ground := Ground.phase }, { on := 7, ground := Ground.phase }, { on := 8, ground := Ground.phase }, { on := 9, ground := Ground.phase }, { on := 10, ground := Ground.phase }, { on := 11, ground := Ground.phase }, { on := 12, ground := Ground.textOnly Departure.lateStores }], guard := none }) (v := (.slice sa T.length sc)) rfl (by kernel_rfl) (by kernel_rfl) (by kernel_rfl) (fun _ _ _ h => h) (Or.inl ⟨by rfl, ?_⟩) hHeld9 ?_
      · rintro u _
        go_simp <;> first | rfl | kernel_rfl
      try simp only [Act.put, List.setIfInBounds_toArray, List.set_cons_zero, List.set_cons_succ]
      refine wpAnyH_take (i := 14) (oi := { dst := some 9, op := Op.assign (Operand.tmp 66), type := 32, pos := "law.go:139", after := #[{ on := 12, ground := Ground.data }, { on := 13, ground := Ground.chain }, { on := 0, ground := Ground.phase }, { on := 1, ground := Ground.phase }, { on := 2, ground := Ground.phase }, { on := 3, ground := Ground.phase }, { on := 4, ground := Ground.phase }, { on := 5, ground := Ground.phase }, { on := 6, ground := Ground.phase }, { on := 7, ground := Ground.phase }, { on := 8, ground := Ground.phase }, { on := 9, ground := Ground.phase }, { on := 10, ground := Ground.phase }, { on := 11, ground := Ground.phase }, { on := 12, ground := Ground.phase }, { on := 13, ground := Ground.phase }], guard := none }) (v := (.int .i64 0)) rfl (by kernel_rfl) (by kernel_rfl) (by kernel_rfl) (fun _ _ _ h => h) (Or.inl ⟨by rfl, ?_⟩) hHeld9 ?_
      · rintro u _
        go_simp <;> first | rfl | kernel_rfl
      try simp only [Act.put, List.setIfInBounds_toArray, List.set_cons_zero, List.set_cons_succ]
      have hHeldE := B4.out
      clear hb4 B1 B2 B3 B4 KT3
      refine wpAnyH_done (by kernel_rfl) ?_ _
      clear q1 q2 q3 q4 q5 HNA HLD HLT HFD HFT HBL HBF KTD
      have HB4 : Hid (Below w.heap.size w V4) := HB1.out.trans (hHeldE.mono HB1.out.size)
      have HT4 := Lib.hid (HT1.out.later hHeldE)
      have HS4 := Lib.hid hsl
      clear hHeldE hsl
      have KT2 : Hid (Calls Try.prog 22 #[.slice ta T.length tc] V4 fun e w' => ∃ sa sc, e = .returned (.tuple #[.slice sa T.length sc, .int .i64 0]) ∧ Lns w' sa T ∧ Below V4.heap.size V4 w') := by
        refine (tidy_c T ta tc V4 HT4.out (tidied_in HTD.out HR.out) (by have := HTL.out; have := HSM.out; omega)).mono ?_
        rintro e w' ⟨hb, ⟨_, T', v, hT', h2, h3, _⟩ | ⟨h0, _⟩⟩
        · obtain rfl := HTD.out.again.uniq hT'
          obtain ⟨sa, sc, rfl, h4, _⟩ := lns_own h3
          exact ⟨sa, sc, h2, h4, hb⟩
        · rw [HTD.out.tok HTK.out] at h0; cases h0
      go_wp2_with fail
      refine KT2.out.mono ?_
      rintro _ V5 ⟨ca, cc, rfl, hc5, hb5⟩
      have HB5 : Hid (Below w.heap.size w V5) := HB4.out.trans (hb5.mono HB4.out.size)
      have HT5 := Lib.hid (HT4.out.later hb5)
      have HS5 := Lib.hid (HS4.out.later hb5)
      have HC5 := Lib.hid hc5
      clear hc5 hb5 KT2 HB4 HT4 HS4
      have KS1 := Lib.hid (sameL_c T ta sa tc sc V5 HT5.out HS5.out (by have := HTL.out; have := HSM.out; omega))
      go_wp2_with fail
      refine KS1.out.mono ?_
      rintro _ V6 ⟨rfl, hb6⟩
      have HB6 : Hid (Below w.heap.size w V6) := HB5.out.trans (hb6.mono HB5.out.size)
      have HT6 := Lib.hid (HT5.out.later hb6)
      have KS2 := Lib.hid (sameL_c T ta ca tc cc V6 HT6.out (HC5.out.later hb6) (by have := HTL.out; have := HSM.out; omega))
      clear hb6 KS1 HB5 HT5 HS5 HC5
      go_wp2_with fail
      refine KS2.out.mono ?_
      rintro _ V7 ⟨rfl, hb7⟩
      have HB7 : Hid (Below w.heap.size w V7) := HB6.out.trans (hb7.mono HB6.out.size)
      have HT7 := Lib.hid (HT6.out.later hb7)
      clear hb7 KS2 HB6 HT6
      have HTS : Hid (T.length ≤ 60) := Nat.le_trans HTL.out HSM.out
      go_upto_region 16 with (fail)
      go_loopg [12] T.length (fun kx s12 wr => ∃ i : Nat, s12 = .int .i64 (i : Int) ∧ 1 ≤ i ∧ Hid (Below w.heap.size w wr) ∧ Hid (Lns wr ta T) ∧ T.length ≤ i + kx)
      case atStart => exact ⟨1, rfl, Nat.le_refl _, HB7.out, HT7.out, by omega⟩
      case round =>
        obtain ⟨i, rfl, hi1, HB, HT, hkx⟩ := hrel
        by_cases hlt : i < T.length
        · obtain ⟨m, rfl⟩ : ∃ m, i = m + 1 := ⟨i - 1, by omega⟩
          obtain ⟨tb, tq, rfl, htb, hc⟩ := HT.out m (by omega)
          obtain ⟨tb', tq', hto, _, hd⟩ := HT.out (m + 1) hlt
          obtain ⟨rfl, rfl⟩ : tb = tb' ∧ tq = tq' := by simpa using hto
          have hlq : klt (T[m]'(by omega)).key T[m + 1].key := List.pairwise_iff_getElem.1 HTD.out.up m (m + 1) (by omega) hlt (by omega)
          have HAB := Lib.hid htb
          have C0 := Lib.hid (hc 0 _ rfl)
          have C1 := Lib.hid (hc 1 _ rfl)
          have C2 := Lib.hid (hc 2 _ rfl)
          have C3 := Lib.hid (hc 3 _ rfl)
          have D0 := Lib.hid (hd 0 _ rfl)
          have D1 := Lib.hid (hd 1 _ rfl)
          have D2 := Lib.hid (hd 2 _ rfl)
          have D3 := Lib.hid (hd 3 _ rfl)
          obtain ⟨x, hx⟩ : ∃ x, x = T[m]'(by omega) := ⟨_, rfl⟩
          obtain ⟨y, hy⟩ : ∃ y, y = T[m + 1] := ⟨_, rfl⟩
          rw [← hx] at C0 C1 C2 C3 hlq
          rw [← hy] at D0 D1 D2 D3 hlq
          have KL : Hid (∀ u, Calls Try.prog 29 #[x.val, y.val] u fun e w' => e = .returned (.bool true) ∧ Below u.heap.size u w') := fun u => by
            have := lessL_c x y u
            rw [decide_eq_true hlq] at this
            exact this
          rw [Nat.add_zero] at C0 D0
          have HLTT := Lib.hid hlt
          have HKX := Lib.hid hkx
          have l0 : (0 : Int) ≤ (m : Int) := by omega
          have l1 : ((m + 1 : Nat) : Int) < (T.length : Int) := by omega
          have l2 : (m : Int) < (T.length : Int) := by omega
          have l3 : T.length ≤ 60 := HTS.out
          have l4 : ((m + 1 : Nat) : Int) - 1 = (m : Int) := by omega
          have hw1 : IntKind.i64.wrap (m : Int) = (m : Int) := IntWalk.i64_in _ ⟨by omega, by omega⟩
          clear hc hd hx hy hlq hlt hkx hto htb hi1
          obtain ⟨xa, xb, xc, xd⟩ := x
          obtain ⟨ya, yb, yc, yd⟩ := y
          unfold Ln.val at KL
          simp only at C0 C1 C2 C3 D0 D1 D2 D3 KL
          go_upto_region 18 with (fail)
          refine wp_region_held_drew (S := (fun u => (tb < u.heap.size ∧ u.cell? ⟨tb, tq + m * 4, none⟩ = some (.int .i64 xa) ∧ u.cell? ⟨tb, tq + m * 4 + 1, none⟩ = some (.int .u64 xb) ∧ u.cell? ⟨tb, tq + m * 4 + 2, none⟩ = some (.int .u64 xc) ∧ u.cell? ⟨tb, tq + m * 4 + 3, none⟩ = some (.int .i64 xd) ∧ u.cell? ⟨tb, tq + (m + 1) * 4, none⟩ = some (.int .i64 ya) ∧ u.cell? ⟨tb, tq + (m + 1) * 4 + 1, none⟩ = some (.int .u64 yb) ∧ u.cell? ⟨tb, tq + (m + 1) * 4 + 2, none⟩ = some (.int .u64 yc) ∧ u.cell? ⟨tb, tq + (m + 1) * 4 + 3, none⟩ = some (.int .i64 yd)))) (by kernel_rfl) ?_ (fun hHeld => ?_)
          · exact ⟨HAB.out, C0.out, C1.out, C2.out, C3.out, D0.out, D1.out, D2.out, D3.out⟩
          refine wpAnyH_take (i := 0) (oi := { dst := some 96, op := Op.move (Operand.tmp 5), type := 23, pos := "law.go:145", after := #[], guard := none }) (v := (.slice (some ⟨tb, tq, none⟩) T.length tc)) rfl (by kernel_rfl) (by kernel_rfl) (by kernel_rfl) (fun _ _ _ h => h) (Or.inl ⟨by rfl, ?_⟩) hHeld ?_
          · rintro u ⟨h0, p0, p1, p2, p3, q0, q1, q2, q3⟩
            go_simp <;> first | rfl | kernel_rfl
          try simp only [Act.put, List.setIfInBounds_toArray, List.set_cons_zero, List.set_cons_succ]
          refine wpAnyH_take (i := 1) (oi := { dst := some 97, op := Op.move (Operand.tmp 12), type := 3, pos := "law.go:145", after := #[], guard := none }) (v := (.int .i64 ((m + 1 : Nat) : Int))) rfl (by kernel_rfl) (by kernel_rfl) (by kernel_rfl) (fun _ _ _ h => h) (Or.inl ⟨by rfl, ?_⟩) hHeld ?_
          · rintro u ⟨h0, p0, p1, p2, p3, q0, q1, q2, q3⟩
            go_simp <;> first | rfl | kernel_rfl
          try simp only [Act.put, List.setIfInBounds_toArray, List.set_cons_zero, List.set_cons_succ]
          refine wpAnyH_take (i := 2) (oi := { dst := some 98, op := Op.binOp BinOp.sub 3 (Operand.tmp 97) (Operand.const (Value.int IntKind.i64 1)) 3, type := 3, pos := "law.go:145", after := #[{ on := 1, ground := Ground.data }], guard := none }) (v := (.int .i64 (m : Int))) rfl (by kernel_rfl) (by kernel_rfl) (by kernel_rfl) (fun _ _ _ h => h) (Or.inl ⟨by rfl, ?_⟩) hHeld ?_
          · rintro u ⟨h0, p0, p1, p2, p3, q0, q1, q2, q3⟩
            go_simp <;> first | exact hw1 | (simp [hw1]) | omega | rfl
          try simp only [Act.put, List.setIfInBounds_toArray, List.set_cons_zero, List.set_cons_succ]
          refine wpAnyH_take (i := 3) (oi := { dst := some 99, op := Op.indexAddr 23 (Operand.tmp 96) (Operand.tmp 98), type := 0, pos := "law.go:145", after := #[{ on := 0, ground := Ground.data }, { on := 2, ground := Ground.data }], guard := none }) (v := (.pointer (some ⟨tb, tq + m * 4, none⟩))) rfl (by kernel_rfl) (by kernel_rfl) (by kernel_rfl) (fun _ _ _ h => h) (Or.inl ⟨by rfl, ?_⟩) hHeld ?_
          · rintro u ⟨h0, p0, p1, p2, p3, q0, q1, q2, q3⟩
            go_simp <;> first | omega | rfl | kernel_rfl
          try simp only [Act.put, List.setIfInBounds_toArray, List.set_cons_zero, List.set_cons_succ]
          refine wpAnyH_take (i := 4) (oi := { dst := some 100, op := Op.load 67 (Operand.tmp 99), type := 67, pos := "law.go:145", after := #[{ on := 3, ground := Ground.data }], guard := none }) (v := (.agg #[.int .i64 xa, .int .u64 xb, .int .u64 xc, .int .i64 xd])) rfl (by kernel_rfl) (by kernel_rfl) (by kernel_rfl) (fun _ _ _ h => h) (Or.inl ⟨by rfl, ?_⟩) hHeld ?_
          · rintro u ⟨h0, p0, p1, p2, p3, q0, q1, q2, q3⟩
            go_simp <;> first | rfl | kernel_rfl
          try simp only [Act.put, List.setIfInBounds_toArray, List.set_cons_zero, List.set_cons_succ]
          refine wpAnyH_take (i := 5) (oi := { dst := some 101, op := Op.move (Operand.tmp 5), type := 23, pos := "law.go:145", after := #[], guard := none }) (v := (.slice (some ⟨tb, tq, none⟩) T.length tc)) rfl (by kernel_rfl) (by kernel_rfl) (by kernel_rfl) (fun _ _ _ h => h) (Or.inl ⟨by rfl, ?_⟩) hHeld ?_
          · rintro u ⟨h0, p0, p1, p2, p3, q0, q1, q2, q3⟩
            go_simp <;> first | rfl | kernel_rfl
          try simp only [Act.put, List.setIfInBounds_toArray, List.set_cons_zero, List.set_cons_succ]
          refine wpAnyH_take (i := 6) (oi := { dst := some 102, op := Op.move (Operand.tmp 12), type := 3, pos := "law.go:145", after := #[], guard := none }) (v := (.int .i64 ((m + 1 : Nat) : Int))) rfl (by kernel_rfl) (by kernel_rfl) (by kernel_rfl) (fun _ _ _ h => h) (Or.inl ⟨by rfl, ?_⟩) hHeld ?_
          · rintro u ⟨h0, p0, p1, p2, p3, q0, q1, q2, q3⟩
            go_simp <;> first | omega | rfl | kernel_rfl
          try simp only [Act.put, List.setIfInBounds_toArray, List.set_cons_zero, List.set_cons_succ]
          refine wpAnyH_take (i := 7) (oi := { dst := some 103, op := Op.indexAddr 23 (Operand.tmp 101) (Operand.tmp 102), type := 0, pos := "law.go:145", after := #[{ on := 5, ground := Ground.data }, { on := 6, ground := Ground.data }], guard := none }) (v := (.pointer (some ⟨tb, tq + (m + 1) * 4, none⟩))) rfl (by kernel_rfl) (by kernel_rfl) (by kernel_rfl) (fun _ _ _ h => h) (Or.inl ⟨by rfl, ?_⟩) hHeld ?_
          · rintro u ⟨h0, p0, p1, p2, p3, q0, q1, q2, q3⟩
            go_simp <;> first | omega | rfl | kernel_rfl
          try simp only [Act.put, List.setIfInBounds_toArray, List.set_cons_zero, List.set_cons_succ]
          refine wpAnyH_take (i := 8) (oi := { dst := some 104, op := Op.load 67 (Operand.tmp 103), type := 67, pos := "law.go:145", after := #[{ on := 7, ground := Ground.data }], guard := none }) (v := (.agg #[.int .i64 ya, .int .u64 yb, .int .u64 yc, .int .i64 yd])) rfl (by kernel_rfl) (by kernel_rfl) (by kernel_rfl) (fun _ _ _ h => h) (Or.inl ⟨by rfl, ?_⟩) hHeld ?_
          · rintro u ⟨h0, p0, p1, p2, p3, q0, q1, q2, q3⟩
            go_simp <;> first | rfl | kernel_rfl
          try simp only [Act.put, List.setIfInBounds_toArray, List.set_cons_zero, List.set_cons_succ]
          refine wpAnyH_ready (rs := [9]) (by kernel_rfl) (by simp) ?_
          refine AllReadyH.cons (o := { dst := some 105, op := Op.call { callee := Callee.value (Operand.func 29), args := #[Operand.tmp 100, Operand.tmp 104], argTypes := #[67, 67] }, type := 4, pos := "law.go:145", after := #[{ on := 4, ground := Ground.data }, { on := 8, ground := Ground.data }], guard := none }) rfl (fun Kq hKq => ?_) AllReadyH.nil
          go_simp
          refine (KL.out _).mono ?_
          rintro _ Z1 ⟨rfl, hb1⟩
          go_simp
          refine hKq.out _ _ (⟨Nat.lt_of_lt_of_le HAB.out hb1.size, (by rw [hb1.cell (p := ⟨tb, tq + m * 4, none⟩) HAB.out]; exact C0.out), (by rw [hb1.cell (p := ⟨tb, tq + m * 4 + 1, none⟩) HAB.out]; exact C1.out), (by rw [hb1.cell (p := ⟨tb, tq + m * 4 + 2, none⟩) HAB.out]; exact C2.out), (by rw [hb1.cell (p := ⟨tb, tq + m * 4 + 3, none⟩) HAB.out]; exact C3.out), (by rw [hb1.cell (p := ⟨tb, tq + (m + 1) * 4, none⟩) HAB.out]; exact D0.out), (by rw [hb1.cell (p := ⟨tb, tq + (m + 1) * 4 + 1, none⟩) HAB.out]; exact D1.out), (by rw [hb1.cell (p := ⟨tb, tq + (m + 1) * 4 + 2, none⟩) HAB.out]; exact D2.out), (by rw [hb1.cell (p := ⟨tb, tq + (m + 1) * 4 + 3, none⟩) HAB.out]; exact D3.out)⟩) (fun hHeld9 => ?_)
          clear hKq Kq
          try simp only [Act.put, List.setIfInBounds_toArray, List.set_cons_zero, List.set_cons_succ]
          refine wpAnyH_take (i := 10) (oi := { dst := some 106, op := Op.unOp UnOp.not 4 (Operand.tmp 105), type := 4, pos := "law.go:145", after := #[{ on := 9, ground := Ground.data }], guard := none }) (v := (.bool false)) rfl (by kernel_rfl) (by kernel_rfl) (by kernel_rfl) (fun _ _ _ h => h) (Or.inl ⟨by rfl, ?_⟩) hHeld9 ?_
          · rintro u ⟨h0, p0, p1, p2, p3, q0, q1, q2, q3⟩
            go_simp <;> first | rfl | kernel_rfl
          try simp only [Act.put, List.setIfInBounds_toArray, List.set_cons_zero, List.set_cons_succ]
          have hHeldE := hHeld9
          refine wpAnyH_done (by kernel_rfl) ?_ _
          have HB2 : Hid (Below w.heap.size w Z1) := HB.out.drew.trans (hb1.mono HB.out.size)
          have HT2 : Hid (Lns Z1 (some ⟨tb, tq, none⟩) T) := Lns.later (w := wr.drew) HT.out hb1
          clear hb1 HB HT C0 C1 C2 C3 D0 D1 D2 D3 hHeldE KL l4 hw1
          go_wp2_with fail
          have hlt := HLTT.out
          have hkx := HKX.out
          go_roundg (T.length - (m + 1 + 1))
          case measure => omega
          case rel => exact ⟨m + 1 + 1, by simp, by omega, HB2, HT2, by omega⟩
        · clear hkx HT7
          go_upto_region 21 with (fail)
          have HBX := HB
          have HTX := HT
          clear HB HT hlt hi1
          generalize wr = wq at HBX HTX ⊢
          go_loopg [13] L.length (fun kx s13 wr => ∃ i : Nat, s13 = .int .i64 (i : Int) ∧ i ≤ L.length ∧ Hid (Below wq.heap.size wq wr) ∧ L.length ≤ i + kx)
          case atStart => exact ⟨0, rfl, Nat.zero_le _, Below.refl _ _, by omega⟩
          case round =>
            obtain ⟨i, rfl, hi9, HB, hkx⟩ := hrel
            have HBW : Hid (Below w.heap.size w wr) := HBX.out.trans (HB.out.mono HBX.out.size)
            by_cases hlt : i < L.length
            · have HAT : Hid (∀ u, Below wr.heap.size wr u → ∀ k v, L[i].cells[k]? = some v → u.cell? ⟨ab, ao + i * 4 + k, none⟩ = some v) := fun u hu k v hv => by
                obtain ⟨b, o, h1, _, h3⟩ := (H.out.1.later (HBW.out.trans (hu.mono HBW.out.size))) i hlt
                injection h1 with h1
                injection h1 with e1 e2 _
                subst e1 e2
                exact h3 k v hv
              have HFT := fits_fit (tok_fit HTK.out _ (List.getElem_mem hlt))
              have K1 : Hid (∀ u, Below wr.heap.size wr u → Calls Try.prog 30 #[.slice (some ⟨ab, ao, none⟩) L.length cap, L[i].val] u (OfRes (ksum L L[i].key) u)) := fun u hu => by
                have := of_c L (some ⟨ab, ao, none⟩) cap L[i] u (H.out.1.later (HBW.out.trans (hu.mono HBW.out.size))) HI.out (by have := HSM.out; omega)
                unfold Told at this
                rw [HFT.1, HFT.2] at this
                exact this
              have K2 : Hid (∀ u, Below wr.heap.size wr u → Calls Try.prog 30 #[.slice ta T.length tc, L[i].val] u (OfRes (ksum L L[i].key) u)) := fun u hu => by
                have := of_c T ta tc L[i] u (HTX.out.later (HB.out.trans (hu.mono HB.out.size))) (tidied_fit HTD.out HTK.out) (by have := HTS.out; omega)
                unfold Told at this
                rw [HTD.out.sum, HFT.1, HFT.2] at this
                exact this
              obtain ⟨x, hx⟩ : ∃ x, x = L[i] := ⟨_, rfl⟩
              rw [← hx] at HAT K1 K2
              have l0 : (0 : Int) ≤ (i : Int) := by omega
              have l1 : (i : Int) < (L.length : Int) := by omega
              have l3 : L.length ≤ 60 := HSM.out
              have HLTT := Lib.hid hlt
              have HKX := Lib.hid hkx
              clear hx hlt hkx HFT
              generalize ksum L x.key = n at K1 K2
              obtain ⟨xa, xb, xc, xd⟩ := x
              unfold Ln.val OfRes at K1 K2
              simp only at K1 K2
              have c0 : wr.cell? ⟨ab, ao + i * 4, none⟩ = some (.int .i64 xa) := HAT.out wr (Below.refl _ _) 0 _ rfl
              have c1 : wr.cell? ⟨ab, ao + i * 4 + 1, none⟩ = some (.int .u64 xb) := HAT.out wr (Below.refl _ _) 1 _ rfl
              have c2 : wr.cell? ⟨ab, ao + i * 4 + 2, none⟩ = some (.int .u64 xc) := HAT.out wr (Below.refl _ _) 2 _ rfl
              have c3 : wr.cell? ⟨ab, ao + i * 4 + 3, none⟩ = some (.int .i64 xd) := HAT.out wr (Below.refl _ _) 3 _ rfl
              go_wp2_with fail
              refine (K1.out wr (Below.refl _ _)).mono ?_
              rintro _ Y1 ⟨rfl, hy1⟩
              have HY1 := Lib.hid hy1
              clear c0 c1 c2 c3 K1 hy1
              have c0 : Y1.cell? ⟨ab, ao + i * 4, none⟩ = some (.int .i64 xa) := HAT.out Y1 HY1.out 0 _ rfl
              have c1 : Y1.cell? ⟨ab, ao + i * 4 + 1, none⟩ = some (.int .u64 xb) := HAT.out Y1 HY1.out 1 _ rfl
              have c2 : Y1.cell? ⟨ab, ao + i * 4 + 2, none⟩ = some (.int .u64 xc) := HAT.out Y1 HY1.out 2 _ rfl
              have c3 : Y1.cell? ⟨ab, ao + i * 4 + 3, none⟩ = some (.int .i64 xd) := HAT.out Y1 HY1.out 3 _ rfl
              go_wp2_with fail
              refine (K2.out Y1 HY1.out).mono ?_
              rintro _ Y2 ⟨rfl, hy2⟩
              have HB2 : Hid (Below wq.heap.size wq Y2) := (HB.out.trans (HY1.out.mono HB.out.size)).trans (hy2.mono (HB.out.trans (HY1.out.mono HB.out.size)).size)
              clear c0 c1 c2 c3 K2 hy2 HAT HY1 HBW HB
              go_wp2_with fail
              have hlt := HLTT.out
              have hkx := HKX.out
              go_roundg (L.length - (i + 1))
              case measure => omega
              case rel => exact ⟨i + 1, by simp, by omega, HB2, by omega⟩
            · obtain rfl : i = L.length := by omega
              clear hkx hlt hi9
              go_wp2_with fail
              refine (KH.out _).mono ?_
              rintro _ w9 ⟨rfl, hb9⟩
              have HB9 : Hid (Below w.heap.size w w9) := HBW.out.trans (hb9.mono HBW.out.size)
              clear hb9
              go_wp2_with fail
              go_ret
              exact ⟨rfl, HB9.out⟩
  · subst he
    go_wp2_with fail
    refine (KH.out _).mono ?_
    rintro _ w9 ⟨rfl, hb9⟩
    have HB9 : Hid (Below w.heap.size w w9) := HB1.out.trans (hb9.mono HB1.out.size)
    clear hb9
    go_wp2_with fail
    go_ret
    exact ⟨rfl, HB9.out⟩
end
end Go.Proofs.Ytnblilonjpfdnaa.Jn
