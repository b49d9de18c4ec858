/- Package journal: the closures of Get. -/
import Derived.Test.YtnblilonjpfdnaaJnGetM
namespace Go.Proofs.Ytnblilonjpfdnaa.Jn
open Go Go.RowKit Ck
abbrev TStr : TypeId := 9
abbrev TBl : TypeId := 4
def NumR (lim b1 b4 : Nat) (r : List UInt8) (is : Bool) (w : World) (e : Ending) (w' : World) : Prop := e = .returned (.int .u64 (if (is && isN lim (Ta.take 0 r)) = true then (nOf (Ta.take 0 r) : Int) else 0)) ∧ Rw w' b1 TStr [.string (bs (rOf (Ta.take 0 r)))] ∧ Rw w' b4 TBl [.bool (is && isN lim (Ta.take 0 r))] ∧ Keeps (fun j => j = b1 ∨ j = b4) w w'
def AmtR (b1 b4 : Nat) (r : List UInt8) (is : Bool) (w : World) (e : Ending) (w' : World) : Prop := e = .returned (.int .i64 (Tal.unz (nOf (Ta.take 0 r)))) ∧ Rw w' b1 TStr [.string (bs (rOf (Ta.take 0 r)))] ∧ Rw w' b4 TBl [.bool (is && (Ta.take 0 r).isSome)] ∧ Keeps (fun j => j = b1 ∨ j = b4) w w'
theorem bs_list (r : List UInt8) : (bs r).data.toList = r := by unfold bs; simp
theorem ret_u64 {z r : Int} (h : r = z) : Ending.returned (.int .u64 z) = Ending.returned (.int .u64 r) := by rw [h]
section
variable {b1 b4 : Nat} {w w1 : World} {T : Nat → Prop}
theorem two_sets {x y : Value} (hne : b1 ≠ b4) {x0 y0 : Value} (h1 : Rw w1 b1 TStr [x0]) (h4 : Rw w1 b4 TBl [y0]) (hb : Below w.heap.size w w1) (_ : b1 < w.heap.size) (_ : b4 < w.heap.size) : Rw ((w1.setCell ⟨b1, 0, none⟩ x).setCell ⟨b4, 0, none⟩ y) b1 TStr [x] ∧ Rw ((w1.setCell ⟨b1, 0, none⟩ x).setCell ⟨b4, 0, none⟩ y) b4 TBl [y] ∧ Keeps (fun j => j = b1 ∨ j = b4) w ((w1.setCell ⟨b1, 0, none⟩ x).setCell ⟨b4, 0, none⟩ y) := by
  have a1 : Rw (w1.setCell ⟨b1, 0, none⟩ x) b1 TStr [x] := h1.setCell 0 x
  have a4 := h4.otherCell b1 0 x (Ne.symm hne)
  refine ⟨a1.otherCell b4 0 y hne, a4.setCell 0 y, ?_⟩
  have k0 : Keeps (fun j => j = b1 ∨ j = b4) w1 ((w1.setCell ⟨b1, 0, none⟩ x).setCell ⟨b4, 0, none⟩ y) := ((Keeps.refl (fun j => j = b1 ∨ j = b4) w1).setCell b1 0 x (.inl (.inl rfl))).setCell b4 0 y (.inl (.inr rfl))
  exact (Keeps.of _ hb).trans k0
end
section
set_option maxRecDepth 100000
set_option maxHeartbeats 1600000
theorem number_c (lim : Nat) (b1 b4 : Nat) (hne : b1 ≠ b4) (r : List UInt8) (is : Bool) (w : World) (h1 : Rw w b1 TStr [.string (bs r)]) (h4 : Rw w b4 TBl [.bool is]) (hr : r.length ≤ maxLen) : Calls Try.prog 66 #[.int .u64 (lim : Int), .pointer (some ⟨b1, 0, none⟩), .pointer (some ⟨b4, 0, none⟩)] w (NumR lim b1 b4 r is w) := by
  have K : Hid (Calls Try.prog 67 #[.string (bs r)] w (Tal.NumRes (Ta.take 0 r) w)) := by
    have := Tal.takeNum_c (bs r) w (by rw [bs_size]; exact hr)
    rw [bs_list] at this
    exact this
  have H1 := Lib.hid h1
  have H4 := Lib.hid h4
  have HNE := Lib.hid hne
  have e1 : w.cell? ⟨b1, 0, none⟩ = some (.string (bs r)) := H1.out.cell 0
  clear h1 h4 hr hne
  obtain ⟨o, ho⟩ : ∃ o, o = Ta.take 0 r := ⟨_, rfl⟩
  rw [← ho] at K
  have HO : Hid (Ta.take 0 r = o) := ho.symm
  clear ho
  unfold NumR
  rw [HO.out]
  obtain ⟨rv, hrv⟩ : ∃ rv : Int, rv = if (is && isN lim o) = true then (nOf o : Int) else 0 := ⟨_, rfl⟩
  obtain ⟨nb, hnb⟩ : ∃ nb : Bool, nb = (is && isN lim o) := ⟨_, rfl⟩
  rw [← hrv, ← hnb]
  have HRV := Lib.hid hrv
  have HNB := Lib.hid hnb
  clear hrv hnb
  go_enter Try.func66, Try.ntmps66
  go_wp2_with fail
  refine K.out.mono ?_
  rintro _ w1 ⟨rfl, hb1⟩
  have HB := Lib.hid hb1
  have R1 := Lib.hid (H1.out.later hb1)
  have R4 := Lib.hid (H4.out.later hb1)
  have L1 := Lib.hid H1.out.lt
  have L4 := Lib.hid H4.out.lt
  clear e1 K hb1 H1 H4
  have e1 : w1.cell? ⟨b1, 0, none⟩ = some (.string (bs r)) := R1.out.cell 0
  have f1 : w1.frozen? ⟨b1, 0, none⟩ = false := R1.out.frozen 0
  have e4 : w1.cell? ⟨b4, 0, none⟩ = some (.bool is) := R4.out.cell 0
  have f4 : w1.frozen? ⟨b4, 0, none⟩ = false := R4.out.frozen 0
  have n14 : ¬ b1 = b4 := HNE.out
  have n41 : ¬ b4 = b1 := Ne.symm HNE.out
  cases o with
  | none =>
    cases is with
    | false =>
      have HS : Hid (Rw ((w1.setCell ⟨b1, 0, none⟩ (.string (bs []))).setCell ⟨b4, 0, none⟩ (.bool false)) b1 TStr [.string (bs [])] ∧ Rw ((w1.setCell ⟨b1, 0, none⟩ (.string (bs []))).setCell ⟨b4, 0, none⟩ (.bool false)) b4 TBl [.bool false] ∧ Keeps (fun j => j = b1 ∨ j = b4) w ((w1.setCell ⟨b1, 0, none⟩ (.string (bs []))).setCell ⟨b4, 0, none⟩ (.bool false))) := two_sets HNE.out R1.out R4.out HB.out L1.out L4.out
      go_upto_region 3 with (fail)
      try rw [show (⟨#[]⟩ : ByteArray) = bs [] from rfl]
      generalize (w1.setCell ⟨b1, 0, none⟩ (.string (bs []))).setCell ⟨b4, 0, none⟩ (.bool false) = w2 at HS ⊢
      clear e1 f1 e4 f4 R1 R4 n14 n41
      have e4 : w2.cell? ⟨b4, 0, none⟩ = some (.bool false) := HS.out.2.1.cell 0
      go_wp2_with fail
      go_ret
      exact ⟨by rw [HRV.out]; first | rfl | (rw [HN.out]; rfl), HS.out.1, by rw [HNB.out]; first | exact HS.out.2.1 | (rw [HN.out]; exact HS.out.2.1), HS.out.2.2⟩
    | true =>
      have HS : Hid (Rw ((w1.setCell ⟨b1, 0, none⟩ (.string (bs []))).setCell ⟨b4, 0, none⟩ (.bool false)) b1 TStr [.string (bs [])] ∧ Rw ((w1.setCell ⟨b1, 0, none⟩ (.string (bs []))).setCell ⟨b4, 0, none⟩ (.bool false)) b4 TBl [.bool false] ∧ Keeps (fun j => j = b1 ∨ j = b4) w ((w1.setCell ⟨b1, 0, none⟩ (.string (bs []))).setCell ⟨b4, 0, none⟩ (.bool false))) := two_sets HNE.out R1.out R4.out HB.out L1.out L4.out
      go_upto_region 3 with (fail)
      try rw [show (⟨#[]⟩ : ByteArray) = bs [] from rfl]
      generalize (w1.setCell ⟨b1, 0, none⟩ (.string (bs []))).setCell ⟨b4, 0, none⟩ (.bool false) = w2 at HS ⊢
      clear e1 f1 e4 f4 R1 R4 n14 n41
      have e4 : w2.cell? ⟨b4, 0, none⟩ = some (.bool false) := HS.out.2.1.cell 0
      go_wp2_with fail
      go_ret
      exact ⟨by rw [HRV.out]; first | rfl | (rw [HN.out]; rfl), HS.out.1, by rw [HNB.out]; first | exact HS.out.2.1 | (rw [HN.out]; exact HS.out.2.1), HS.out.2.2⟩
  | some x =>
    obtain ⟨n, t⟩ := x
    by_cases hn : n ≤ lim
    · have HN : Hid (isN lim (some (n, t)) = true) := decide_eq_true hn
      have hn1 : (n : Int) ≤ (lim : Int) := by omega
      clear hn
      cases is with
      | false =>
        have HS : Hid (Rw ((w1.setCell ⟨b1, 0, none⟩ (.string (bs t))).setCell ⟨b4, 0, none⟩ (.bool false)) b1 TStr [.string (bs t)] ∧ Rw ((w1.setCell ⟨b1, 0, none⟩ (.string (bs t))).setCell ⟨b4, 0, none⟩ (.bool false)) b4 TBl [.bool false] ∧ Keeps (fun j => j = b1 ∨ j = b4) w ((w1.setCell ⟨b1, 0, none⟩ (.string (bs t))).setCell ⟨b4, 0, none⟩ (.bool false))) := two_sets HNE.out R1.out R4.out HB.out L1.out L4.out
        go_upto_region 3 with (fail)
        rw [show (⟨(t : List UInt8).toArray⟩ : ByteArray) = bs t from rfl]
        generalize (w1.setCell ⟨b1, 0, none⟩ (.string (bs t))).setCell ⟨b4, 0, none⟩ (.bool false) = w2 at HS ⊢
        clear e1 f1 e4 f4 R1 R4 n14 n41
        have e4 : w2.cell? ⟨b4, 0, none⟩ = some (.bool false) := HS.out.2.1.cell 0
        go_wp2_with fail
        go_ret
        exact ⟨by rw [HRV.out]; first | rfl | (rw [HN.out]; rfl), HS.out.1, by rw [HNB.out]; first | exact HS.out.2.1 | (rw [HN.out]; exact HS.out.2.1), HS.out.2.2⟩
      | true =>
        have HS : Hid (Rw ((w1.setCell ⟨b1, 0, none⟩ (.string (bs t))).setCell ⟨b4, 0, none⟩ (.bool true)) b1 TStr [.string (bs t)] ∧ Rw ((w1.setCell ⟨b1, 0, none⟩ (.string (bs t))).setCell ⟨b4, 0, none⟩ (.bool true)) b4 TBl [.bool true] ∧ Keeps (fun j => j = b1 ∨ j = b4) w ((w1.setCell ⟨b1, 0, none⟩ (.string (bs t))).setCell ⟨b4, 0, none⟩ (.bool true))) := two_sets HNE.out R1.out R4.out HB.out L1.out L4.out
        go_upto_region 3 with (fail)
        rw [show (⟨(t : List UInt8).toArray⟩ : ByteArray) = bs t from rfl]
        generalize (w1.setCell ⟨b1, 0, none⟩ (.string (bs t))).setCell ⟨b4, 0, none⟩ (.bool true) = w2 at HS ⊢
        clear e1 f1 e4 f4 R1 R4 n14 n41
        have e4 : w2.cell? ⟨b4, 0, none⟩ = some (.bool true) := HS.out.2.1.cell 0
        go_wp2_with fail
        go_ret
        exact ⟨by rw [HRV.out]; first | rfl | (rw [HN.out]; rfl), HS.out.1, by rw [HNB.out]; first | exact HS.out.2.1 | (rw [HN.out]; exact HS.out.2.1), HS.out.2.2⟩
    · have HN : Hid (isN lim (some (n, t)) = false) := decide_eq_false hn
      have hn1 : ¬ (n : Int) ≤ (lim : Int) := by omega
      have hn2 : (lim : Int) < (n : Int) := by omega
      have hn3 : decide ((n : Int) ≤ (lim : Int)) = false := decide_eq_false hn1
      have hn4 : ¬ n ≤ lim := by omega
      have hn5 : decide (n ≤ lim) = false := decide_eq_false hn4
      clear hn
      cases is with
      | false =>
        have HS : Hid (Rw ((w1.setCell ⟨b1, 0, none⟩ (.string (bs t))).setCell ⟨b4, 0, none⟩ (.bool false)) b1 TStr [.string (bs t)] ∧ Rw ((w1.setCell ⟨b1, 0, none⟩ (.string (bs t))).setCell ⟨b4, 0, none⟩ (.bool false)) b4 TBl [.bool false] ∧ Keeps (fun j => j = b1 ∨ j = b4) w ((w1.setCell ⟨b1, 0, none⟩ (.string (bs t))).setCell ⟨b4, 0, none⟩ (.bool false))) := two_sets HNE.out R1.out R4.out HB.out L1.out L4.out
        go_upto_region 3 with (fail)
        rw [show (⟨(t : List UInt8).toArray⟩ : ByteArray) = bs t from rfl]
        generalize (w1.setCell ⟨b1, 0, none⟩ (.string (bs t))).setCell ⟨b4, 0, none⟩ (.bool false) = w2 at HS ⊢
        clear e1 f1 e4 f4 R1 R4 n14 n41
        have e4 : w2.cell? ⟨b4, 0, none⟩ = some (.bool false) := HS.out.2.1.cell 0
        go_wp2_with fail
        go_ret
        exact ⟨by rw [HRV.out]; first | rfl | (rw [HN.out]; rfl), HS.out.1, by rw [HNB.out]; first | exact HS.out.2.1 | (rw [HN.out]; exact HS.out.2.1), HS.out.2.2⟩
      | true =>
        have HS : Hid (Rw ((w1.setCell ⟨b1, 0, none⟩ (.string (bs t))).setCell ⟨b4, 0, none⟩ (.bool false)) b1 TStr [.string (bs t)] ∧ Rw ((w1.setCell ⟨b1, 0, none⟩ (.string (bs t))).setCell ⟨b4, 0, none⟩ (.bool false)) b4 TBl [.bool false] ∧ Keeps (fun j => j = b1 ∨ j = b4) w ((w1.setCell ⟨b1, 0, none⟩ (.string (bs t))).setCell ⟨b4, 0, none⟩ (.bool false))) := two_sets HNE.out R1.out R4.out HB.out L1.out L4.out
        go_upto_region 3 with (fail)
        rw [show (⟨(t : List UInt8).toArray⟩ : ByteArray) = bs t from rfl]
        generalize (w1.setCell ⟨b1, 0, none⟩ (.string (bs t))).setCell ⟨b4, 0, none⟩ (.bool false) = w2 at HS ⊢
        clear e1 f1 e4 f4 R1 R4 n14 n41
        have e4 : w2.cell? ⟨b4, 0, none⟩ = some (.bool false) := HS.out.2.1.cell 0
        go_wp2_with fail
        go_ret
        exact ⟨by rw [HRV.out]; first | rfl | (rw [HN.out]; rfl), HS.out.1, by rw [HNB.out]; first | exact HS.out.2.1 | (rw [HN.out]; exact HS.out.2.1), HS.out.2.2⟩
theorem amount_c (b1 b4 : Nat) (hne : b1 ≠ b4) (r : List UInt8) (is : Bool) (w : World) (h1 : Rw w b1 TStr [.string (bs r)]) (h4 : Rw w b4 TBl [.bool is]) (hr : r.length ≤ maxLen) : Calls Try.prog 68 #[.pointer (some ⟨b1, 0, none⟩), .pointer (some ⟨b4, 0, none⟩)] w (AmtR b1 b4 r is w) := by
  have K : Hid (Calls Try.prog 69 #[.string (bs r)] w (Tal.IntRes (Ta.take 0 r) w)) := by
    have := Tal.takeInt_c (bs r) w (by rw [bs_size]; exact hr)
    rw [bs_list] at this
    exact this
  have H1 := Lib.hid h1
  have H4 := Lib.hid h4
  have HNE := Lib.hid hne
  have e1 : w.cell? ⟨b1, 0, none⟩ = some (.string (bs r)) := H1.out.cell 0
  have hU : Tal.unz 0 = 0 := rfl
  have HU := Lib.hid hU
  clear h1 h4 hr hne hU
  obtain ⟨o, ho⟩ : ∃ o, o = Ta.take 0 r := ⟨_, rfl⟩
  rw [← ho] at K
  have HO : Hid (Ta.take 0 r = o) := ho.symm
  clear ho
  unfold AmtR
  rw [HO.out]
  obtain ⟨nb, hnb⟩ : ∃ nb : Bool, nb = (is && o.isSome) := ⟨_, rfl⟩
  obtain ⟨rv, hrv⟩ : ∃ rv : Int, rv = Tal.unz (nOf o) := ⟨_, rfl⟩
  rw [← hnb, ← hrv]
  have HNB := Lib.hid hnb
  have HRV := Lib.hid hrv
  clear hnb hrv
  have K2 : Hid (Calls Try.prog 69 #[.string (bs r)] w fun e w' => e = .returned (.tuple #[.int .i64 rv, .string (bs (rOf o)), .bool o.isSome]) ∧ Below w.heap.size w w') := by
    rw [HRV.out]
    refine K.out.mono ?_
    rintro e w' ⟨he, hb⟩
    refine ⟨?_, hb⟩
    rw [he]
    cases o <;> rfl
  clear K
  go_enter Try.func68, Try.ntmps68
  go_wp2_with fail
  refine K2.out.mono ?_
  rintro _ w1 ⟨rfl, hb1⟩
  have HB := Lib.hid hb1
  have R1 := Lib.hid (H1.out.later hb1)
  have R4 := Lib.hid (H4.out.later hb1)
  have L1 := Lib.hid H1.out.lt
  have L4 := Lib.hid H4.out.lt
  clear e1 K2 hb1 H1 H4
  have e1 : w1.cell? ⟨b1, 0, none⟩ = some (.string (bs r)) := R1.out.cell 0
  have f1 : w1.frozen? ⟨b1, 0, none⟩ = false := R1.out.frozen 0
  have e4 : w1.cell? ⟨b4, 0, none⟩ = some (.bool is) := R4.out.cell 0
  have f4 : w1.frozen? ⟨b4, 0, none⟩ = false := R4.out.frozen 0
  have n14 : ¬ b1 = b4 := HNE.out
  have n41 : ¬ b4 = b1 := Ne.symm HNE.out
  obtain ⟨r2, hr2⟩ : ∃ r2, r2 = rOf o := ⟨_, rfl⟩
  rw [← hr2]
  obtain ⟨sm, hsm⟩ : ∃ sm, sm = o.isSome := ⟨_, rfl⟩
  rw [← hsm]
  rw [← hsm] at HNB
  have HR2 := Lib.hid hr2
  clear hr2 hsm HRV HO HU
  have HS : Hid (∀ v : Bool, Rw ((w1.setCell ⟨b1, 0, none⟩ (.string (bs r2))).setCell ⟨b4, 0, none⟩ (.bool v)) b1 TStr [.string (bs r2)] ∧ Rw ((w1.setCell ⟨b1, 0, none⟩ (.string (bs r2))).setCell ⟨b4, 0, none⟩ (.bool v)) b4 TBl [.bool v] ∧ Keeps (fun j => j = b1 ∨ j = b4) w ((w1.setCell ⟨b1, 0, none⟩ (.string (bs r2))).setCell ⟨b4, 0, none⟩ (.bool v))) := fun v => two_sets HNE.out R1.out R4.out HB.out L1.out L4.out
  cases is <;> cases sm
  all_goals
    go_upto_region 3 with (fail)
    clear e1 f1 e4 f4 R1 R4 n14 n41
    go_wp2_with fail
    go_ret
    rw [HNB.out, ← HR2.out]
    exact ⟨rfl, HS.out _⟩
end
end Go.Proofs.Ytnblilonjpfdnaa.Jn
