/- Package journal: sums of rows; Check. -/
import Derived.Test.YtnblilonjpfdnaaJnAmt
import Derived.Test.YtnblilonjpfdnaaJaD
namespace Go.Proofs.Ytnblilonjpfdnaa.Jn
open Go Go.RowKit Ck
abbrev TEn : TypeId := 25
def I64 (n : Int) : Prop := -9223372036854775808 ≤ n ∧ n ≤ 9223372036854775807
theorem own_cells {base : Nat} {u : World} {v : Value} {l : List Int} (h : u.ownsRow base TI64 1 v l.length (l.map iv)) : (v = .slice none 0 0 ∧ l = []) ∨ ∃ b cap, v = .slice (some ⟨b, 0, none⟩) l.length cap ∧ b < u.heap.size ∧ ∀ j, j < l.length → u.cell? ⟨b, 0 + j, none⟩ = some (.int .i64 (l.getD j 0)) := by
  rcases h.2 with ⟨rfl, h0⟩ | ⟨g, cap, cur, rfl, _, hg, hc, _, _, ht⟩
  · exact .inl ⟨rfl, List.length_eq_zero_iff.1 h0⟩
  · refine .inr ⟨g, cap, rfl, (Array.getElem?_eq_some_iff.1 hg).1, fun j hj => ?_⟩
    have h1 : (l.map iv)[j]? = some (.int .i64 (l.getD j 0)) := by simp [hj]
    have := congrArg (fun l => l[j]?) ht
    rw [List.getElem?_take_of_lt (by omega), h1] at this
    simp only [World.cell?, hg, Nat.zero_add]
    simpa using this
theorem sum_any (l : List Int) (v : Value) (base : Nat) (w : World) (h : w.ownsRow base TI64 1 v l.length (l.map iv)) (hI : ∀ x ∈ l, I64 x) (hl : l.length ≤ 1000000) : Calls Try.prog 41 #[v] w (Told l.sum w) := by
  rcases own_cells h with ⟨rfl, rfl⟩ | ⟨b, cap, rfl, hb, hc⟩
  · exact sum_0 none 0 w
  · have := sum_c b 0 l.length cap l w hb (Nat.le_refl _) (by omega) hI hc
    rwa [List.take_length] at this
theorem rsum_any (l : List Int) (v : Value) (base : Nat) (w : World) (h : w.ownsRow base TI64 1 v l.length (l.map iv)) (hI : ∀ x ∈ l, I64 x) (hl : l.length ≤ 300) : Calls Try.prog 80 #[v] w (Told l.sum w) := by
  rcases own_cells h with ⟨rfl, rfl⟩ | ⟨b, cap, rfl, hb, hc⟩
  · exact rsum_0 none 0 w
  · have := rsum_c b 0 l.length cap l w (Nat.le_refl _) (by omega) hI hc
    rwa [List.take_length] at this
theorem picked_all (L : List Ln) : picked pAll L = L.map Ln.amt := by unfold picked; exact List.filter_eq_self.2 fun _ _ => rfl
theorem okB_amt {x : Ln} (h : x.okB = true) : x.amt ≠ 0 ∧ -4611686018427387904 ≤ x.amt ∧ x.amt ≤ 4611686018427387904 ∧ 1 ≤ x.acc ∧ x.acc ≤ 9999 := by
  unfold Ln.okB fitB at h
  simp at h
  omega
def sumL (L : List Ln) : Int := (L.map Ln.amt).sum
theorem picked_i64 {p : Int → Bool} {L : List Ln} (h : L.all Ln.okB = true) : ∀ x ∈ picked p L, I64 x := by
  intro x hx
  unfold picked at hx
  have h1 := (List.mem_filter.1 hx).1
  obtain ⟨y, hy, rfl⟩ := List.mem_map.1 h1
  have := okB_amt (List.all_eq_true.1 h y hy)
  unfold I64
  omega
/-- What Check says. -/
def badB (d k : Int) (L : List Ln) : Bool := !(dayB d) || (k == 0) || decide (L.length < 2) || decide (64 < L.length)
def chkM (d k : Int) (L : List Ln) : Int := if badB d k L = true ∨ L.all Ln.okB = false then 2 else if sumL L ≠ 0 then 200 else 0
theorem ret_int {z r : Int} (h : r = z) : Ending.returned (.int .i64 z) = Ending.returned (.int .i64 r) := by rw [h]
theorem ok_val {n : Int} (h : n = 0) : Ar.ok n = true ∧ Ar.val n = 0 := by subst h; exact ⟨by decide, by decide⟩
theorem ok_val' {n : Int} (_ : n ≠ 0) : Ar.ok n = false ∨ (Ar.ok n = true ∧ Ar.val n = n) := by
  by_cases h1 : Ar.Fits n
  · exact .inr ⟨decide_eq_true h1, if_pos h1⟩
  · exact .inl (decide_eq_false h1)
section
set_option maxRecDepth 100000
set_option maxHeartbeats 1600000
theorem check_c (d k s : Int) (L : List Ln) (a : Option Addr) (cap : Nat) (w : World) (h : Lns w a L) (hl : L.length ≤ 1000000) : Calls Try.prog 16 #[.agg #[.int .i64 d, .int .u8 k, .int .u64 s, .slice a L.length cap]] w fun e w' => e = .returned (.int .i64 (chkM d k L)) ∧ Below w.heap.size w w' := by
  have H := Lib.hid h
  obtain ⟨r, hr⟩ : ∃ r, r = chkM d k L := ⟨_, rfl⟩
  rw [← hr]
  have HR := Lib.hid hr
  have KD : Hid (∀ u, Calls Try.prog 46 #[.int .i64 d] u fun e w' => e = .returned (.bool (dayB d)) ∧ u = w') := fun u => day_c d u
  have HB : Hid (Below w.heap.size w (w.alloc (.cells #[.int .i64 d, .int .u8 k, .int .u64 s, .slice a L.length cap] TEn))) := (Below.refl _ w).alloc (Nat.le_refl _) _
  have HL := Lib.hid hl
  clear h hr hl
  cases hd : dayB d with
  | false =>
    rw [hd] at KD
    have HD := Lib.hid hd
    clear hd
    go_enter Try.func16, Try.ntmps16
    go_wp2_with fail
    refine (KD.out _).mono ?_
    rintro _ _ ⟨rfl, rfl⟩
    go_wp2_with fail
    go_ret
    exact ⟨ret_int (z := 2) (by rw [HR.out]; unfold chkM; rw [if_pos (.inl (by unfold badB; simp [HD.out]))]), HB.out⟩
  | true =>
    rw [hd] at KD
    have HD := Lib.hid hd
    clear hd
    by_cases hk : k = 0
    · subst hk
      go_enter Try.func16, Try.ntmps16
      go_wp2_with fail
      refine (KD.out _).mono ?_
      rintro _ _ ⟨rfl, rfl⟩
      go_wp2_with fail
      go_ret
      exact ⟨ret_int (z := 2) (by rw [HR.out]; unfold chkM; rw [if_pos (.inl (by unfold badB; simp))]), HB.out⟩
    have hk1 : (k == 0) = false := beq_eq_false_iff_ne.2 hk
    clear hk
    by_cases h2 : (L.length : Int) < 2
    · have HX := Lib.hid h2
      go_enter Try.func16, Try.ntmps16
      go_wp2_with fail
      refine (KD.out _).mono ?_
      rintro _ _ ⟨rfl, rfl⟩
      go_wp2_with fail
      go_ret
      exact ⟨ret_int (z := 2) (by rw [HR.out]; unfold chkM; rw [if_pos (.inl (by unfold badB; have := HX.out; simp; omega))]), HB.out⟩
    by_cases h6 : 64 < (L.length : Int)
    · have HX := Lib.hid h6
      go_enter Try.func16, Try.ntmps16
      go_wp2_with fail
      refine (KD.out _).mono ?_
      rintro _ _ ⟨rfl, rfl⟩
      go_wp2_with fail
      go_ret
      exact ⟨ret_int (z := 2) (by rw [HR.out]; unfold chkM; rw [if_pos (.inl (by unfold badB; have := HX.out; simp; omega))]), HB.out⟩
    have HG : Hid (badB d k L = false) := by
      show _ = _
      unfold badB
      rw [HD.out, hk1]
      simp
      omega
    clear HD
    have hl64 : (L.length : Int) ≤ 64 := by omega
    go_enter Try.func16, Try.ntmps16
    go_wp2_with fail
    refine (KD.out _).mono ?_
    rintro _ _ ⟨rfl, rfl⟩
    go_upto_region 3 with (fail)
    have RX : Hid (Rw (w.alloc (.cells #[.int .i64 d, .int .u8 k, .int .u64 s, .slice a L.length cap] TEn)) w.heap.size TEn [.int .i64 d, .int .u8 k, .int .u64 s, .slice a L.length cap]) := Rw.new w [.int .i64 d, .int .u8 k, .int .u64 s, .slice a L.length cap] TEn
    have HW := Lib.hid (H.out.later ((Below.refl w.heap.size w).alloc (Nat.le_refl _) (.cells #[.int .i64 d, .int .u8 k, .int .u64 s, .slice a L.length cap] TEn)))
    generalize w.alloc (.cells #[.int .i64 d, .int .u8 k, .int .u64 s, .slice a L.length cap] TEn) = W at HB RX HW ⊢
    have e3 : W.cell? ⟨w.heap.size, 3, none⟩ = some (.slice a L.length cap) := RX.out.cell 3
    clear KD H h2 h6
    go_upto_region 4 with (fail)
    clear e3
    go_loopg [32] L.length (fun kx s32 wr => ∃ i : Nat, s32 = .int .i64 (i : Int) ∧ i ≤ L.length ∧ Hid (∀ j (h : j < L.length), j < i → L[j].okB = true) ∧ Hid (Below W.heap.size W wr) ∧ L.length ≤ i + kx)
    case atStart => exact ⟨0, rfl, Nat.zero_le _, fun j _ hj => by omega, Below.refl _ _, by omega⟩
    case round =>
      obtain ⟨i, rfl, hi9, HJ, HC, hkx⟩ := hrel
      have hs := HC.out.size
      by_cases hlt : i < L.length
      · obtain ⟨ab, ao, rfl, _, hc⟩ := (HW.out.later HC.out) i hlt
        have c0 := hc 0 _ rfl
        have c1 := hc 1 _ rfl
        have c2 := hc 2 _ rfl
        have c3 := hc 3 _ rfl
        obtain ⟨x, hx⟩ : ∃ x, x = L[i] := ⟨_, rfl⟩
        rw [← hx] at c0 c1 c2 c3
        have j0 : (0 : Int) ≤ (i : Int) := by omega
        have j1 : (i : Int) < (L.length : Int) := by omega
        rw [Nat.add_zero] at c0
        have HN : Hid (∀ h : i < L.length, x = L[i]) := fun _ => hx
        have HLT := Lib.hid hlt
        have HKX := Lib.hid hkx
        clear hc hx hlt hkx
        obtain ⟨xa, xb, xc, xd⟩ := x
        simp only at c0 c1 c2 c3
        have KL : Hid (∀ u, Calls Try.prog 48 #[.agg #[.int .i64 xa, .int .u64 xb, .int .u64 xc, .int .i64 xd]] u fun e w' => e = .returned (.bool (Ln.mk xa xb xc xd).okB) ∧ Below u.heap.size u w') := fun u => line_c ⟨xa, xb, xc, xd⟩ u
        obtain ⟨q, hq⟩ : ∃ q, q = (Ln.mk xa xb xc xd).okB := ⟨_, rfl⟩
        rw [← hq] at KL
        have HQ := Lib.hid hq
        clear hq
        go_wp2_with fail
        refine (KL.out _).mono ?_
        rintro _ w2 ⟨rfl, hb2⟩
        have HC2 : Hid (Below W.heap.size W w2) := by
          refine (HC.out.alloc hs _).trans (hb2.mono (by simp; omega))
        clear KL hb2 c0 c1 c2 c3 HC
        cases q with
        | false =>
          go_wp2_with fail
          go_ret
          refine ⟨ret_int (z := 2) ?_, HB.out.trans (HC2.out.mono HB.out.size)⟩
          rw [HR.out]
          unfold chkM
          rw [if_pos]
          right
          refine List.all_eq_false.2 ⟨L[i]'HLT.out, List.getElem_mem _, ?_⟩
          rw [← HN.out HLT.out, ← HQ.out]
          decide
        | true =>
          have HJ2 : Hid (∀ j (h : j < L.length), j < i + 1 → L[j].okB = true) := fun j hj hji => by
            by_cases e : j = i
            · subst e; rw [← HN.out hj]; exact HQ.out.symm
            · exact HJ.out j hj (by omega)
          go_wp2_with fail
          have hlt := HLT.out
          have hkx := HKX.out
          go_roundg (L.length - (i + 1))
          case measure => omega
          case rel => exact ⟨i + 1, by simp, by omega, HJ2, HC2, by omega⟩
      · obtain rfl : i = L.length := by omega
        clear hkx hlt hi9
        have HA : Hid (L.all Ln.okB = true) := List.all_eq_true.2 fun x hx => by
          obtain ⟨j, hj, rfl⟩ := List.getElem_of_mem hx
          exact HJ.out j hj hj
        have e3 : wr.cell? ⟨w.heap.size, 3, none⟩ = some (.slice a L.length cap) := (RX.out.later HC.out).cell 3
        have KA := Lib.hid (amounts_all L a cap wr (HW.out.later HC.out) HL.out)
        rw [picked_all] at KA
        go_wp2_with fail
        refine KA.out.mono ?_
        rintro _ w2 ⟨v, rfl, hown, hb2⟩
        have KS := Lib.hid (sum_any _ v _ w2 hown (by rw [← picked_all]; exact picked_i64 HA.out) (by have := HL.out; simpa using this))
        obtain ⟨va, vc, hv⟩ := own_form hown
        rw [List.length_map] at hv
        subst hv
        have HC2 : Hid (Below w.heap.size w w2) := HB.out.trans ((HC.out.trans (hb2.mono hs)).mono HB.out.size)
        clear KA hown hb2 e3 HC
        go_wp2_with fail
        refine KS.out.mono ?_
        rintro _ w3 ⟨rfl, hb3⟩
        have HC3 : Hid (Below w.heap.size w w3) := HC2.out.trans (hb3.mono HC2.out.size)
        clear KS hb3 HC2
        have HRR : Hid (r = if sumL L ≠ 0 then 200 else 0) := by
          show _ = _
          rw [HR.out]
          unfold chkM
          rw [if_neg]
          rw [HG.out, HA.out]
          decide
        unfold sumL at HRR
        generalize (L.map Ln.amt).sum = n at HRR ⊢
        by_cases hn : n = 0
        · obtain ⟨z1, z2⟩ := ok_val hn
          rw [z1, z2]
          have HR2 : Hid (r = 0) := by show _ = _; rw [HRR.out, if_neg (by simp [hn])]
          clear hn z1 z2 HRR
          go_wp2_with fail
          go_ret
          exact ⟨ret_int HR2.out, HC3.out⟩
        · have HR2 : Hid (r = 200) := by show _ = _; rw [HRR.out, if_pos hn]
          rcases ok_val' hn with z1 | ⟨z1, z2⟩
          · rw [z1]
            generalize Ar.val n = m
            clear hn z1 HRR
            go_wp2_with fail
            go_ret
            exact ⟨ret_int HR2.out, HC3.out⟩
          · rw [z1, z2]
            have hn1 : (n == 0) = false := beq_eq_false_iff_ne.2 hn
            have hn2 : (n != 0) = true := by simpa using hn
            clear hn z1 z2 HRR
            go_wp2_with fail
            go_ret
            exact ⟨ret_int HR2.out, HC3.out⟩
end
end Go.Proofs.Ytnblilonjpfdnaa.Jn
