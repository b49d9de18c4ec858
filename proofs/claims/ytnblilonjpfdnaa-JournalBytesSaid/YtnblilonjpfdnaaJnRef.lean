/- Package journal: the document's Sum, Check. -/
import Derived.Test.YtnblilonjpfdnaaJnSame
namespace Go.Proofs.Ytnblilonjpfdnaa.Jn
open Go Go.RowKit Ck
section
set_option maxRecDepth 100000
set_option maxHeartbeats 1600000
theorem rsumL_c (L : List Ln) (a : Option Addr) (cap : Nat) (w : World) (h : Lns w a L) (hl : L.length ≤ 300) (hI : ∀ x ∈ L, I64 x.amt) : Calls Try.prog 45 #[.slice a L.length cap] w (Told (sumL L) w) := by
  have H := Lib.hid h
  have HL := Lib.hid hl
  have HI := Lib.hid hI
  obtain ⟨i0, hi0, hz0, hz1, hz2⟩ := info_parts infoI64
  clear h hI
  go_enter Try.func45, Try.ntmps45
  go_upto_region 3 with (fail)
  go_loopg [4, 5] L.length (fun kx s4 s5 wr => ∃ (i : Nat) (vv : Value), s5 = .int .i64 (i : Int) ∧ vv = s4 ∧ i ≤ L.length ∧ Hid (wr.ownsRow w.heap.size TI64 1 vv ((L.take i).map Ln.amt).length (((L.take i).map Ln.amt).map iv)) ∧ Hid (Below w.heap.size w wr) ∧ L.length ≤ i + kx)
  case atStart => exact ⟨0, _, rfl, rfl, Nat.zero_le _, World.ownsRow_nil _ _ _ _, Below.refl _ _, by omega⟩
  case round =>
    obtain ⟨i, vv, rfl, hvv, hi9, HO, HB, hkx⟩ := hrel
    obtain ⟨a9, c9, rfl⟩ := own_any HO.out
    subst hvv
    by_cases hlt : i < L.length
    · obtain ⟨ab, ao, rfl, _, hc⟩ := (H.out.later HB.out) i hlt
      have c3' := hc 3 _ rfl
      have HT : Hid ((L.take (i + 1)).map Ln.amt = (L.take i).map Ln.amt ++ [L[i].amt]) := by show _ = _; rw [List.take_succ_eq_append_getElem hlt, List.map_append]; rfl
      have hn : ((L.take i).map Ln.amt).length ≤ 300 := by simp; omega
      obtain ⟨P, hP⟩ : ∃ P, P = (L.take i).map Ln.amt := ⟨_, rfl⟩
      rw [← hP] at HO HT hn ⊢
      obtain ⟨xd, hx⟩ : ∃ xd, xd = L[i].amt := ⟨_, rfl⟩
      have c3 : wr.cell? ⟨ab, ao + i * 4 + 3, none⟩ = some (.int .i64 xd) := by rw [hx]; exact c3'
      rw [← hx] at HT
      have j0 : (0 : Int) ≤ (i : Int) := by omega
      have j1 : (i : Int) < (L.length : Int) := by omega
      have HLT := Lib.hid hlt
      have HKX := Lib.hid hkx
      have hs := HB.out.size
      clear c3' hc hP hx hlt hkx
      go_wp2_with (at_builtin; refine wpList_append_own_at _ rfl _ _ TI64s rfl w.heap.size TI64 i0 (.int .i64 0) 1 8 Try.underlying91 hi0 hz0 hz1 hz2 rfl (by decide) _ _ _ rfl (HO.out.alloc _) ⟨wr.heap.size, 0, none⟩ 1 1 [iv xd] rfl rfl (cell_one_new _ _ _) (by simp [Value.oneCell']) (by unfold maxLen; omega) (by omega) (by simp; omega) ?_)
      intro v2 w2 hown2 hg2 hnil2 hat2
      have HB2 : Hid (Below w.heap.size w w2) := (HB.out.alloc hs _).grown hg2 (by simp; omega) (fun j hj => (HO.out.lt j hj).1)
      have HO2 : Hid (w2.ownsRow w.heap.size TI64 1 v2 ((L.take (i + 1)).map Ln.amt).length (((L.take (i + 1)).map Ln.amt).map iv)) := by
        show w2.ownsRow _ _ _ _ _ _
        rw [HT.out, List.length_append, List.map_append]
        exact hown2
      clear hown2 hg2 hnil2 hat2 c3 HB HO HT
      go_wp2_with fail
      have hlt := HLT.out
      have hkx := HKX.out
      go_roundg (L.length - (i + 1))
      case measure => omega
      case rel => exact ⟨i + 1, _, by simp, rfl, by omega, HO2, HB2, by omega⟩
    · obtain rfl : i = L.length := by omega
      rw [List.take_length] at HO ⊢
      clear hkx hlt hi9
      have KS := Lib.hid (rsum_any (L.map Ln.amt) _ _ wr HO.out (fun n hn => by obtain ⟨x, hx, rfl⟩ := List.mem_map.1 hn; exact HI.out x hx) (by simpa using HL.out))
      rw [List.length_map] at KS ⊢
      have hsum : (L.map Ln.amt).sum = sumL L := rfl
      rw [hsum] at KS
      go_wp2_with fail
      refine KS.out.mono ?_
      rintro _ W2 ⟨rfl, hb2⟩
      have HB2 : Hid (Below w.heap.size w W2) := HB.out.trans (hb2.mono HB.out.size)
      clear hb2 KS HO HB
      go_wp2_with fail
      refine bodyPost_ret (v := .tuple #[.int .i64 (Ar.val (sumL L)), .bool (Ar.ok (sumL L))]) (by simp [results, Try.results45, go_sem]) rfl ?_
      exact ⟨rfl, HB2.out⟩
theorem rcheck_c (d k s : Int) (L : List Ln) (a : Option Addr) (cap : Nat) (w : World) (h : Lns w a L) (hl : L.length ≤ 1000000) : Calls Try.prog 17 #[(.agg #[.int .i64 d, .int .u8 k, .int .u64 s, .slice a L.length cap])] w fun e w' => e = .returned (.int .i64 (chkM d k L)) ∧ Below w.heap.size w w' := by
  have H := Lib.hid h
  obtain ⟨r, hr⟩ : ∃ r, r = chkM d k L := ⟨_, rfl⟩
  rw [← hr]
  have HR := Lib.hid hr
  have HB : Hid (Below w.heap.size w (w.alloc (.cells #[.int .i64 d, .int .u8 k, .int .u64 s, .slice a L.length cap] TEn))) := (Below.refl _ w).alloc (Nat.le_refl _) _
  have RX : Hid (Rw (w.alloc (.cells #[.int .i64 d, .int .u8 k, .int .u64 s, .slice a L.length cap] TEn)) w.heap.size TEn [.int .i64 d, .int .u8 k, .int .u64 s, .slice a L.length cap]) := Rw.new w [.int .i64 d, .int .u8 k, .int .u64 s, .slice a L.length cap] TEn
  have HL := Lib.hid hl
  clear h hr hl
  obtain ⟨bad, hbad⟩ : ∃ bad, bad = badB d k L := ⟨_, rfl⟩
  have HBAD := Lib.hid hbad
  unfold badB dayB at hbad
  have hbad2 : bad = (decide (d < 1) || decide (3652059 < d) || (k == 0) || decide ((L.length : Int) < 2) || decide (64 < (L.length : Int))) := by
    rw [hbad]
    congr 1
    · congr 1
      · congr 1
        by_cases h1 : 1 ≤ d
        · by_cases h2 : d ≤ 3652059
          · simp [h1, h2] <;> omega
          · simp [h2] <;> omega
        · simp [h1] <;> omega
      · exact decide_eq_decide.2 (by omega)
    · exact decide_eq_decide.2 (by omega)
  clear hbad
  have HBD := Lib.hid hbad2
  clear hbad2
  go_enter Try.func17, Try.ntmps17
  go_upto_region 1 with (fail)
  obtain ⟨be, hbe⟩ : ∃ be, be = w.heap.size := ⟨_, rfl⟩
  rw [← hbe] at RX ⊢
  have HBE := Lib.hid hbe
  clear hbe
  generalize w.alloc (.cells #[.int .i64 d, .int .u8 k, .int .u64 s, .slice a L.length cap] TEn) = W at HB RX ⊢
  have e0 : W.cell? ⟨be, 0, none⟩ = some (.int .i64 d) := RX.out.cell 0
  have e1 : W.cell? ⟨be, 1, none⟩ = some (.int .u8 k) := RX.out.cell 1
  have e3 : W.cell? ⟨be, 3, none⟩ = some (.slice a L.length cap) := RX.out.cell 3
  cases hb : bad with
  | true =>
    have HRR : Hid (r = 2) := by show _ = _; rw [HR.out]; unfold chkM; rw [if_pos (.inl (HBAD.out.symm.trans hb))]
    rw [hb] at HBD
    have hbd := HBD.out.symm
    clear hb HBD HBAD HR
    by_cases g0 : d < 1
    · clear hbd
      go_wp2_with fail
      go_ret
      exact ⟨ret_int HRR.out, HB.out⟩
    by_cases g1 : 3652059 < d
    · clear hbd
      go_wp2_with fail
      go_ret
      exact ⟨ret_int HRR.out, HB.out⟩
    by_cases g2 : k = 0
    · subst g2
      clear hbd
      go_wp2_with fail
      go_ret
      exact ⟨ret_int HRR.out, HB.out⟩
    have n2 : (k == 0) = false := beq_eq_false_iff_ne.2 g2
    have HN2 := Lib.hid g2
    clear g2
    by_cases g3 : (L.length : Int) < 2
    · clear hbd
      go_wp2_with fail
      go_ret
      exact ⟨ret_int HRR.out, HB.out⟩
    by_cases g4 : 64 < (L.length : Int)
    · clear hbd
      go_wp2_with fail
      go_ret
      exact ⟨ret_int HRR.out, HB.out⟩
    exfalso
    have g2 := HN2.out
    simp [g0, g1, g2, g3, g4] at hbd
  | false =>
    have HG : Hid (badB d k L = false) := HBAD.out.symm.trans hb
    rw [hb] at HBD
    have hbd := HBD.out.symm
    simp only [Bool.or_eq_false_iff, decide_eq_false_iff_not, beq_eq_false_iff_ne] at hbd
    obtain ⟨⟨⟨⟨h1, h2⟩, h3⟩, h4⟩, h5⟩ := hbd
    have n3 : (k == 0) = false := beq_eq_false_iff_ne.2 h3
    have j9 : L.length ≤ 64 := by omega
    clear hb HBD HBAD h3
    go_upto_region 4 with (fail)
    clear e0 e1 e3
    have HW := Lib.hid (H.out.later HB.out)
    clear H
    go_loopg [3] L.length (fun kx s3 wr => ∃ i : Nat, s3 = .int .i64 (i : Int) ∧ i ≤ L.length ∧ Hid (∀ j (h : j < L.length), j < i → L[j].okB = true) ∧ Hid (Below W.heap.size W wr) ∧ L.length ≤ i + kx)
    case atStart => exact ⟨0, rfl, Nat.zero_le _, fun j _ hj => by omega, Below.refl _ _, by omega⟩
    case round =>
      obtain ⟨i, rfl, hi9, HJ, HC, hkx⟩ := hrel
      have e3 : wr.cell? ⟨be, 3, none⟩ = some (.slice a L.length cap) := (RX.out.later HC.out).cell 3
      by_cases hlt : i < L.length
      · obtain ⟨ab, ao, rfl, _, hc⟩ := (HW.out.later HC.out) i hlt
        have c0 := hc 0 _ rfl
        have c1 := hc 1 _ rfl
        have c2 := hc 2 _ rfl
        have c3 := hc 3 _ rfl
        obtain ⟨x, hx⟩ : ∃ x, x = L[i] := ⟨_, rfl⟩
        have HN : Hid (∀ h : i < L.length, x = L[i]) := fun _ => hx
        rw [← hx] at c0 c1 c2 c3
        have j0 : (0 : Int) ≤ (i : Int) := by omega
        have j1 : (i : Int) < (L.length : Int) := by omega
        rw [Nat.add_zero] at c0
        have HLT := Lib.hid hlt
        have HKX := Lib.hid hkx
        clear hc hx hlt hkx
        obtain ⟨xa, xb, xc, xd⟩ := x
        simp only at c0 c1 c2 c3
        have KL : Hid (∀ u, Calls Try.prog 50 #[.agg #[.int .i64 xa, .int .u64 xb, .int .u64 xc, .int .i64 xd]] u fun e w' => e = .returned (.bool (Ln.mk xa xb xc xd).okB) ∧ Below u.heap.size u w') := fun u => may_c ⟨xa, xb, xc, xd⟩ u
        obtain ⟨q, hq⟩ : ∃ q, q = (Ln.mk xa xb xc xd).okB := ⟨_, rfl⟩
        rw [← hq] at KL
        have HQ := Lib.hid hq
        clear hq
        go_wp2_with fail
        refine (KL.out _).mono ?_
        rintro _ w2 ⟨rfl, hb2⟩
        have HC2 : Hid (Below W.heap.size W w2) := HC.out.trans (hb2.mono HC.out.size)
        clear KL hb2 c0 c1 c2 c3 HC e3
        cases q with
        | false =>
          go_wp2_with fail
          go_ret
          refine ⟨ret_int (z := 2) ?_, HB.out.trans (HC2.out.mono HB.out.size)⟩
          rw [HR.out]
          unfold chkM
          rw [if_pos]
          right
          refine List.all_eq_false.2 ⟨L[i]'HLT.out, List.getElem_mem _, ?_⟩
          rw [← HN.out HLT.out, ← HQ.out]
          decide
        | true =>
          have HJ2 : Hid (∀ j (h : j < L.length), j < i + 1 → L[j].okB = true) := fun j hj hji => by
            by_cases e : j = i
            · subst e; rw [← HN.out hj]; exact HQ.out.symm
            · exact HJ.out j hj (by omega)
          go_wp2_with fail
          have hlt := HLT.out
          have hkx := HKX.out
          go_roundg (L.length - (i + 1))
          case measure => omega
          case rel => exact ⟨i + 1, by simp, by omega, HJ2, HC2, by omega⟩
      · obtain rfl : i = L.length := by omega
        clear hkx hlt hi9
        have HA : Hid (L.all Ln.okB = true) := List.all_eq_true.2 fun x hx => by
          obtain ⟨j, hj, rfl⟩ := List.getElem_of_mem hx
          exact HJ.out j hj hj
        have KS := Lib.hid (rsumL_c L a cap wr (HW.out.later HC.out) (by omega) (fun x hx => by
          have := okB_amt (List.all_eq_true.1 HA.out x hx)
          unfold I64
          omega))
        unfold Told at KS
        have HRR : Hid (r = if sumL L ≠ 0 then 200 else 0) := by
          show _ = _
          rw [HR.out]
          unfold chkM
          rw [if_neg]
          rw [HG.out, HA.out]
          decide
        generalize sumL L = n at HRR KS
        go_wp2_with fail
        refine KS.out.mono ?_
        rintro _ w3 ⟨rfl, hb3⟩
        have HC3 : Hid (Below w.heap.size w w3) := HB.out.trans ((HC.out.trans (hb3.mono HC.out.size)).mono HB.out.size)
        clear KS hb3 HC e3
        by_cases hn : n = 0
        · obtain ⟨z1, z2⟩ := ok_val hn
          rw [z1, z2]
          have HR2 : Hid (r = 0) := by show _ = _; rw [HRR.out, if_neg (by simp [hn])]
          clear hn z1 z2 HRR
          go_wp2_with fail
          go_ret
          exact ⟨ret_int HR2.out, HC3.out⟩
        · have HR2 : Hid (r = 200) := by show _ = _; rw [HRR.out, if_pos hn]
          rcases ok_val' hn with z1 | ⟨z1, z2⟩
          · rw [z1]
            generalize Ar.val n = m
            clear hn z1 HRR
            go_wp2_with fail
            go_ret
            exact ⟨ret_int HR2.out, HC3.out⟩
          · rw [z1, z2]
            have hn1 : (n == 0) = false := beq_eq_false_iff_ne.2 hn
            have hn2 : (n != 0) = true := by simpa using hn
            clear hn z1 z2 HRR
            go_wp2_with fail
            go_ret
            exact ⟨ret_int HR2.out, HC3.out⟩
end
end Go.Proofs.Ytnblilonjpfdnaa.Jn
