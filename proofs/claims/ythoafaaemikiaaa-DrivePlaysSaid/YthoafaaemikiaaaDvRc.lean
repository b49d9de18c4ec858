/- Package drive: the reference's Crash. -/
import Derived.Test.YthoafaaemikiaaaDvRs
import Derived.BigRegion
namespace Go.Proofs.Ythoafaaemikiaaa.Dv
open Go Go.RowKit Rf
theorem own_formN {w : World} {base e size n : Nat} {v : Value} {xs : List Value} {m : Nat} (h : w.ownsRow base e size v n xs) (hm : n = m) (hn : 1 ≤ m) : ∃ g cap, v = .slice (some ⟨g, 0, none⟩) m cap := by
  subst hm; exact own_form' h hn
theorem own_sliceN {w : World} {b e sz n : Nat} {v : Value} {xs : List Value} {m : Nat} (h : w.ownsRow b e sz v n xs) (hm : n = m) : ∃ a c, v = .slice a m c := by
  subst hm; exact own_slice h
theorem bs_size (s : Sec) : (bs s).size = s.length := by unfold bs; simp [ByteArray.size]
theorem part_bs (K : Nat) {s d : Sec} (_hs : s.length = 64) (hd : d.length = 64) : (bs s).extract 0 K ++ (bs d).extract K 64 = bs (part K s d) := by
  have e : ((bs s).extract 0 K ++ (bs d).extract K 64 : ByteArray).data.toList = part K s d := by
    rw [ByteArray.data_append, Array.toList_append, ByteArray.data_extract, ByteArray.data_extract, Array.toList_extract, Array.toList_extract]
    unfold part bs List.extract
    show List.take (K - 0) (List.drop 0 s) ++ List.take (64 - K) (List.drop K d) = _
    rw [Nat.sub_zero, List.drop_zero, List.take_of_length_le (l := List.drop K d) (by rw [List.length_drop, hd]; exact Nat.le_refl _)]
  generalize ((bs s).extract 0 K ++ (bs d).extract K 64 : ByteArray) = a at e
  cases a with
  | mk b => unfold bs; rw [← e]
theorem part_bs64 {s d : Sec} (hs : s.length = 64) (hd : d.length = 64) : (bs s).extract 0 64 = bs (part 64 s d) := by
  have e : ((bs s).extract 0 64).data.toList = part 64 s d := by
    rw [ByteArray.data_extract, Array.toList_extract, part_64 hs hd]
    show List.take (64 - 0) (List.drop 0 s) = _
    rw [Nat.sub_zero, List.drop_zero, List.take_of_length_le (by omega)]
  generalize ((bs s).extract 0 64 : ByteArray) = a at e
  cases a with
  | mk b => unfold bs; rw [← e]
theorem bit2 (a j : Nat) : ((a : Int) / 2 ^ (j % 64)) % 2 = ((a / 2 ^ (j % 64) % 2 : Nat) : Int) := by
  have : ((a : Int) / 2 ^ (j % 64)) = ((a / 2 ^ (j % 64) : Nat) : Int) := by simp
  rw [this]; omega
set_option maxRecDepth 100000 in
set_option maxHeartbeats 4000000 in
theorem rcrash_c (S : Nat → Prop) (g : Nat) (x : Dr) (c : Cr) (w : World) (h : Rs S w g x) (hx : x.Ok) (hP : x.P.length ≤ 100000) (hc : c.Fits) :
    Calls Try.prog 14 #[.pointer (some ⟨g, 0, Option.none⟩), c.val] w fun e w' => e = .returned (.tuple #[]) ∧ AfterR S w g (x.crash c) w' := by
  have HX := Lib.hid hx
  obtain ⟨nv, sv, av, ov, R, hB⟩ := h
  have hvl := Dr.vlen x
  have hm1 : x.D.length ≤ 4096 := hx.n2
  have hm0 : 1 ≤ x.D.length := hx.n1
  obtain ⟨m, hm⟩ : ∃ m, x.D.length = m := ⟨_, rfl⟩
  obtain ⟨n, hn⟩ : ∃ n, x.P.length = n := ⟨_, rfl⟩
  have hnA : (x.P.map Prod.fst).length = n := by rw [List.length_map, hn]
  have hnO : (x.P.map Prod.snd).length = n := by rw [List.length_map, hn]
  rw [hm] at hvl hm1 hm0
  rw [hn] at hP
  obtain ⟨bn, cn, rfl⟩ := own_formN R.now hvl hm0
  obtain ⟨bd, cd, rfl⟩ := own_formN R.sure hm hm0
  obtain ⟨ap, ca, rfl⟩ := own_sliceN R.at_ hnA
  obtain ⟨op, co, rfl⟩ := own_sliceN R.op hnO
  have hap := Lib.hid (show 0 < n → ∃ gp, ap = some ⟨gp, 0, none⟩ from fun h => by
    obtain ⟨gp, cap', e⟩ := own_formN R.at_ hnA h
    injection e with e
    exact ⟨gp, e⟩)
  have hop := Lib.hid (show 0 < n → ∃ gp, op = some ⟨gp, 0, none⟩ from fun h => by
    obtain ⟨gp, cap', e⟩ := own_formN R.op hnO h
    injection e with e
    exact ⟨gp, e⟩)
  have HNA := Lib.hid hnA
  have HNO := Lib.hid hnO
  have HN := Lib.hid hn
  have HM := Lib.hid hm
  have HV := Lib.hid hvl
  have hb : Below w.heap.size w (w.alloc (.cells c.cells.toArray 33)) := (Below.refl _ w).alloc (Nat.le_refl _) _
  have A1 := Lib.hid (R.later hb)
  have Q1 := Lib.hid (Rw.new w c.cells 33)
  have K1 := Lib.hid (Keeps.of S hb)
  have HLT := Lib.hid R.lt
  have HB := Lib.hid hB
  have HC := Lib.hid hc
  obtain ⟨keep, torn, at_⟩ := c
  have hkp := hc.keep
  have hka : at_ ≤ 9223372036854775807 := hc.at'.2
  obtain ⟨q, hq⟩ : ∃ q, w.heap.size = q := ⟨_, rfl⟩
  have HQD := Lib.hid (show q ≠ bd from fun e => by have := HLT.out bd (.inr (.inr (.inl rfl))); omega)
  have HQN := Lib.hid (show q ≠ bn from fun e => by have := HLT.out bn (.inr (.inl rfl)); omega)
  have HQ0 := Lib.hid hq
  clear R hB hx hc hb hm hn hnA hnO hvl HLT
  go_enter Try.func14, Try.ntmps14
  unfold Cr.val Cr.cells
  go_wp2_with fail
  simp only [Cr.cells] at Q1 A1 K1
  rw [hq] at Q1
  generalize w.alloc (.cells _ _) = W at A1 Q1 K1 ⊢
  clear hq
  go_loopw [4, 5] (fun i kv wr => ∃ j : Nat, j ≤ n ∧ i = .int .i64 j ∧ RDv wr g (.slice (some ⟨bn, 0, none⟩) m cn) (.slice (some ⟨bd, 0, none⟩) m cd) (.slice ap n ca) (.slice op n co) x.V (crashTo ⟨keep, torn, at_⟩ (x.P.take j) 0 x.D) (x.P.map Prod.fst) (x.P.map Prod.snd) x.F ∧ Rw wr q 33 [.int .u64 (keep : Int), .int .i64 torn, .int .i64 at_] ∧ Keeps S w wr) (fun i _ _ => n - (intOf i).toNat)
  case atStart => exact ⟨0, by omega, rfl, A1.out, Q1.out, K1.out⟩
  case round =>
    obtain ⟨j, hj, rfl, hA2, hQ2, hK2⟩ := hrel
    have A2 := Lib.hid hA2
    have K2 := Lib.hid hK2
    have Q2 := Lib.hid hQ2
    clear hA2 hK2 hQ2 A1 Q1 K1
    have c3 : wr.cell? ⟨g, 3, none⟩ = some (.slice op n co) := A2.out.blk.cell 3
    by_cases hlt : j < n
    · obtain ⟨ga, rfl⟩ := hap.out (by omega)
      obtain ⟨go, rfl⟩ := hop.out (by omega)
      have hjP : j < x.P.length := by rw [HN.out]; exact hlt
      have hpk := HX.out.p x.P[j] (List.getElem_mem hjP)
      have hT := take_crash ⟨keep, torn, at_⟩ x.P x.D j hjP
      have ca1 : wr.cell? ⟨ga, j, none⟩ = some (.int .i64 (x.P[j].1 : Int)) := by
        have h1 := A2.out.at_
        rw [HNA.out] at h1
        exact (h1.cellAt j (by rw [Nat.mul_one]; exact hlt)).trans (by unfold nats; rw [List.map_map, List.getElem?_map, List.getElem?_eq_getElem hjP]; rfl)
      have co1 : wr.cell? ⟨go, j, none⟩ = some (.string (bs x.P[j].2)) := by
        have h1 := A2.out.op
        rw [HNO.out] at h1
        exact (h1.cellAt j (by rw [Nat.mul_one]; exact hlt)).trans (by unfold strs; rw [List.map_map, List.getElem?_map, List.getElem?_eq_getElem hjP]; rfl)
      obtain ⟨p, hp⟩ : ∃ p, x.P[j] = p := ⟨_, rfl⟩
      rw [hp] at hpk hT ca1 co1
      obtain ⟨k, ps⟩ := p
      clear hp hjP
      have HPS := Lib.hid hpk.2
      have hkm : k < m := by rw [← HM.out]; exact hpk.1
      have hkm' : (k : Int) < (m : Int) := by omega
      have hk0 : (0 : Int) ≤ (k : Int) := by omega
      have hju : (j : Int) < (n : Int) := by omega
      have hj0 : (0 : Int) ≤ (j : Int) := by omega
      have zp : (bs ps).size = 64 := by rw [bs_size]; exact hpk.2
      clear hpk
      have hDl : (crashTo ⟨keep, torn, at_⟩ (x.P.take j) 0 x.D).length = m := by rw [crashTo_len, HM.out]
      have H64 := Lib.hid (crash_take_64 HX.out ⟨keep, torn, at_⟩ j)
      obtain ⟨DD, hDD⟩ : ∃ DD, crashTo ⟨keep, torn, at_⟩ (x.P.take j) 0 x.D = DD := ⟨_, rfl⟩
      rw [hDD] at hDl H64 hT A2
      have hkD : k < DD.length := by rw [hDl]; exact hkm
      have SD := A2.out.sure
      rw [hDl] at SD
      have cdk : wr.cell? ⟨bd, k, none⟩ = some (.string (bs DD[k])) := (SD.cellAt k (by rw [Nat.mul_one]; exact hkm)).trans (strs_at DD k hkD)
      have fdk := SD.frozenAt k
      have hds := H64.out DD[k] (List.getElem_mem hkD)
      have hgd : DD.getD k [] = DD[k] := by rw [List.getD_eq_getElem?_getD, List.getElem?_eq_getElem hkD]; rfl
      have hsl := Lib.hid (show DD.set k DD[k] = DD from List.set_getElem_self hkD)
      simp only [hgd] at hT
      obtain ⟨d, hd⟩ : ∃ d, DD[k] = d := ⟨_, rfl⟩
      rw [hd] at cdk hds hT hsl
      have HDS := Lib.hid hds
      have HDl := Lib.hid hDl
      have zd : (bs d).size = 64 := by rw [bs_size]; exact hds
      have c1 : wr.cell? ⟨g, 1, none⟩ = some (.slice (some ⟨bd, 0, none⟩) m cd) := A2.out.blk.cell 1
      have c2 : wr.cell? ⟨g, 2, none⟩ = some (.slice (some ⟨ga, 0, none⟩) n ca) := A2.out.blk.cell 2
      have q0 : wr.cell? ⟨q, 0, none⟩ = some (.int .u64 (keep : Int)) := Q2.out.cell 0
      have q1 : wr.cell? ⟨q, 1, none⟩ = some (.int .i64 torn) := Q2.out.cell 1
      have q2 : wr.cell? ⟨q, 2, none⟩ = some (.int .i64 at_) := Q2.out.cell 2
      clear hds hDl hgd hDD hkD SD hd H64
      by_cases ht : (j : Int) = torn
      · have ht' : ((j : Int) == torn) = true := by simpa using ht
        rcases (show at_ ≤ 0 ∨ (0 < at_ ∧ at_ ≤ 64) ∨ 64 < at_ by omega) with h1 | ⟨h1, h2⟩ | h1
        · have hck : (Cr.mk keep torn at_).cut j = 0 := by unfold Cr.cut; rw [if_pos ht]; simp only; omega
          rw [hck, part_0, hsl.out] at hT
          have HT := Lib.hid hT
          clear ht
          have h2 : ¬ (64 < at_) := by omega
          have h3 : ¬ (0 < at_) := by omega
          have h2' : at_ ≤ 64 := by omega
          clear hT hck
          go_wp2_with fail
          exact ⟨⟨j + 1, by omega, by go_num, by rw [HT.out]; exact A2.out, Q2.out, K2.out⟩, by simp [intOf]; omega⟩
        · have h3 : ¬ (64 < at_) := by omega
          obtain ⟨kk, rfl⟩ := Int.eq_ofNat_of_zero_le (show 0 ≤ at_ by omega)
          have hck : (Cr.mk keep torn kk).cut j = kk := by unfold Cr.cut; rw [if_pos ht]; show (min (max (kk : Int) 0) 64).toNat = kk; omega
          rw [hck] at hT
          have HT := Lib.hid hT
          clear hT hck ht
          have hkk : kk ≤ 64 := by omega
          have y0 : (0 : Int) ≤ (kk : Int) := by omega
          have y1 : ¬ (9223372036854775807 < kk + (64 - kk)) := by omega
          have y2 : ¬ (9223372036854775807 < min kk 64 + (64 - kk)) := by omega
          go_upto_region 12 with (fail)
          go_still_tail 37, (by kernel_rfl)
          change wpList _ _ _ _ _ wr.drew
          have A3 := Lib.hid A2.out.drew
          have Q3 := Lib.hid Q2.out.drew
          have K3 := Lib.hid K2.out.drew
          have cd3 : wr.drew.cell? ⟨bd, k, none⟩ = some (.string (bs d)) := cdk
          have fd3 : wr.drew.frozen? ⟨bd, k, none⟩ = false := fdk
          clear A2 Q2 K2 c1 c2 c3 ca1 co1 cdk fdk q0 q1 q2
          generalize wr.drew = w3 at A3 Q3 K3 cd3 fd3 ⊢
          rw [show (bs ps).extract 0 kk ++ (bs d).extract kk 64 = bs (part kk ps d) from part_bs kk HPS.out HDS.out]
          go_wp2_with fail
          refine ⟨⟨j + 1, by omega, by go_num, ?_, ?_, K3.out.setCell bd k _ (.inl (HB.out bd (.inr (.inr (.inl rfl)))))⟩, by simp [intOf]; omega⟩
          · rw [HT.out]; exact A3.out.setS HDl.out.symm k _
          · exact Q3.out.otherCell bd k _ HQD.out
        · have h3 : 64 < at_ := h1
          have hck : (Cr.mk keep torn at_).cut j = 64 := by unfold Cr.cut; rw [if_pos ht]; show (min (max at_ 0) 64).toNat = 64; omega
          rw [hck] at hT
          have HT := Lib.hid hT
          clear hT hck ht
          go_upto_region 12 with (fail)
          go_still_tail 37, (by kernel_rfl)
          change wpList _ _ _ _ _ wr.drew
          have A3 := Lib.hid A2.out.drew
          have Q3 := Lib.hid Q2.out.drew
          have K3 := Lib.hid K2.out.drew
          have cd3 : wr.drew.cell? ⟨bd, k, none⟩ = some (.string (bs d)) := cdk
          have fd3 : wr.drew.frozen? ⟨bd, k, none⟩ = false := fdk
          clear A2 Q2 K2 c1 c2 c3 ca1 co1 cdk fdk q0 q1 q2
          generalize wr.drew = w3 at A3 Q3 K3 cd3 fd3 ⊢
          rw [show (bs ps).extract 0 64 = bs (part 64 ps d) from part_bs64 HPS.out HDS.out]
          go_wp2_with fail
          refine ⟨⟨j + 1, by omega, by go_num, ?_, ?_, K3.out.setCell bd k _ (.inl (HB.out bd (.inr (.inr (.inl rfl)))))⟩, by simp [intOf]; omega⟩
          · rw [HT.out]; exact A3.out.setS HDl.out.symm k _
          · exact Q3.out.otherCell bd k _ HQD.out
      · have ht' : ((j : Int) == torn) = false := by simpa using ht
        by_cases hbit : keep / 2 ^ (j % 64) % 2 = 1
        · have hb0 : ((keep : Int) / 2 ^ (j % 64)) % 2 = 1 := by rw [bit2, hbit]; rfl
          have hb1 : ((keep : Int) / 2 ^ (j % 64)).tmod 2 = 1 := by rw [Int.tmod_eq_emod_of_nonneg (Int.ediv_nonneg (by omega) (Int.le_of_lt (Int.pow_pos (by decide))))]; exact hb0
          have hb' : (((keep : Int) / 2 ^ (j % 64)).tmod 2 == 1) = true := by rw [hb1]; rfl
          clear hb0
          have hck : (Cr.mk keep torn at_).cut j = 64 := by unfold Cr.cut; rw [if_neg ht, if_pos hbit]
          rw [hck] at hT
          have HT := Lib.hid hT
          clear hT hck ht
          go_upto_region 12 with (fail)
          go_still_tail 37, (by kernel_rfl)
          change wpList _ _ _ _ _ wr.drew
          have A3 := Lib.hid A2.out.drew
          have Q3 := Lib.hid Q2.out.drew
          have K3 := Lib.hid K2.out.drew
          have cd3 : wr.drew.cell? ⟨bd, k, none⟩ = some (.string (bs d)) := cdk
          have fd3 : wr.drew.frozen? ⟨bd, k, none⟩ = false := fdk
          clear A2 Q2 K2 c1 c2 c3 ca1 co1 cdk fdk q0 q1 q2
          generalize wr.drew = w3 at A3 Q3 K3 cd3 fd3 ⊢
          rw [show (bs ps).extract 0 64 = bs (part 64 ps d) from part_bs64 HPS.out HDS.out]
          go_wp2_with fail
          refine ⟨⟨j + 1, by omega, by go_num, ?_, ?_, K3.out.setCell bd k _ (.inl (HB.out bd (.inr (.inr (.inl rfl)))))⟩, by simp [intOf]; omega⟩
          · rw [HT.out]; exact A3.out.setS HDl.out.symm k _
          · exact Q3.out.otherCell bd k _ HQD.out
        · have hck : (Cr.mk keep torn at_).cut j = 0 := by unfold Cr.cut; rw [if_neg ht, if_neg hbit]
          have hb0 : ((keep : Int) / 2 ^ (j % 64)) % 2 = 0 := by rw [bit2]; omega
          have hb1 : ((keep : Int) / 2 ^ (j % 64)).tmod 2 = 0 := by rw [Int.tmod_eq_emod_of_nonneg (Int.ediv_nonneg (by omega) (Int.le_of_lt (Int.pow_pos (by decide))))]; exact hb0
          have hb' : (((keep : Int) / 2 ^ (j % 64)).tmod 2 == 1) = false := by rw [hb1]; rfl
          have hb2 : ¬ (((keep : Int) / 2 ^ (j % 64)) % 2 = 1) := by omega
          have hb3 : ¬ (((keep : Int) / 2 ^ (j % 64)).tmod 2 = 1) := by omega
          clear hb1 hb0 ht
          rw [hck, part_0, hsl.out] at hT
          have HT := Lib.hid hT
          clear hT hck
          go_wp2_with fail
          exact ⟨⟨j + 1, by omega, by go_num, by rw [HT.out]; exact A2.out, Q2.out, K2.out⟩, by simp [intOf]; omega⟩
    · obtain rfl : n = j := by omega
      have hA3 := A2.out
      rw [show x.P.take n = x.P from List.take_of_length_le (by rw [HN.out]; exact Nat.le_refl _)] at hA3
      have hDl : (crashTo ⟨keep, torn, at_⟩ x.P 0 x.D).length = m := by rw [crashTo_len, HM.out]
      have hres : x.crash ⟨keep, torn, at_⟩ = ⟨crashTo ⟨keep, torn, at_⟩ x.P 0 x.D, [], none⟩ := rfl
      obtain ⟨DD, hDD⟩ : ∃ DD, crashTo ⟨keep, torn, at_⟩ x.P 0 x.D = DD := ⟨_, rfl⟩
      rw [hDD] at hA3 hDl hres
      have A3 := Lib.hid hA3
      have HRES := Lib.hid hres
      have HDl := Lib.hid hDl
      have K3 := Lib.hid K2.out
      clear hA3 hDD hres A2 Q2 K2 hap hop HX hDl
      go_wp2_with fail
      clear c3
      go_loopw [6] (fun i wz => ∃ i' : Nat, i' ≤ m ∧ i = .int .i64 i' ∧ RDv wz g (.slice (some ⟨bn, 0, none⟩) m cn) (.slice (some ⟨bd, 0, none⟩) m cd) (.slice ap n ca) (.slice op n co) (DD.take i' ++ x.V.drop i') DD (x.P.map Prod.fst) (x.P.map Prod.snd) x.F ∧ Keeps S w wz) (fun i _ => m - (intOf i).toNat)
      case atStart => exact ⟨0, by omega, rfl, A3.out, K3.out⟩
      case round =>
        obtain ⟨i', hi', rfl, hA4, hK4⟩ := hrel
        have A4 := Lib.hid hA4
        have K4 := Lib.hid hK4
        clear hA4 hK4 A3 K3
        have c0 : wr.cell? ⟨g, 0, none⟩ = some (.slice (some ⟨bn, 0, none⟩) m cn) := A4.out.blk.cell 0
        have c1 : wr.cell? ⟨g, 1, none⟩ = some (.slice (some ⟨bd, 0, none⟩) m cd) := A4.out.blk.cell 1
        by_cases hlt : i' < m
        · have hju : (i' : Int) < (m : Int) := by omega
          have hj0 : (0 : Int) ≤ (i' : Int) := by omega
          have hjv : i' < DD.length := by rw [HDl.out]; exact hlt
          have hlen : (DD.take i' ++ x.V.drop i').length = m := by simp; have := HDl.out; have := HV.out; omega
          have SD := A4.out.sure
          rw [HDl.out] at SD
          have cb : wr.cell? ⟨bd, i', none⟩ = some (.string (bs DD[i'])) := (SD.cellAt i' (by rw [Nat.mul_one]; exact hlt)).trans (strs_at DD i' hjv)
          have S2 := A4.out.now
          rw [hlen] at S2
          obtain ⟨y0, cn'⟩ : ∃ y0, wr.cell? ⟨bn, i', none⟩ = some y0 := by
            have h1 := S2.cellAt i' (by rw [Nat.mul_one]; exact hlt)
            exact ⟨_, h1.trans (strs_at (DD.take i' ++ x.V.drop i') i' (by rw [hlen]; exact hlt))⟩
          have fn := S2.frozenAt i'
          clear S2 SD
          obtain ⟨q, hq⟩ : ∃ q, q = DD[i']'hjv := ⟨_, rfl⟩
          rw [← hq] at cb
          have HQ := Lib.hid hq
          have HL := Lib.hid hlen
          clear hq hlen
          go_wp2_with fail
          go_still_tail 13, (by kernel_rfl)
          change wpList _ _ _ _ _ wr.drew
          have A5 := Lib.hid A4.out.drew
          have cn3 : wr.drew.cell? ⟨bn, i', none⟩ = some y0 := cn'
          have fn3 : wr.drew.frozen? ⟨bn, i', none⟩ = false := fn
          have K5 := Lib.hid K4.out.drew
          clear A4 K4 c0 c1 cb cn' fn
          generalize wr.drew = w3 at A5 K5 cn3 fn3 ⊢
          go_wp2_with fail
          refine ⟨⟨i' + 1, by omega, by go_num, ?_, K5.out.setCell bn i' _ (.inl (HB.out bn (.inr (.inl rfl))))⟩, by simp [intOf]; omega⟩
          have := A5.out.setN HL.out.symm i' q
          rw [HQ.out, take_set DD x.V i' (by rw [HDl.out, HV.out]) hjv] at this
          rw [HQ.out]
          exact this
        · obtain rfl : m = i' := by omega
          have e1 : DD.take m ++ x.V.drop m = DD := by rw [List.take_of_length_le (by rw [HDl.out]; exact Nat.le_refl _), List.drop_eq_nil_of_le (by rw [HV.out]; exact Nat.le_refl _), List.append_nil]
          have A5 := Lib.hid (e1 ▸ A4.out)
          clear A4 e1
          obtain ⟨y2, c2⟩ : ∃ y2, wr.cell? ⟨g, 2, none⟩ = some y2 := ⟨_, A5.out.blk.cell 2⟩
          have f2 := A5.out.blk.frozen 2
          go_upto_region 18 with (fail)
          have A6 := A5.out.put (nv' := (.slice (some ⟨bn, 0, none⟩) m cn)) (sv' := (.slice (some ⟨bd, 0, none⟩) m cd)) (av' := .slice none 0 0) (ov' := (.slice op n co)) (A' := []) (O' := x.P.map Prod.snd) (F' := x.F) 2 (.slice none 0 0) rfl A5.out.now A5.out.sure (World.ownsRow_nil _ _ _ _) A5.out.op A5.out.ns A5.out.no A5.out.so
          have K6 := Lib.hid (K4.out.setCell g 2 (.slice none 0 0) (.inl (HB.out g (.inl rfl))))
          have A6 := Lib.hid A6
          clear A5 K4 c0 c1 c2 f2
          generalize wr.setCell ⟨g, 2, none⟩ (.slice none 0 0) = w4 at A6 K6 ⊢
          obtain ⟨y3, c3⟩ : ∃ y3, w4.cell? ⟨g, 3, none⟩ = some y3 := ⟨_, A6.out.blk.cell 3⟩
          have f3 := A6.out.blk.frozen 3
          go_upto_region 19 with (fail)
          have A7 := A6.out.put (nv' := (.slice (some ⟨bn, 0, none⟩) m cn)) (sv' := (.slice (some ⟨bd, 0, none⟩) m cd)) (av' := .slice none 0 0) (ov' := .slice none 0 0) (A' := []) (O' := []) (F' := x.F) 3 (.slice none 0 0) rfl A6.out.now A6.out.sure A6.out.at_ (World.ownsRow_nil _ _ _ _) A6.out.ns (fun _ _ h => nomatch h) (fun _ _ h => nomatch h)
          have K7 := Lib.hid (K6.out.setCell g 3 (.slice none 0 0) (.inl (HB.out g (.inl rfl))))
          have A7 := Lib.hid A7
          clear A6 K6 c3 f3
          generalize w4.setCell ⟨g, 3, none⟩ (.slice none 0 0) = w5 at A7 K7 ⊢
          obtain ⟨y4, c4⟩ : ∃ y4, w5.cell? ⟨g, 4, none⟩ = some y4 := ⟨_, A7.out.blk.cell 4⟩
          have f4 := A7.out.blk.frozen 4
          go_wp2_with fail
          go_end0
          have A8 := A7.out.put (nv' := (.slice (some ⟨bn, 0, none⟩) m cn)) (sv' := (.slice (some ⟨bd, 0, none⟩) m cd)) (av' := .slice none 0 0) (ov' := .slice none 0 0) (A' := []) (O' := []) (F' := none) 4 (.int .i64 (-1)) rfl A7.out.now A7.out.sure A7.out.at_ A7.out.op A7.out.ns A7.out.no A7.out.so
          rw [HRES.out]
          refine ⟨rfl, ⟨(.slice (some ⟨bn, 0, none⟩) m cn), (.slice (some ⟨bd, 0, none⟩) m cd), .slice none 0 0, .slice none 0 0, A8, ?_⟩, K7.out.setCell g 4 _ (.inl (HB.out g (.inl rfl)))⟩
          rintro i (rfl | hj | hj | hj | hj)
          · exact .inl (HB.out i (.inl rfl))
          · exact .inl (HB.out i (.inr (.inl hj)))
          · exact .inl (HB.out i (.inr (.inr (.inl hj))))
          · cases hj
          · cases hj
end Go.Proofs.Ythoafaaemikiaaa.Dv
