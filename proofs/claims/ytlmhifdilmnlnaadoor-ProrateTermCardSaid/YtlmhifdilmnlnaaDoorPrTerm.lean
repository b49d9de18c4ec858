/- Package prorate: ProrateTerm. -/
import Derived.Test.YtlmhifdilmnlnaaDoorPrHead
import Derived.Test.YtlmhifdilmnlnaaDoorPrTerm0
import Derived.Test.YtlmhifdilmnlnaaDoorPrTerm1
import Derived.IntWalk
namespace Go.Proofs.YtlmhifdilmnlnaaDoor.Pr
open Go.RowKit Rf
set_option maxRecDepth 100000 in
set_option maxHeartbeats 1600000 in
theorem term_no (f x cut : Int) (w : World) (hw : Cw.Tab w) (h : f < 1 ∨ 3652059 < f ∨ x < f + 1 ∨ 3652060 < x) :
    Calls Tryd.prog 8 #[.int .i64 f, .int .i64 x, .int .i64 cut] w fun e w' => e = .returned (.bool true) ∧ Below w.heap.size w w' := by
  have K1 := Lib.hid (fun w => months_no f x w h)
  have HT := Lib.hid hw
  clear h hw
  go_enter Tryd.func8, Tryd.ntmps8
  go_wp2_with fail
  refine (K1.out _).mono ?_
  rintro e w1 ⟨rfl, b1⟩
  have D1 := Lib.hid b1
  clear b1
  go_wp2_with fail
  refine (head_c _ (tab_later HT.out D1.out)).mono ?_
  rintro e w2 ⟨rfl, b2⟩
  have D2 := Lib.hid (then_below D1.out b2)
  clear b2
  go_wp2_with fail
  go_ret
  exact ⟨rfl, D2.out⟩
set_option maxRecDepth 100000 in
set_option maxHeartbeats 1600000 in
theorem term_far (f x cut k : Int) (w : World) (hw : Cw.Tab w) (hin : In k f) (hx : f < x) (hx2 : x ≤ 3652060) (hfar : 4000 < x - f) :
    Calls Tryd.prog 8 #[.int .i64 f, .int .i64 x, .int .i64 cut] w fun e w' => e = .returned (.bool true) ∧ Below w.heap.size w w' := by
  obtain ⟨n, hn⟩ : ∃ n : Nat, x - f ≤ n := ⟨(x - f).toNat, by omega⟩
  have K1 := Lib.hid (fun w hw => months_ok k f x w hw hin hx hx2 n hn _ rfl)
  have HT := Lib.hid hw
  have hd := hin.day
  obtain ⟨hd1, hd2⟩ := hd
  clear hw hn
  go_enter Tryd.func8, Tryd.ntmps8
  go_wp2_with fail
  refine (K1.out _ HT.out).mono ?_
  rintro e w1 ⟨g, cap, rfl, hown, b1⟩
  have D1 := Lib.hid b1
  clear b1 hown
  go_wp2_with fail
  refine (head_c _ (tab_later HT.out D1.out)).mono ?_
  rintro e w2 ⟨rfl, b2⟩
  have D2 := Lib.hid (then_below D1.out b2)
  clear b2
  go_wp2_with fail
  go_ret
  exact ⟨rfl, D2.out⟩
set_option maxRecDepth 100000 in
set_option maxHeartbeats 4000000 in
theorem term_in (f x cut k : Int) (w : World) (hw : Cw.Tab w) (hin : In k f) (hx : f < x) (hx2 : x ≤ 3652060) (hfar : x - f ≤ 4000) :
    Calls Tryd.prog 8 #[.int .i64 f, .int .i64 x, .int .i64 cut] w fun e w' => e = .returned (.bool true) ∧ Below w.heap.size w w' := by
  obtain ⟨n, hn⟩ : ∃ n : Nat, x - f ≤ n := ⟨(x - f).toNat, by omega⟩
  obtain ⟨L, hL⟩ : ∃ L, tm n k f x = L := ⟨_, rfl⟩
  have K1 := Lib.hid (fun w hw => months_ok k f x w hw hin hx hx2 n hn L hL)
  have hlen := tm_len n k f x hin hx hx2 hn
  have hT := tm_ok n k f x hin hx hx2 hn
  rw [hL] at hlen hT
  have KO := Lib.hid (rof_in hin)
  have TO := Lib.hid hT
  have HL := Lib.hid hL
  have HN := Lib.hid hn
  have HT := Lib.hid hw
  have hd := hin.day
  have hk1 := hin.lo
  obtain ⟨hd1, hd2⟩ := hd
  have hl4 : L.length ≤ 4000 := by omega
  have HLEN := Lib.hid hlen
  clear hw hn hL hT hlen
  go_enter Tryd.func8, Tryd.ntmps8
  go_wp2_with fail
  refine (K1.out _ HT.out).mono ?_
  rintro e w1 ⟨g, cap, rfl, hown, b1⟩
  have D1 := Lib.hid b1
  have S1 := Lib.hid (own_sh hown)
  clear b1 hown
  go_wp2_with fail
  go_loopw [9, 10, 11, 12, 13] (fun dd ii _ _ _ wr => ∃ i : Nat, i ≤ L.length ∧ ii = .int .i64 i ∧ dd = .int .i64 (sumN L i) ∧ Below w1.heap.size w1 wr) (fun _ ii _ _ _ _ => L.length - (intOf ii).toNat)
  case atStart => exact ⟨0, by omega, rfl, rfl, Below.refl _ _⟩
  case round =>
    obtain ⟨i, hi, rfl, rfl, hB⟩ := hrel
    have HB := Lib.hid hB
    have HS := Lib.hid (S1.out.later hB)
    clear hB
    by_cases hlt : i < L.length
    · have c0 := HS.out.c0 i hlt
      have c1 := HS.out.c1 i hlt
      have hmon := TO.out.mon i hlt
      have hpos := TO.out.pos i hlt
      have htop := TO.out.top i hlt
      have hmid := TO.out.mid i hlt
      have hrng := TO.out.rng i hlt
      have hsb := sumN_bd TO.out i hi
      obtain ⟨hsb1, hsb2⟩ := hsb
      have HSS := Lib.hid (sumN_succ L i hlt)
      rw [hmon] at c0
      obtain ⟨mo, hmo⟩ : ∃ mo, k + (i : Int) = mo := ⟨_, rfl⟩
      rw [hmo] at c0 htop hmid hrng
      obtain ⟨d, hd⟩ : ∃ d, L[i].2 = d := ⟨_, rfl⟩
      rw [hd] at c1 hpos htop hmid
      have HSD := Lib.hid (show sumN L (i + 1) = sumN L i + d by rw [HSS.out, hd])
      have m1 : 1 ≤ mo := by omega
      have KD := Lib.hid (fun w => rdays_in mo w m1 hrng)
      have hbe := BE mo
      have hbl := B_lo mo m1
      have heh := E_hi mo hrng
      have HMO := Lib.hid hmo
      clear hmon hd hmo HSS
      obtain ⟨sm, hsm⟩ : ∃ sm, sumN L i = sm := ⟨_, rfl⟩
      rw [hsm] at hsb1 hsb2
      have HSM := Lib.hid hsm
      rw [hsm]
      clear hsm
      obtain ⟨b0, hb0⟩ : ∃ b0, B mo = b0 := ⟨_, rfl⟩
      obtain ⟨e0, he0⟩ : ∃ e0, E mo = e0 := ⟨_, rfl⟩
      rw [hb0, he0] at hbe htop hmid
      rw [hb0] at hbl
      rw [he0] at heh
      have hs1 : IntKind.i64.wrap (e0 - (b0 + 1)) = e0 - (b0 + 1) := IntWalk.i64_in _ (by omega)
      have hs2 : IntKind.i64.wrap (e0 - (b0 + 1) + 1) = e0 - (b0 + 1) + 1 := IntWalk.i64_in _ (by omega)
      have t1 : ¬ d < 1 := by omega
      have t2 : ¬ e0 - (b0 + 1) + 1 < d := by omega
      have hdu : d ≤ 31 := by omega
      have hi4 : (i : Int) ≤ 4000 := by omega
      by_cases hz : i = 0
      · subst hz
        have hi0 : (0 : Int) < (L.length : Int) := by omega
        have hsm0 : 0 ≤ sm := by omega
        have hsm1 : sm ≤ 0 := by omega
        simp only [Nat.zero_mul, Nat.zero_add] at c0 c1
        clear hmid hsb1 hsb2 hi4 hi
        go_wp2_with fail
        refine (KD.out _).mono ?_
        rintro e w' ⟨rfl, rfl⟩
        go_wp2_with fail
        have hs1 : IntKind.i64.wrap (e0 - (b0 + 1)) = e0 - (b0 + 1) := IntWalk.i64_in _ (by omega)
        have hs2 : IntKind.i64.wrap (e0 - (b0 + 1) + 1) = e0 - (b0 + 1) + 1 := IntWalk.i64_in _ (by omega)
        have hb1 : decide (d < 1) = false := decide_eq_false (by omega)
        have hb2 : decide (e0 - (b0 + 1) + 1 < d) = false := decide_eq_false (by omega)
        go_quiet (fail)
        clear hs1 hs2 hb1 hb2 
        go_wp2_with fail
        exact ⟨⟨1, by omega, by simp, by rw [HSD.out, HSM.out], below_drewN HB.out _⟩, by simp [intOf]; omega⟩
      · obtain ⟨p, rfl⟩ : ∃ p, i = p + 1 := ⟨i - 1, by omega⟩
        have cp := HS.out.c0 p (by omega)
        have hmp := TO.out.mon p (by omega)
        rw [hmp] at cp
        obtain ⟨mp, hmpe⟩ : ∃ mp, k + (p : Int) = mp := ⟨_, rfl⟩
        rw [hmpe] at cp
        have hmm : mo = mp + 1 := by have := HMO.out; omega
        have HMM := Lib.hid hmm
        have hmp1 : 0 ≤ mp := by omega
        have hmp2 : mp ≤ 119988 := by omega
        have hd0 : p + 1 + 1 < L.length → d = e0 - b0 := fun hh => hmid (Or.inl (by omega)) hh
        have HD0 := Lib.hid hd0
        have p0 : (0 : Int) ≤ (p : Int) := by omega
        have p1 : (p : Int) + 1 < (L.length : Int) := by omega
        have p4 : (p : Int) ≤ 4000 := by omega
        have hsm0 : 0 ≤ sm := by omega
        have hsm1 : sm ≤ 31 * (p + 1) := by omega
        clear hmid hmp hmpe hmm hd0 hz hi4 hsb1 hsb2
        by_cases hlast : p + 1 + 1 < L.length
        · have hde : d = e0 - b0 := HD0.out hlast
          have hbl2 : (p : Int) + 1 + 1 < (L.length : Int) := by omega
          have HDE := Lib.hid hde
          clear hde hlast
          go_wp2_with fail
          refine (KD.out _).mono ?_
          rintro e w' ⟨rfl, rfl⟩
          go_wp2_with fail
          have hs1 : IntKind.i64.wrap (e0 - (b0 + 1)) = e0 - (b0 + 1) := IntWalk.i64_in _ (by omega)
          have hs2 : IntKind.i64.wrap (e0 - (b0 + 1) + 1) = e0 - (b0 + 1) + 1 := IntWalk.i64_in _ (by omega)
          have hb1 : decide (d < 1) = false := decide_eq_false (by omega)
          have hb2 : decide (e0 - (b0 + 1) + 1 < d) = false := decide_eq_false (by omega)
          have hb3 : decide ((0 : Int) < (p : Int) + 1) = true := decide_eq_true (by omega)
          have hb4 : (mo != mp + 1) = false := by rw [HMM.out]; simp
          have hp1 : IntKind.i64.wrap (p : Int) = (p : Int) := IntWalk.i64_in _ (by omega)
          have hp2 : IntKind.i64.wrap (mp + 1) = mp + 1 := IntWalk.i64_in _ (by omega)
          have hp3 : IntKind.i64.wrap ((p : Int) + 1 + 1) = (p : Int) + 1 + 1 := IntWalk.i64_in _ (by omega)
          have hp4 : (0 : Int) ≤ (p : Int) + 1 := by omega
          have hp5 : ((p : Int) + 1).toNat = p + 1 := by omega
          have hb5 : decide ((p : Int) + 1 + 1 < (L.length : Int)) = true := decide_eq_true (by omega)
          have hb6 : (d != e0 - (b0 + 1) + 1) = false := by rw [HDE.out]; simp; omega
          go_quiet (fail)
          clear hs1 hs2 hb1 hb2 hb3 hb4 hb5 hb6 hp1 hp2 hp3 hp5
          go_wp2_with fail
          exact ⟨⟨p + 1 + 1, by omega, by simp, by rw [HSD.out, HSM.out], below_drewN HB.out _⟩, by simp [intOf]; omega⟩
        · have hbl2 : ¬ (p : Int) + 1 + 1 < (L.length : Int) := by omega
          clear hlast
          go_wp2_with fail
          refine (KD.out _).mono ?_
          rintro e w' ⟨rfl, rfl⟩
          go_wp2_with fail
          have hs1 : IntKind.i64.wrap (e0 - (b0 + 1)) = e0 - (b0 + 1) := IntWalk.i64_in _ (by omega)
          have hs2 : IntKind.i64.wrap (e0 - (b0 + 1) + 1) = e0 - (b0 + 1) + 1 := IntWalk.i64_in _ (by omega)
          have hb1 : decide (d < 1) = false := decide_eq_false (by omega)
          have hb2 : decide (e0 - (b0 + 1) + 1 < d) = false := decide_eq_false (by omega)
          have hb3 : decide ((0 : Int) < (p : Int) + 1) = true := decide_eq_true (by omega)
          have hb4 : (mo != mp + 1) = false := by rw [HMM.out]; simp
          have hp1 : IntKind.i64.wrap (p : Int) = (p : Int) := IntWalk.i64_in _ (by omega)
          have hp2 : IntKind.i64.wrap (mp + 1) = mp + 1 := IntWalk.i64_in _ (by omega)
          have hp3 : IntKind.i64.wrap ((p : Int) + 1 + 1) = (p : Int) + 1 + 1 := IntWalk.i64_in _ (by omega)
          have hp4 : (0 : Int) ≤ (p : Int) + 1 := by omega
          have hp5 : ((p : Int) + 1).toNat = p + 1 := by omega
          have hb5 : decide ((p : Int) + 1 + 1 < (L.length : Int)) = false := decide_eq_false (by omega)
          go_quiet (fail)
          clear hs1 hs2 hb1 hb2 hb3 hb4 hb5 hp1 hp2 hp3 hp5
          go_wp2_with fail
          exact ⟨⟨p + 1 + 1, by omega, by simp, by rw [HSD.out, HSM.out], below_drewN HB.out _⟩, by simp [intOf]; omega⟩
    · obtain rfl : i = L.length := by omega
      have hsum : sumN L L.length = x - f := by unfold sumN; rw [List.take_length]; exact TO.out.sum
      rw [hsum]
      have hl1 := HLEN.out.1
      have c00 := HS.out.c0 0 (by omega)
      rw [TO.out.mon 0 (by omega)] at c00
      simp at c00
      have hl0 : (0 : Int) < (L.length : Int) := by omega
      have hle : ((L.length : Int) == 0) = false := by simp; intro h0; rw [h0] at hl1; simp at hl1
      obtain ⟨r, hr⟩ : ∃ r, cut.tmod (x - f) = r := ⟨_, rfl⟩
      have r1 : r < x - f := by rw [← hr]; exact Int.tmod_lt_of_pos _ (by omega)
      have r2 : -(x - f) < r := by
        rw [← hr]
        have := Int.tmod_lt_of_pos (-cut) (show 0 < x - f by omega)
        rw [Int.neg_tmod] at this
        omega
      have t3 : IntKind.i64.wrap r = r := IntWalk.i64_in _ (by omega)
      have DW := Lib.hid (then_below D1.out HB.out)
      clear hsum hlt hi
      by_cases hr0 : r ≤ 0
      · go_wp2_with fail
        refine (KO.out _).mono ?_
        rintro e w' ⟨rfl, rfl⟩
        go_wp2_with fail
        refine (head_c _ (tab_later HT.out DW.out)).mono ?_
        rintro e w2 ⟨rfl, b2⟩
        have D2 := Lib.hid (then_below DW.out b2)
        clear b2
        go_wp2_with fail
        go_ret
        exact ⟨rfl, D2.out⟩
      · obtain ⟨j, hj⟩ := In.ex (f + r) (by omega) (by omega)
        obtain ⟨A0, T, ma, la, mb, lb, hA, hB, hcut⟩ := tm_cut n n n k j f (f + r) x hin hj (by omega) (by omega) hx2 HN.out (by have := HN.out; omega) (by have := HN.out; omega)
        have hla := tm_len n k f (f + r) hin (by omega) (by omega) (by have := HN.out; omega)
        have hlb := tm_len n j (f + r) x hj (by omega) hx2 (by have := HN.out; omega)
        rw [hA] at hla
        rw [hB] at hlb
        have KA := Lib.hid (fun w hw => months_ok k f (f + r) w hw hin (by omega) (by omega) n (by have := HN.out; omega) _ hA)
        have KB := Lib.hid (fun w hw => months_ok j (f + r) x w hw hj (by omega) hx2 n (by have := HN.out; omega) _ hB)
        simp only [List.length_append, List.length_cons, List.length_nil, Nat.zero_add] at KA KB hla hlb
        rw [HL.out] at hcut
        have hr1 : 0 < r := by omega
        have hna : A0.length ≤ 4000 := by omega
        have hnb : T.length ≤ 4000 := by omega
        have HCUT := Lib.hid hcut
        have hTA := tm_ok n k f (f + r) hin (by omega) (by omega) (by have := HN.out; omega)
        have hTB := tm_ok n j (f + r) x hj (by omega) hx2 (by have := HN.out; omega)
        rw [hA] at hTA
        rw [hB] at hTB
        have la1 := hTA.pos A0.length (by simp)
        have la2 := hTA.top A0.length (by simp)
        have la3 := BE (k + (A0.length : Int))
        have lb1 := hTB.pos 0 (by simp)
        have lb2 := hTB.top 0 (by simp)
        have lb3 := BE (j + ((0 : Nat) : Int))
        simp only [List.getElem_concat_length, List.getElem_cons_zero] at la1 la2 lb1 lb2
        obtain ⟨la4, lb4⟩ : la ≤ 31 ∧ lb ≤ 31 := by omega
        clear hTA hTB la2 la3 lb2 lb3
        clear hA hB hcut hr0 hla hlb
        go_wp2_with fail
        refine (KO.out _).mono ?_
        rintro e w' ⟨rfl, rfl⟩
        go_wp2_with fail
        refine (KA.out _ (tab_later HT.out DW.out)).mono ?_
        rintro e w2 ⟨ga, ca, rfl, howna, b2⟩
        have DA := Lib.hid (then_below DW.out b2)
        have SL2 := Lib.hid (HS.out.later b2)
        have OA := Lib.hid howna
        clear b2 howna c00
        go_wp2_with fail
        refine (KB.out _ (tab_later HT.out DA.out)).mono ?_
        rintro e w3 ⟨gb, cb, rfl, hownb, b3⟩
        have DB := Lib.hid (then_below DA.out b3)
        have SL3 := Lib.hid (SL2.out.later b3)
        have OA3 := Lib.hid (own_later OA.out b3)
        have OB := Lib.hid hownb
        have HB23 := Lib.hid b3
        clear b3 hownb
        have z1 : ((A0.length : Int) + 1 == 0) = false := by simp; omega
        have z2 : ((T.length : Int) + 1 == 0) = false := by simp; omega
        go_wp2_with fail
        have hRA := Rw.own OA3.out
        have hRB := Rw.own OB.out
        have a0 : w3.cell? ⟨ga, A0.length * 2, none⟩ = some (.int .i64 ma) := hRA.at' _ _ (by have := (cellsL_at (A0 ++ [(ma, la)]) A0.length (by simp)).1; simpa using this)
        have b0 : w3.cell? ⟨gb, 0, none⟩ = some (.int .i64 mb) := hRB.at' _ _ (by simp [cellsL])
        have HRA := Lib.hid hRA
        have HRB := Lib.hid hRB
        clear hRA hRB
        have HZ := Lib.hid (own_zero_n w3)
        have HAL := Lib.hid (below_zero_n w3)
        obtain ⟨i0, hi, hz0, hz1, hz2⟩ := info_parts infoShare
        by_cases hm : ma = mb
        · have hcut : A0 ++ (mb, lb + la) :: T = L := by
            rcases HCUT.out with h' | h'
            · exact h'.2
            · exact absurd hm h'.1
          have HC := Lib.hid hcut
          clear hcut
          have hbn : (ma == mb) = true := by simp [hm]
          have q0 : (0 : Int) ≤ (A0.length : Int) := by omega
          have q1 : (A0.length : Int) < (A0.length : Int) + 1 := by omega
          have q2 : (0 : Int) < (T.length : Int) + 1 := by omega
          go_quiet (fail)
          have a1 : w3.cell? ⟨ga, A0.length * 2 + 1, none⟩ = some (.int .i64 la) := HRA.out.at' _ _ (by have := (cellsL_at (A0 ++ [(ma, la)]) A0.length (by simp)).2; simpa using this)
          have b1 : w3.cell? ⟨gb, 1, none⟩ = some (.int .i64 lb) := HRB.out.at' _ _ (by simp [cellsL])
          have fz : w3.frozen? ⟨gb, 1, none⟩ = false := own_free OB.out 1
          have hw1 : IntKind.i64.wrap (lb + la) = lb + la := IntWalk.i64_in _ (by omega)
          have hne : ga ≠ gb := by have h1 := (Rw.own OA.out).lt; have h2 := own_ge OB.out gb rfl; omega
          have HF := Lib.hid (fun m => And.intro (set_left m (.int .i64 (lb + la)) (Rw.left (cellsL_app A0 [(ma, la)] ▸ HRA.out)) hne) (And.intro (set_right m HRB.out (v := .int .i64 (lb + la))) (below_set m (.int .i64 (lb + la)) HB23.out (own_ge OB.out gb rfl))))
          have qc : A0.length ≤ ca := by have := own_cap OA.out; omega
          have qci : (A0.length : Int) ≤ (ca : Int) := by omega
          clear hne
          go_wp2_with fail
          go_region
          have HF4 := HF.out (nq + 1)
          generalize (w3.drewN (nq + 1)).setCell ⟨gb, 1, none⟩ (.int .i64 (lb + la)) = W4 at HF4 ⊢
          clear a0 b0 a1 b1 fz hw1 hbn hm
          obtain ⟨f1, f2, f3⟩ := HF4
          have F1 := Lib.hid f1
          have F2 := Lib.hid f2
          have F3 := Lib.hid f3
          clear f1 f2 f3
          have HAL4 := Lib.hid ((Below.refl W4.heap.size W4).alloc (Nat.le_refl _) (.cells #[] 51))
          have HZ4 := Lib.hid (own_zero W4 51 W4.heap.size 2 (Nat.le_refl _))
          go_wp2_with (at_builtin; refine wpList_append_own _ rfl _ _ 38 rfl W4.heap.size 51 i0 (.agg #[.int .i64 0, .int .i64 0]) 2 16 Tryd.underlying38 hi hz0 hz1 hz2 rfl (by decide) _ _ _ rfl HZ4.out ⟨ga, 0, none⟩ A0.length ca (cellsL A0) rfl ?c0 ?c1 ?c2 ?c3 ?c4 ?c5 ?_)
          case c0 => rw [cellsL_len]
          case c1 => exact (F1.out.later HAL4.out).src
          case c2 => exact cellsL_one _
          case c3 => unfold maxLen; omega
          case c4 => omega
          case c5 => exact HAL4.out.size
          intro v1 W5 hown1 hg1 _
          have HB5 := Lib.hid (HAL4.out.grown hg1 HAL4.out.size (own_ge HZ4.out))
          have hown1 : W5.ownsRow W4.heap.size 51 2 v1 A0.length (cellsL A0) := by simpa using hown1
          clear hg1
          go_wp2_with (at_builtin; refine wpList_append_own _ rfl _ _ 38 rfl W4.heap.size 51 i0 (.agg #[.int .i64 0, .int .i64 0]) 2 16 Tryd.underlying38 hi hz0 hz1 hz2 rfl (by decide) _ _ _ rfl hown1 ⟨gb, 0, none⟩ (T.length + 1) cb (cellsL ((mb, lb + la) :: T)) rfl ?c0 ?c1 ?c2 ?c3 ?c4 ?c5 ?_)
          case c0 => rw [cellsL_len]; simp
          case c1 => exact (F2.out.later HB5.out).src
          case c2 => exact cellsL_one _
          case c3 => unfold maxLen; omega
          case c4 => omega
          case c5 => exact HB5.out.size
          intro v2 W6 hown2 hg2 _
          have HB6 := Lib.hid (HB5.out.grown hg2 HB5.out.size (own_ge hown1))
          have D5 := Lib.hid (then_below DA.out (F3.out.trans (HB6.out.mono F3.out.size)))
          have S6 := Lib.hid (SL2.out.later (F3.out.trans (HB6.out.mono F3.out.size)))
          rw [← cellsL_app, show A0.length + (T.length + 1) = L.length by rw [← HC.out]; simp] at hown2
          have hown3 := HC.out ▸ hown2
          obtain ⟨g2, c2, rfl⟩ := own_form hown3 (by omega)
          have S5 := Lib.hid (own_sh hown3)
          clear hown1 hown2 hown3 hg2
          go_wp2_with fail
          refine (same_c g2 c2 g cap L _ S5.out S6.out (by omega)).mono ?_
          rintro e w6 ⟨rfl, b6⟩
          have D6 := Lib.hid (then_below D5.out b6)
          clear b6
          go_wp2_with fail
          refine (head_c _ (tab_later HT.out D6.out)).mono ?_
          rintro e w7 ⟨rfl, b7⟩
          have D7 := Lib.hid (then_below D6.out b7)
          clear b7
          go_wp2_with fail
          go_ret
          exact ⟨rfl, D7.out⟩
        · have hcut : A0 ++ (ma, la) :: (mb, lb) :: T = L := by
            rcases HCUT.out with h' | h'
            · exact absurd h'.1 hm
            · exact h'.2
          have HC := Lib.hid hcut
          clear hcut
          have hbn : (ma == mb) = false := by simp [hm]
          have q0 : (0 : Int) ≤ (A0.length : Int) := by omega
          have q1 : (A0.length : Int) < (A0.length : Int) + 1 := by omega
          have q2 : (0 : Int) < (T.length : Int) + 1 := by omega
          go_quiet (fail)
          clear hbn hm a0 b0
          go_wp2_with (at_builtin; refine wpList_append_own _ rfl _ _ 38 rfl w3.heap.size 51 i0 (.agg #[.int .i64 0, .int .i64 0]) 2 16 Tryd.underlying38 hi hz0 hz1 hz2 rfl (by decide) _ _ _ rfl (HZ.out _) ⟨ga, 0, none⟩ (A0.length + 1) ca (cellsL (A0 ++ [(ma, la)])) rfl ?c0 ?c1 ?c2 ?c3 ?c4 ?c5 ?_)
          case c0 => rw [cellsL_len]; simp
          case c1 => exact (HRA.out.later (HAL.out _)).src
          case c2 => exact cellsL_one _
          case c3 => unfold maxLen; omega
          case c4 => omega
          case c5 => exact (HAL.out _).size
          intro v1 W4 hown1 hg1 _
          have HB4 := Lib.hid ((HAL.out _).grown hg1 (HAL.out _).size (own_ge (HZ.out 0)))
          have hown1 : W4.ownsRow w3.heap.size 51 2 v1 (A0.length + 1) (cellsL (A0 ++ [(ma, la)])) := by simpa using hown1
          clear hg1
          go_wp2_with (at_builtin; refine wpList_append_own _ rfl _ _ 38 rfl w3.heap.size 51 i0 (.agg #[.int .i64 0, .int .i64 0]) 2 16 Tryd.underlying38 hi hz0 hz1 hz2 rfl (by decide) _ _ _ rfl hown1 ⟨gb, 0, none⟩ (T.length + 1) cb (cellsL ((mb, lb) :: T)) rfl ?c0 ?c1 ?c2 ?c3 ?c4 ?c5 ?_)
          case c0 => rw [cellsL_len]; simp
          case c1 => exact (HRB.out.later HB4.out).src
          case c2 => exact cellsL_one _
          case c3 => unfold maxLen; omega
          case c4 => omega
          case c5 => exact HB4.out.size
          intro v2 W5 hown2 hg2 _
          have HB5 := Lib.hid (HB4.out.grown hg2 HB4.out.size (own_ge hown1))
          rw [← cellsL_app, List.append_assoc, show A0.length + 1 + (T.length + 1) = L.length by rw [← HC.out]; simp; omega] at hown2
          have hown3 := HC.out ▸ hown2
          obtain ⟨g2, c2, rfl⟩ := own_form hown3 (by omega)
          have S5 := Lib.hid (own_sh hown3)
          clear hown1 hown2 hown3 hg2
          go_wp2_with fail
          refine (same_c g2 c2 g cap L _ S5.out (SL3.out.later HB5.out) (by omega)).mono ?_
          rintro e w6 ⟨rfl, b6⟩
          have D6 := Lib.hid (then_below (then_below DB.out HB5.out) b6)
          clear b6
          go_wp2_with fail
          refine (head_c _ (tab_later HT.out D6.out)).mono ?_
          rintro e w7 ⟨rfl, b7⟩
          have D7 := Lib.hid (then_below D6.out b7)
          clear b7
          go_wp2_with fail
          go_ret
          exact ⟨rfl, D7.out⟩
theorem term_law (f x cut : Int) (w : World) (hw : Cw.Tab w) :
    Calls Tryd.prog 8 #[.int .i64 f, .int .i64 x, .int .i64 cut] w fun e w' => e = .returned (.bool true) ∧ Below w.heap.size w w' := by
  by_cases h : f < 1 ∨ 3652059 < f ∨ x < f + 1 ∨ 3652060 < x
  · exact term_no f x cut w hw h
  · obtain ⟨k, hk⟩ := In.ex f (by omega) (by omega)
    by_cases h4 : x - f ≤ 4000
    · exact term_in f x cut k w hw hk (by omega) (by omega) h4
    · exact term_far f x cut k w hw hk (by omega) (by omega) (by omega)
end Go.Proofs.YtlmhifdilmnlnaaDoor.Pr
