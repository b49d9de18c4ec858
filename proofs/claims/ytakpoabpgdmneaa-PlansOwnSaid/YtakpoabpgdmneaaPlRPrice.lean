/- Package plans: the document's Price, Sold. -/
import Derived.Test.YtakpoabpgdmneaaPlDoc
import Derived.Deep.LoopGhost
namespace Go.Proofs.Ytakpoabpgdmneaa.Pl
open Go Go.RowKit Ck Go.Maps
def priceT (M : Int → Option Pn) (k day : Int) : Int × Int := if dayB day = false then (0, 2) else match M k with
  | none => (0, 7)
  | some x => priceL x.ps day
theorem priceM_T (V : Int → Option Pv) (k day : Int) : priceM V k day = priceT (mdl V) k day := by
  unfold priceM priceT priceR findM mdl
  cases dayB day <;> cases V k <;> rfl
def soldT (M : Int → Option Pn) (k day : Int) : Bool := decide ((priceT M k day).2 = 0) && (decide (((M k).getD Pn.zero).ret = 0) || decide (day < ((M k).getD Pn.zero).ret))
theorem soldV_T (V : Int → Option Pv) (k day : Int) : soldV V k day = soldT (mdl V) k day := by
  unfold soldV soldT
  rw [priceM_T]
  have e : ((mdl V k).getD Pn.zero) = ((V k).getD Pv.zero).x := by
    unfold mdl
    cases V k <;> rfl
  rw [e]
section
variable {S : Nat → Prop} {w : World} {M : Int → Option Pn} {K : List Int} {Q : List Pf} {va : Option Addr} {vc : Nat}
set_option maxRecDepth 100000 in
set_option maxHeartbeats 1600000 in
theorem rprice_c (t : Tied M K Q) (h : Doc S w (.slice va Q.length vc) Q) (k day : Int) (hQ : Q.length ≤ 1000000) : Calls Try.prog 16 #[.slice va Q.length vc, .int .u64 k, .int .i64 day] w fun e w' => e = .returned (.tuple #[.int .i64 (priceT M k day).1, .int .i64 (priceT M k day).2]) ∧ w = w' := by
  have KD : Hid (∀ u, Calls Try.prog 32 #[.int .i64 day] u fun e w' => e = .returned (.bool (dayB day)) ∧ u = w') := fun u => rday_c day u
  have KA := Lib.hid (at_c t h k hQ)
  have G := Lib.hid t
  have H := Lib.hid h
  obtain ⟨R, hR⟩ : ∃ R, R = priceT M k day := ⟨_, rfl⟩
  rw [← hR]
  have HR := Lib.hid hR
  clear t h hR
  obtain ⟨Ra, Re⟩ := R
  obtain ⟨dd, hdd⟩ : ∃ dd, dd = dayB day := ⟨_, rfl⟩
  rw [← hdd] at KD
  have HDD := Lib.hid hdd
  clear hdd
  simp only
  go_enter Try.func16, Try.ntmps16
  go_wp2_with fail
  refine (KD.out _).mono ?_
  rintro _ _ ⟨rfl, rfl⟩
  cases dd with
  | false =>
    have HF : Hid (Ra = 0 ∧ Re = 2) := by
      have := HR.out
      unfold priceT at this
      rw [← HDD.out, if_pos rfl] at this
      injection this with h1 h2
      exact ⟨h1, h2⟩
    go_wp2_with fail
    refine bodyPost_ret (v := .tuple #[.int .i64 0, .int .i64 2]) (by simp [results, Try.results16, go_sem]) rfl ?_
    exact ⟨by rw [HF.out.1, HF.out.2], rfl⟩
  | true =>
    have HR1 : Hid ((Ra, Re) = match M k with | none => (0, 7) | some x => priceL x.ps day) := by
      have := HR.out
      unfold priceT at this
      rw [← HDD.out, if_neg (by decide)] at this
      exact this
    clear HR HDD KD
    go_wp2_with fail
    refine KA.out.mono ?_
    rintro _ _ ⟨rfl, z, rfl, hz⟩
    rcases hz with ⟨rfl, hm⟩ | ⟨i, hi, hm, hid, rfl⟩
    · have HF : Hid (Ra = 0 ∧ Re = 7) := by
        have := HR1.out
        rw [hm] at this
        injection this with h1 h2
        exact ⟨h1, h2⟩
      clear HR1 KA hm
      go_wp2_with fail
      refine bodyPost_ret (v := .tuple #[.int .i64 0, .int .i64 7]) (by simp [results, Try.results16, go_sem]) rfl ?_
      exact ⟨by rw [HF.out.1, HF.out.2], rfl⟩
    · obtain ⟨g, cap, hv, hf⟩ := H.out.five hi
      obtain ⟨rfl, rfl⟩ : va = some ⟨g, 0, none⟩ ∧ vc = cap := by simpa using hv
      have hp := (H.out.prs _ (List.getElem_mem hi)).1
      have hok := okB_len (G.out.ok hi)
      have HR2 : Hid ((Ra, Re) = priceL Q[i].x.ps day) := by
        have := HR1.out
        rw [hm] at this
        exact this
      clear HR1
      have c3 := hf.c3
      obtain ⟨L, hL⟩ : ∃ L, L = Q[i].x.ps := ⟨_, rfl⟩
      obtain ⟨pa, hpa⟩ : ∃ pa, pa = Q[i].a := ⟨_, rfl⟩
      obtain ⟨pc, hpc⟩ : ∃ pc, pc = Q[i].cap := ⟨_, rfl⟩
      rw [← hL, ← hpa, ← hpc] at c3
      rw [← hL, ← hpa] at hp
      rw [← hL] at hok HR2
      have HP := Lib.hid hp
      have j0 : (0 : Int) ≤ (i : Int) := by omega
      have j1 : (i : Int) < (Q.length : Int) := by omega
      have hl2 := hok.2
      clear hf hv hp hL hpa hpc hid hm KA hok
      go_upto_region 8 with (fail)
      go_loopg [9, 10, 11] L.length (fun kx s9 s10 s11 wr => ∃ m : Nat, s11 = .int .i64 (m : Int) ∧ m ≤ L.length ∧ (∃ n e : Int, s9 = .int .i64 n ∧ s10 = .int .i64 e ∧ Hid ((n, e) = (L.take m).foldl (stepP day) (0, 9))) ∧ Hid (w = wr) ∧ L.length ≤ m + kx)
      case atStart => exact ⟨0, rfl, Nat.zero_le _, ⟨0, 9, rfl, rfl, by show _ = _; rfl⟩, rfl, by omega⟩
      case round =>
        obtain ⟨m, rfl, hm9, ⟨n, e, rfl, rfl, HJ⟩, HW, hkx⟩ := hrel
        obtain rfl := HW.out
        by_cases hlt : m < L.length
        · obtain ⟨ab, ao, rfl, _, d0, d1⟩ := HP.out m hlt
          obtain ⟨x, hx⟩ : ∃ x, x = L[m] := ⟨_, rfl⟩
          rw [← hx] at d0 d1
          have HX := Lib.hid hx
          obtain ⟨xf, xa⟩ := x
          simp only at d0 d1
          have m0 : (0 : Int) ≤ (m : Int) := by omega
          have m1 : (m : Int) < (L.length : Int) := by omega
          have HLT := Lib.hid hlt
          clear hx
          by_cases hq : xf ≤ day
          · have HJ2 : Hid ((xa, 0) = (L.take (m + 1)).foldl (stepP day) (0, 9)) := by
              show _ = _
              rw [List.take_succ_eq_append_getElem HLT.out, List.foldl_append, List.foldl_cons, List.foldl_nil, ← HX.out]
              unfold stepP
              rw [if_pos hq]
            go_wp2_with fail
            go_roundg (L.length - (m + 1))
            case measure => omega
            case rel => exact ⟨m + 1, by simp, by omega, ⟨_, _, rfl, rfl, HJ2⟩, rfl, by omega⟩
          · have HJ2 : Hid ((n, e) = (L.take (m + 1)).foldl (stepP day) (0, 9)) := by
              show _ = _
              rw [List.take_succ_eq_append_getElem HLT.out, List.foldl_append, List.foldl_cons, List.foldl_nil, ← HX.out, ← HJ.out]
              unfold stepP
              rw [if_neg hq]
            go_wp2_with fail
            go_roundg (L.length - (m + 1))
            case measure => omega
            case rel => exact ⟨m + 1, by simp, by omega, ⟨_, _, rfl, rfl, HJ2⟩, rfl, by omega⟩
        · obtain rfl : m = L.length := by omega
          have HF : Hid (Ra = n ∧ Re = e) := by
            have := HJ.out
            rw [List.take_length] at this
            have h2 := HR2.out.trans this.symm
            injection h2 with h3 h4
            exact ⟨h3, h4⟩
          clear hkx hlt HJ
          go_wp2_with fail
          refine bodyPost_ret (v := .tuple #[.int .i64 n, .int .i64 e]) (by simp [results, Try.results16, go_sem]) rfl ?_
          exact ⟨by rw [HF.out.1, HF.out.2], rfl⟩
set_option maxRecDepth 100000 in
set_option maxHeartbeats 1600000 in
theorem rsold_c (t : Tied M K Q) (h : Doc S w (.slice va Q.length vc) Q) (k day : Int) (hQ : Q.length ≤ 1000000) : Calls Try.prog 18 #[.slice va Q.length vc, .int .u64 k, .int .i64 day] w fun e w' => e = .returned (.bool (soldT M k day)) ∧ w = w' := by
  have KP := Lib.hid (rprice_c t h k day hQ)
  have KA := Lib.hid (at_c t h k hQ)
  have H := Lib.hid h
  obtain ⟨R, hR⟩ : ∃ R, R = soldT M k day := ⟨_, rfl⟩
  rw [← hR]
  have HR := Lib.hid hR
  unfold soldT at HR
  have HN : Hid (M k = none → (priceT M k day).2 ≠ 0) := fun hm => by
    unfold priceT
    split
    · show (2 : Int) ≠ 0; decide
    · rw [hm]; show (7 : Int) ≠ 0; decide
  obtain ⟨r, hr⟩ : ∃ r, r = priceT M k day := ⟨_, rfl⟩
  rw [← hr] at KP HR HN
  clear t h hR hr
  obtain ⟨ra, re⟩ := r
  simp only at KP HR HN
  go_enter Try.func18, Try.ntmps18
  go_wp2_with fail
  refine KP.out.mono ?_
  rintro _ _ ⟨rfl, rfl⟩
  by_cases he : re = 0
  · subst he
    clear KP
    go_wp2_with fail
    refine KA.out.mono ?_
    rintro _ _ ⟨rfl, z, rfl, hz⟩
    rcases hz with ⟨rfl, hm⟩ | ⟨i, hi, hm, hid, rfl⟩
    · exact absurd rfl (HN.out hm)
    · obtain ⟨g, cap, hv, hf⟩ := H.out.five hi
      obtain ⟨rfl, rfl⟩ : va = some ⟨g, 0, none⟩ ∧ vc = cap := by simpa using hv
      have c4 := hf.c4
      obtain ⟨yr, hyr⟩ : ∃ yr, yr = Q[i].x.ret := ⟨_, rfl⟩
      rw [← hyr] at c4
      have HRR : Hid (R = (decide (yr = 0) || decide (day < yr))) := by
        show _ = _
        rw [HR.out, hm, hyr]
        simp
      have j0 : (0 : Int) ≤ (i : Int) := by omega
      have j1 : (i : Int) < (Q.length : Int) := by omega
      clear hf hv hid hm KA HR hyr HN
      by_cases hz : yr = 0
      · subst hz
        have HF : Hid (R = true) := by show _ = _; rw [HRR.out]; simp
        go_wp2_with fail
        go_ret
        exact ⟨by rw [HF.out]; rfl, rfl⟩
      · have hne : (yr == 0) = false := beq_eq_false_iff_ne.2 hz
        have HF : Hid (R = decide (day < yr)) := by show _ = _; rw [HRR.out]; simp [hz]
        go_wp2_with fail
        go_ret
        exact ⟨by rw [HF.out]; rfl, rfl⟩
  · have hne : (re == 0) = false := beq_eq_false_iff_ne.2 he
    have HF : Hid (R = false) := by
      show _ = _
      rw [HR.out]
      simp [he]
    clear HR KA KP
    go_wp2_with fail
    go_ret
    exact ⟨by rw [HF.out]; rfl, rfl⟩
end
end Go.Proofs.Ytakpoabpgdmneaa.Pl
