/- Package journal: Totals. -/
import Derived.Test.YtnblilonjpfdnaaJnTidy
namespace Go.Proofs.Ytnblilonjpfdnaa.Jn
open Go Go.RowKit Ck
def upS (L : List Ln) : Int := (picked pUp L).sum
def downS (L : List Ln) : Int := (picked pDown L).sum
theorem picked_cons (p : Int → Bool) (x : Ln) (L : List Ln) : picked p (x :: L) = if p x.amt = true then x.amt :: picked p L else picked p L := by
  unfold picked
  rw [List.map_cons, List.filter_cons]
theorem up_down (L : List Ln) (h : L.all Ln.okB = true) : upS L + downS L = sumL L ∧ 0 ≤ upS L := by
  induction L with
  | nil => exact ⟨rfl, by decide⟩
  | cons x L ih =>
    rw [List.all_cons, Bool.and_eq_true] at h
    obtain ⟨h1, h2⟩ := ih h.2
    have h3 := (okB_amt h.1).1
    unfold upS downS sumL at h1
    unfold upS at h2
    unfold upS downS sumL
    rw [picked_cons, picked_cons, List.map_cons, List.sum_cons]
    by_cases h0 : 0 < x.amt
    · rw [if_pos (show pUp x.amt = true by unfold pUp; simpa using h0), if_neg (show ¬ pDown x.amt = true by unfold pDown; simp; omega), List.sum_cons]
      exact ⟨by omega, by omega⟩
    · rw [if_neg (show ¬ pUp x.amt = true by unfold pUp; simpa using h0), if_pos (show pDown x.amt = true by unfold pDown; simp; omega), List.sum_cons]
      exact ⟨by omega, by omega⟩
/-- What Totals says. -/
def totM (d k : Int) (L : List Ln) : Int × Int := if chkM d k L ≠ 0 then (0, chkM d k L) else if Ar.ok (upS L) = true then (upS L, 0) else (0, 2)
theorem chk_ok' {d k : Int} {L : List Ln} (h : chkM d k L = 0) : badB d k L = false ∧ L.all Ln.okB = true ∧ sumL L = 0 := by
  unfold chkM at h
  by_cases h1 : badB d k L = true ∨ L.all Ln.okB = false
  · rw [if_pos h1] at h; omega
  · rw [if_neg h1] at h
    by_cases h2 : sumL L ≠ 0
    · rw [if_pos h2] at h; omega
    · refine ⟨?_, ?_, Classical.byContradiction h2⟩
      · cases hb : badB d k L with
        | false => rfl
        | true => exact absurd (.inl hb) h1
      · cases hb : L.all Ln.okB with
        | true => rfl
        | false => exact absurd (.inr hb) h1
theorem ret_tot {x y z x' y' z' : Int} (h : x' = x) (h2 : y' = y) (h3 : z' = z) : Ending.returned (.tuple #[.int .i64 x, .int .i64 y, .int .i64 z]) = Ending.returned (.tuple #[.int .i64 x', .int .i64 y', .int .i64 z']) := by rw [h, h2, h3]
section
set_option maxRecDepth 100000
set_option maxHeartbeats 1600000
theorem totals_c (d k s : Int) (L : List Ln) (a : Option Addr) (cap : Nat) (w : World) (h : Lns w a L) (hl : L.length ≤ 1000000) : Calls Try.prog 12 #[(.agg #[.int .i64 d, .int .u8 k, .int .u64 s, .slice a L.length cap])] w fun e w' => e = .returned (.tuple #[.int .i64 (totM d k L).1, .int .i64 (totM d k L).1, .int .i64 (totM d k L).2]) ∧ Below w.heap.size w w' := by
  have H := Lib.hid h
  have HL := Lib.hid hl
  obtain ⟨⟨R1, R2⟩, hR⟩ : ∃ R, R = totM d k L := ⟨_, rfl⟩
  rw [← hR]
  simp only
  have HR := Lib.hid hR
  have HB0 : Hid (Below w.heap.size w (w.alloc (.cells #[.int .i64 d, .int .u8 k, .int .u64 s, .slice a L.length cap] TEn))) := (Below.refl _ w).alloc (Nat.le_refl _) _
  have RE0 : Hid (Rw (w.alloc (.cells #[.int .i64 d, .int .u8 k, .int .u64 s, .slice a L.length cap] TEn)) w.heap.size TEn [.int .i64 d, .int .u8 k, .int .u64 s, .slice a L.length cap]) := Rw.new w [.int .i64 d, .int .u8 k, .int .u64 s, .slice a L.length cap] TEn
  clear h hR hl
  go_enter Try.func12, Try.ntmps12
  go_upto_region 1 with (fail)
  obtain ⟨be, hbe⟩ : ∃ be, be = w.heap.size := ⟨_, rfl⟩
  rw [← hbe] at RE0 ⊢
  have HBE := Lib.hid hbe
  clear hbe
  generalize w.alloc (.cells #[.int .i64 d, .int .u8 k, .int .u64 s, .slice a L.length cap] TEn) = W2 at HB0 RE0 ⊢
  have KC := Lib.hid (check_c d k s L a cap W2 (H.out.later (by rw [← HBE.out] at *; exact (by have := HB0.out; exact this))) HL.out)
  obtain ⟨ch, hch⟩ : ∃ ch, ch = chkM d k L := ⟨_, rfl⟩
  rw [← hch] at KC
  have HCH := Lib.hid hch
  have e0 : W2.cell? ⟨be, 0, none⟩ = some (.int .i64 d) := RE0.out.cell 0
  have e1 : W2.cell? ⟨be, 1, none⟩ = some (.int .u8 k) := RE0.out.cell 1
  have e2 : W2.cell? ⟨be, 2, none⟩ = some (.int .u64 s) := RE0.out.cell 2
  have e3 : W2.cell? ⟨be, 3, none⟩ = some (.slice a L.length cap) := RE0.out.cell 3
  clear hch
  go_wp2_with fail
  refine KC.out.mono ?_
  rintro _ W3 ⟨rfl, hb3⟩
  have HB3 : Hid (Below w.heap.size w W3) := HB0.out.trans (hb3.mono HB0.out.size)
  have RE3 := Lib.hid (RE0.out.later hb3)
  clear e0 e1 e2 e3 hb3 HB0 RE0 KC
  by_cases hc0 : ch = 0
  · subst hc0
    have HCK := Lib.hid (chk_ok' HCH.out.symm)
    have HRR : Hid ((R1, R2) = if Ar.ok (upS L) = true then (upS L, 0) else (0, 2)) := by show _ = _; rw [HR.out]; unfold totM; rw [← HCH.out, if_neg (by simp)]
    have HUD := Lib.hid (up_down L HCK.out.2.1)
    clear HCH HR
    have e3 : W3.cell? ⟨be, 3, none⟩ = some (.slice a L.length cap) := RE3.out.cell 3
    have KA := Lib.hid (amounts_up L a cap W3 (H.out.later HB3.out) HL.out)
    go_wp2_with fail
    refine KA.out.mono ?_
    rintro _ W4 ⟨v, rfl, hown, hb4⟩
    have KS := Lib.hid (sum_any _ v _ W4 hown (picked_i64 HCK.out.2.1) (by have h1 := picked_len pUp L; have h2 := HL.out; omega))
    obtain ⟨va, vc, hv⟩ := own_form hown
    have HB4 : Hid (Below w.heap.size w W4) := HB3.out.trans (hb4.mono HB3.out.size)
    have RE4 := Lib.hid (RE3.out.later hb4)
    have hsum : (picked pUp L).sum = upS L := rfl
    rw [hsum] at KS
    have HPL : Hid ((picked pUp L).length ≤ 1000000) := Nat.le_trans (picked_len pUp L) HL.out
    generalize (picked pUp L).length = nv at hv HPL
    subst hv
    clear e3 hb4 hown KA HB3 RE3 hsum
    go_wp2_with fail
    refine KS.out.mono ?_
    rintro _ W5 ⟨rfl, hb5⟩
    have HB5 : Hid (Below w.heap.size w W5) := HB4.out.trans (hb5.mono HB4.out.size)
    have RE5 := Lib.hid (RE4.out.later hb5)
    clear hb5 KS HB4 RE4
    have HDS : Hid (downS L = - upS L) := by
      have h1 := HUD.out.1
      have h2 := HCK.out.2.2
      show _ = _
      omega
    have HU0 := Lib.hid HUD.out.2
    obtain ⟨u, hu⟩ : ∃ u, u = upS L := ⟨_, rfl⟩
    rw [← hu] at HRR HDS HU0 ⊢
    clear hu HUD
    by_cases hf : Ar.Fits u
    · obtain ⟨z1, z2⟩ := fits_yes hf
      rw [z1, z2]
      rw [z1] at HRR
      rw [if_pos rfl] at HRR
      have HF := Lib.hid hf
      clear z1 z2 hf
      have e3 : W5.cell? ⟨be, 3, none⟩ = some (.slice a L.length cap) := RE5.out.cell 3
      have KA := Lib.hid (amounts_down L a cap W5 (H.out.later HB5.out) HL.out)
      go_wp2_with fail
      refine KA.out.mono ?_
      rintro _ W6 ⟨v, rfl, hown, hb6⟩
      have KS := Lib.hid (sum_any _ v _ W6 hown (picked_i64 HCK.out.2.1) (by have h1 := picked_len pDown L; have h2 := HL.out; omega))
      obtain ⟨va6, vc6, hv⟩ := own_form hown
      have HB6 : Hid (Below w.heap.size w W6) := HB5.out.trans (hb6.mono HB5.out.size)
      have hsum : (picked pDown L).sum = downS L := rfl
      rw [hsum, HDS.out] at KS
      generalize (picked pDown L).length = nv6 at hv
      subst hv
      have hfd : Ar.Fits (-u) := by
        have h1 := HF.out
        have h2 := HU0.out
        unfold Ar.Fits at *
        omega
      obtain ⟨z1, z2⟩ := fits_yes hfd
      unfold Told at KS
      rw [z1, z2] at KS
      clear e3 hb6 hown KA HB5 RE5 hsum z1 z2 hfd
      go_wp2_with fail
      refine KS.out.mono ?_
      rintro _ W7 ⟨rfl, hb7⟩
      have HB7 : Hid (Below w.heap.size w W7) := HB6.out.trans (hb7.mono HB6.out.size)
      clear hb7 KS HB6
      have hw : wrap64 u = u := by
        have h1 := HF.out
        unfold Ar.Fits at h1
        unfold wrap64
        omega
      go_wp2_with fail
      refine bodyPost_ret (v := .tuple #[.int .i64 u, .int .i64 u, .int .i64 0]) (by simp [results, Try.results12, go_sem, hw]) rfl ?_
      have h1 : R1 = u ∧ R2 = 0 := by have := HRR.out; injection this with h1 h2; exact ⟨h1, h2⟩
      exact ⟨ret_tot h1.1 h1.1 h1.2, HB7.out⟩
    · have z1 := (fits_no hf).1
      rw [z1]
      rw [z1] at HRR
      rw [if_neg (by decide)] at HRR
      generalize Ar.val u = m
      clear z1 hf
      go_wp2_with fail
      refine bodyPost_ret (v := .tuple #[.int .i64 0, .int .i64 0, .int .i64 2]) (by simp [results, Try.results12, go_sem]) rfl ?_
      have h1 : R1 = 0 ∧ R2 = 2 := by have := HRR.out; injection this with h1 h2; exact ⟨h1, h2⟩
      exact ⟨ret_tot h1.1 h1.1 h1.2, HB5.out⟩
  · have HRZ : Hid (R1 = 0 ∧ R2 = ch) := by
      have := HR.out
      unfold totM at this
      rw [← HCH.out, if_pos hc0] at this
      injection this with h1 h2
      exact ⟨h1, h2⟩
    have n1 : (ch == 0) = false := beq_eq_false_iff_ne.2 hc0
    have n2 : (ch != 0) = true := by simpa using hc0
    clear HR HCH hc0
    go_wp2_with fail
    refine bodyPost_ret (v := .tuple #[.int .i64 0, .int .i64 0, .int .i64 ch]) (by simp [results, Try.results12, go_sem]) rfl ?_
    exact ⟨ret_tot HRZ.out.1 HRZ.out.1 HRZ.out.2, HB3.out⟩
end
end Go.Proofs.Ytnblilonjpfdnaa.Jn
