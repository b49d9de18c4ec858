/- Package journal: the document's On, Totals, Reverse. -/
import Derived.Test.YtnblilonjpfdnaaJnRPut
import Derived.Test.YtnblilonjpfdnaaJnOn
namespace Go.Proofs.Ytnblilonjpfdnaa.Jn
open Go Go.RowKit Ck
theorem getM_none {M : Int → Option Ch.Acc} {c : Int} (h : M c = none) : (Ch.getM M c).2 = 7 := by unfold Ch.getM; rw [h]; rfl
theorem getM_some {M : Int → Option Ch.Acc} {c : Int} {p : Ch.Acc} (h : M c = some p) : (Ch.getM M c).2 = 0 ∧ (Ch.getM M c).1.shut = p.shut := by
  unfold Ch.getM
  rw [h]
  exact ⟨rfl, rfl⟩
def upL (L : List Ln) : List Ln := L.filter fun x => decide (0 < x.amt)
def dnL (L : List Ln) : List Ln := L.filter fun x => !decide (0 < x.amt)
theorem upL_snoc (L : List Ln) (x : Ln) : upL (L ++ [x]) = if 0 < x.amt then upL L ++ [x] else upL L := by
  unfold upL
  rw [List.filter_append]
  by_cases h : 0 < x.amt
  · rw [if_pos h]; simp [h]
  · rw [if_neg h]; simp [h]
theorem dnL_snoc (L : List Ln) (x : Ln) : dnL (L ++ [x]) = if 0 < x.amt then dnL L else dnL L ++ [x] := by
  unfold dnL
  rw [List.filter_append]
  by_cases h : 0 < x.amt
  · rw [if_pos h]; simp [h]
  · rw [if_neg h]; simp [h]
theorem upL_len (L : List Ln) : (upL L).length ≤ L.length := List.length_filter_le _ _
theorem dnL_len (L : List Ln) : (dnL L).length ≤ L.length := List.length_filter_le _ _
theorem sum_upL (L : List Ln) : sumL (upL L) = upS L := by
  unfold sumL upS
  induction L with
  | nil => rfl
  | cons x L ih =>
    rw [picked_cons]
    by_cases h : 0 < x.amt
    · have e : upL (x :: L) = x :: upL L := List.filter_cons_of_pos (by simpa using h)
      rw [e, if_pos (show pUp x.amt = true by unfold pUp; simpa using h), List.map_cons, List.sum_cons, List.sum_cons, ih]
    · have e : upL (x :: L) = upL L := List.filter_cons_of_neg (by simpa using h)
      rw [e, if_neg (show ¬ pUp x.amt = true by unfold pUp; simpa using h), ih]
theorem sum_dnL (L : List Ln) : sumL (upL L) + sumL (dnL L) = sumL L := by
  unfold sumL
  induction L with
  | nil => rfl
  | cons x L ih =>
    rw [List.map_cons, List.sum_cons]
    by_cases h : 0 < x.amt
    · have e : upL (x :: L) = x :: upL L := List.filter_cons_of_pos (by simpa using h)
      have e2 : dnL (x :: L) = dnL L := List.filter_cons_of_neg (by simpa using h)
      rw [e, e2, List.map_cons, List.sum_cons]
      omega
    · have e : upL (x :: L) = upL L := List.filter_cons_of_neg (by simpa using h)
      have e2 : dnL (x :: L) = x :: dnL L := List.filter_cons_of_pos (by simpa using h)
      rw [e, e2, List.map_cons, List.sum_cons]
      omega
section
set_option maxRecDepth 100000
set_option maxHeartbeats 3200000
theorem ron_c {M : Int → Option Ch.Acc} {K : List Int} (g : Ch.Gm M K) (d k s : Int) (L : List Ln) (a : Option Addr) (cap : Nat) (la : Option Addr) (lc : Nat) (w : World) (h : Lns w a L) (hl : L.length ≤ 1000) (hA : Ch.Acs w la (Ch.lst M K)) : Calls Try.prog 19 #[.slice la K.length lc, (.agg #[.int .i64 d, .int .u8 k, .int .u64 s, .slice a L.length cap])] w fun e w' => e = .returned (.int .i64 (onM M d k L)) ∧ Below w.heap.size w w' := by
  have HG := Lib.hid g
  have HA := Lib.hid hA
  obtain ⟨R, hR⟩ : ∃ R, R = onM M d k L := ⟨_, rfl⟩
  rw [← hR]
  have HR := Lib.hid hR
  have KF := Lib.hid (g.wd.few g.ks)
  have H := Lib.hid h
  have HL := Lib.hid hl
  have HB0 : Hid (Below w.heap.size w (w.alloc (.cells #[.int .i64 d, .int .u8 k, .int .u64 s, .slice a L.length cap] TEn))) := (Below.refl _ w).alloc (Nat.le_refl _) _
  have RE0 : Hid (Rw (w.alloc (.cells #[.int .i64 d, .int .u8 k, .int .u64 s, .slice a L.length cap] TEn)) w.heap.size TEn [.int .i64 d, .int .u8 k, .int .u64 s, .slice a L.length cap]) := Rw.new w [.int .i64 d, .int .u8 k, .int .u64 s, .slice a L.length cap] TEn
  clear h hl hA hR g
  go_enter Try.func19, Try.ntmps19
  go_upto_region 1 with (fail)
  obtain ⟨be, hbe⟩ : ∃ be, be = w.heap.size := ⟨_, rfl⟩
  rw [← hbe] at RE0 ⊢
  clear hbe
  generalize w.alloc (.cells #[.int .i64 d, .int .u8 k, .int .u64 s, .slice a L.length cap] TEn) = W2 at HB0 RE0 ⊢
  have KC := Lib.hid (rcheck_c d k s L a cap W2 (H.out.later HB0.out) (by have := HL.out; omega))
  obtain ⟨ch, hch⟩ : ∃ ch, ch = chkM d k L := ⟨_, rfl⟩
  rw [← hch] at KC
  have HCH := Lib.hid hch
  have e0 : W2.cell? ⟨be, 0, none⟩ = some (.int .i64 d) := RE0.out.cell 0
  have e1 : W2.cell? ⟨be, 1, none⟩ = some (.int .u8 k) := RE0.out.cell 1
  have e2 : W2.cell? ⟨be, 2, none⟩ = some (.int .u64 s) := RE0.out.cell 2
  have e3 : W2.cell? ⟨be, 3, none⟩ = some (.slice a L.length cap) := RE0.out.cell 3
  clear hch
  go_wp2_with fail
  refine KC.out.mono ?_
  rintro _ W3 ⟨rfl, hb3⟩
  have HB3 : Hid (Below w.heap.size w W3) := HB0.out.trans (hb3.mono HB0.out.size)
  have RE3 := Lib.hid (RE0.out.later hb3)
  clear e0 e1 e2 e3 hb3 HB0 RE0 KC
  have HST : Hid ((ch = 0 ∧ R = onL M L) ∨ (ch ≠ 0 ∧ R = ch)) := by
    show _ ∨ _
    by_cases h0 : ch = 0
    · left
      refine ⟨h0, ?_⟩
      rw [HR.out]
      unfold onM
      rw [if_neg (by rw [← HCH.out]; simp [h0])]
    · right
      refine ⟨h0, ?_⟩
      rw [HR.out]
      unfold onM
      rw [if_pos (by rw [← HCH.out]; exact h0), HCH.out]
  clear HR HCH
  go_upto_region 3 with (fail)
  go_loopg [5, 6] (L.length + 1) (fun kx s5 s6 wr => ∃ (i : Nat) (f : Int), s6 = .int .i64 (i : Int) ∧ s5 = .int .i64 f ∧ i ≤ L.length ∧ Hid ((f = 0 ∧ R = onL M L ∧ ∀ j (h : j < L.length), j < i → lineOn M L[j] = 0) ∨ (f ≠ 0 ∧ R = f)) ∧ Hid (Below w.heap.size w wr) ∧ Hid (Rw wr be TEn [.int .i64 d, .int .u8 k, .int .u64 s, .slice a L.length cap]) ∧ L.length + 1 ≤ i + kx)
  case atStart => exact ⟨0, ch, rfl, rfl, Nat.zero_le _, (show _ ∨ _ from HST.out.imp (fun h => ⟨h.1, h.2, fun j _ hj => by omega⟩) id), HB3.out, RE3.out, by omega⟩
  case round =>
    obtain ⟨i, f, rfl, rfl, hi9, HF, HC, HE, hkx⟩ := hrel
    clear HST HB3 RE3
    have e3 : wr.cell? ⟨be, 3, none⟩ = some (.slice a L.length cap) := HE.out.cell 3
    have hL := HL.out
    by_cases hlt : i < L.length
    · rcases HF.out with ⟨rfl, hRR, hJ⟩ | ⟨hf, hRR⟩
      · have HRR := Lib.hid hRR
        have HLN : Hid (lineOn M L[i] ≠ 0 → R = lineOn M L[i]) := fun hn => HRR.out.trans (onL_hit hlt hJ hn)
        have HLZ : Hid (lineOn M L[i] = 0 → ∀ j (h : j < L.length), j < i + 1 → lineOn M L[j] = 0) := fun hz j hj hji => by
          by_cases e : j = i
          · subst e; exact hz
          · exact hJ j hj (by omega)
        obtain ⟨ab, ao, rfl, _, hc⟩ := (H.out.later HC.out) i hlt
        have c0 := hc 0 _ rfl
        obtain ⟨x, hx⟩ : ∃ x, x = L[i] := ⟨_, rfl⟩
        rw [← hx] at c0 HLN HLZ
        rw [Nat.add_zero] at c0
        have j0 : (0 : Int) ≤ (i : Int) := by omega
        have j1 : (i : Int) < (L.length : Int) := by omega
        have HLT := Lib.hid hlt
        have HKX := Lib.hid hkx
        clear hc hx hlt hkx HF hRR hJ
        obtain ⟨xa, xb, xc, xd⟩ := x
        unfold lineOn at HLN HLZ
        simp only at c0 HLN HLZ
        have KA := Lib.hid (Ch.at_c HG.out lc xa (HA.out.later HC.out))
        go_wp2_with fail
        refine KA.out.mono ?_
        rintro _ _ ⟨rfl, z, rfl, ⟨rfl, hnot⟩ | ⟨n, hn, hKn, rfl⟩⟩
        · have hM : M xa = none := by
            have this : ¬ (M xa).isSome = true := fun h => hnot ((HG.out.ks.mem xa).2 h)
            cases hM : M xa with
            | none => rfl
            | some p => rw [hM] at this; exact absurd rfl this
          have HR7 : Hid (R = 7) := by
            have := HLN.out
            rw [getM_none hM, if_pos (show (7 : Int) ≠ 0 by decide)] at this
            exact this (by decide)
          clear HLN HLZ hnot hM KA
          go_wp2_with fail
          have hlt := HLT.out
          have hkx := HKX.out
          go_roundg (L.length + 1 - (i + 1))
          case measure => omega
          case rel => exact ⟨i + 1, 7, by simp, rfl, by omega, .inr ⟨by decide, HR7.out⟩, HC, HE, by omega⟩
        · obtain ⟨lb, lf, p, rfl, hMp, h5⟩ := HG.out.five (HA.out.later HC.out) hn
          have hp := getM_some (M := M) (c := xa) (p := p) (by rw [← hKn]; exact hMp)
          rw [hp.1, hp.2] at HLN HLZ
          rw [if_neg (by simp)] at HLN HLZ
          have d0 := h5.c0
          have d4 := h5.c4
          rw [hKn] at d0
          have KLF := Lib.hid (Ch.leaf_ref HG.out lc xa (HA.out.later HC.out))
          have n0 : (0 : Int) ≤ (n : Int) := by omega
          have n1 : (n : Int) < (K.length : Int) := by omega
          have n2 : ¬ (n : Int) < 0 := by omega
          have n3 := KF.out
          obtain ⟨sh, hsh⟩ : ∃ sh, sh = p.shut := ⟨_, rfl⟩
          rw [← hsh] at d4 HLN HLZ
          obtain ⟨lfb, hlf⟩ : ∃ lfb, lfb = Ch.leafM M xa := ⟨_, rfl⟩
          rw [← hlf] at KLF HLN HLZ
          clear hKn hMp h5 hp hn KA hsh hlf
          cases sh with
          | true =>
            have HR9 : Hid (R = 9) := by
              have := HLN.out
              rw [if_pos (.inl rfl)] at this
              exact this (by decide)
            clear HLN HLZ KLF
            go_wp2_with fail
            have hlt := HLT.out
            have hkx := HKX.out
            go_roundg (L.length + 1 - (i + 1))
            case measure => omega
            case rel => exact ⟨i + 1, 9, by simp, rfl, by omega, .inr ⟨by decide, HR9.out⟩, HC, HE, by omega⟩
          | false =>
            go_wp2_with fail
            refine KLF.out.mono ?_
            rintro _ W5 ⟨rfl, hb5⟩
            have HC5 : Hid (Below w.heap.size w W5) := HC.out.trans (hb5.mono HC.out.size)
            have HE5 := Lib.hid (HE.out.later hb5)
            clear KLF hb5 HC HE d0 d4 e3 c0
            cases lfb with
            | false =>
              have HR9 : Hid (R = 9) := by
                have := HLN.out
                rw [if_pos (.inr rfl)] at this
                exact this (by decide)
              clear HLN HLZ
              go_wp2_with fail
              have hlt := HLT.out
              have hkx := HKX.out
              go_roundg (L.length + 1 - (i + 1))
              case measure => omega
              case rel => exact ⟨i + 1, 9, by simp, rfl, by omega, .inr ⟨by decide, HR9.out⟩, HC5, HE5, by omega⟩
            | true =>
              have HJ2 := Lib.hid (HLZ.out (by rw [if_neg (by simp)]))
              clear HLN HLZ
              go_wp2_with fail
              have hlt := HLT.out
              have hkx := HKX.out
              go_roundg (L.length + 1 - (i + 1))
              case measure => omega
              case rel => exact ⟨i + 1, 0, by simp, rfl, by omega, .inl ⟨rfl, HRR.out, HJ2.out⟩, HC5, HE5, by omega⟩
      · have HRF := Lib.hid hRR
        have n1 : (f == 0) = false := beq_eq_false_iff_ne.2 hf
        have j1 : (i : Int) < (L.length : Int) := by omega
        clear hkx hf hRR HF hlt
        go_wp2_with fail
        go_ret
        exact ⟨ret_int (z := f) HRF.out, HC.out⟩
    · obtain rfl : i = L.length := by omega
      have HRF : Hid (R = f) := by
        rcases HF.out with ⟨rfl, hRR, hJ⟩ | ⟨_, hRR⟩
        · exact hRR.trans (onL_zero fun j hj => hJ j hj hj)
        · exact hRR
      clear hkx hlt hi9 HF
      go_wp2_with fail
      go_ret
      exact ⟨ret_int (z := f) HRF.out, HC.out⟩
theorem rtotals_c (d k s : Int) (L : List Ln) (a : Option Addr) (cap : Nat) (w : World) (h : Lns w a L) (hl : L.length ≤ 1000) : Calls Try.prog 13 #[(.agg #[.int .i64 d, .int .u8 k, .int .u64 s, .slice a L.length cap])] w fun e w' => e = .returned (.tuple #[.int .i64 (totM d k L).1, .int .i64 (totM d k L).1, .int .i64 (totM d k L).2]) ∧ Below w.heap.size w w' := by
  obtain ⟨⟨R1, R2⟩, hR⟩ : ∃ R, R = totM d k L := ⟨_, rfl⟩
  rw [← hR]
  simp only
  have HR := Lib.hid hR
  obtain ⟨i4, z4, hk0, hk1, hk2, hk3, hk4⟩ := info_ln
  have H := Lib.hid h
  have HL := Lib.hid hl
  have HB0 : Hid (Below w.heap.size w (w.alloc (.cells #[.int .i64 d, .int .u8 k, .int .u64 s, .slice a L.length cap] TEn))) := (Below.refl _ w).alloc (Nat.le_refl _) _
  have RE0 : Hid (Rw (w.alloc (.cells #[.int .i64 d, .int .u8 k, .int .u64 s, .slice a L.length cap] TEn)) w.heap.size TEn [.int .i64 d, .int .u8 k, .int .u64 s, .slice a L.length cap]) := Rw.new w [.int .i64 d, .int .u8 k, .int .u64 s, .slice a L.length cap] TEn
  clear h hR hl
  go_enter Try.func13, Try.ntmps13
  go_upto_region 1 with (fail)
  obtain ⟨be, hbe⟩ : ∃ be, be = w.heap.size := ⟨_, rfl⟩
  rw [← hbe] at RE0 ⊢
  clear hbe
  generalize w.alloc (.cells #[.int .i64 d, .int .u8 k, .int .u64 s, .slice a L.length cap] TEn) = W2 at HB0 RE0 ⊢
  have KC := Lib.hid (rcheck_c d k s L a cap W2 (H.out.later HB0.out) (by have := HL.out; omega))
  obtain ⟨ch, hch⟩ : ∃ ch, ch = chkM d k L := ⟨_, rfl⟩
  rw [← hch] at KC
  have HCH := Lib.hid hch
  have e0 : W2.cell? ⟨be, 0, none⟩ = some (.int .i64 d) := RE0.out.cell 0
  have e1 : W2.cell? ⟨be, 1, none⟩ = some (.int .u8 k) := RE0.out.cell 1
  have e2 : W2.cell? ⟨be, 2, none⟩ = some (.int .u64 s) := RE0.out.cell 2
  have e3 : W2.cell? ⟨be, 3, none⟩ = some (.slice a L.length cap) := RE0.out.cell 3
  clear hch
  go_wp2_with fail
  refine KC.out.mono ?_
  rintro _ W3 ⟨rfl, hb3⟩
  have HB3 : Hid (Below w.heap.size w W3) := HB0.out.trans (hb3.mono HB0.out.size)
  have RE3 := Lib.hid (RE0.out.later hb3)
  clear e0 e1 e2 e3 hb3 HB0 RE0 KC
  by_cases hc0 : ch = 0
  · subst hc0
    have HCK := Lib.hid (chk_ok HCH.out.symm)
    have HLEN : Hid (L.length ≤ 64) := by
      have := HCK.out.1
      unfold badB at this
      simp at this
      show _ ≤ _
      omega
    have HRR : Hid ((R1, R2) = if Ar.ok (upS L) = true then (upS L, 0) else (0, 2)) := by show _ = _; rw [HR.out]; unfold totM; rw [← HCH.out, if_neg (by simp)]
    have HUD : Hid (sumL (dnL L) = - upS L ∧ 0 ≤ upS L) := by
      have h1 := sum_dnL L
      rw [sum_upL] at h1
      have h2 := HCK.out.2.2
      have h3 := (up_down L HCK.out.2.1).2
      show _ ∧ _
      omega
    clear HCH HR
    go_upto_region 6 with (fail)
    go_loopg [6, 7, 8] L.length (fun kx s6 s7 s8 wr => ∃ (i : Nat) (va vb : Value), s8 = .int .i64 (i : Int) ∧ va = s6 ∧ vb = s7 ∧ i ≤ L.length ∧ Hid (wr.ownsRow W3.heap.size TLine 4 va (upL (L.take i)).length (flatL (upL (L.take i)))) ∧ Hid (wr.ownsRow W3.heap.size TLine 4 vb (dnL (L.take i)).length (flatL (dnL (L.take i)))) ∧ Hid (∀ j, va.ownBlock = some j → vb.ownBlock ≠ some j) ∧ Hid (Below W3.heap.size W3 wr) ∧ L.length ≤ i + kx)
    case atStart => exact ⟨0, _, _, rfl, rfl, rfl, Nat.zero_le _, World.ownsRow_nil _ _ _ _, World.ownsRow_nil _ _ _ _, fun j hj => by (cases hj), Below.refl _ _, by omega⟩
    case round =>
      obtain ⟨i, va, vb, rfl, hva, hvb, hi9, HOA, HOB, HNE, HC, hkx⟩ := hrel
      obtain ⟨aa, ac, rfl⟩ := own_any HOA.out
      obtain ⟨ba, bc, rfl⟩ := own_any HOB.out
      subst hva hvb
      have e3 : wr.cell? ⟨be, 3, none⟩ = some (.slice a L.length cap) := (RE3.out.later HC.out).cell 3
      by_cases hlt : i < L.length
      · obtain ⟨ab, ao, rfl, _, hc⟩ := (H.out.later (HB3.out.trans (HC.out.mono HB3.out.size))) i hlt
        have c0 := hc 0 _ rfl
        have c1 := hc 1 _ rfl
        have c2 := hc 2 _ rfl
        have c3 := hc 3 _ rfl
        have HUS : Hid (upL (L.take (i + 1)) = if 0 < L[i].amt then upL (L.take i) ++ [L[i]] else upL (L.take i)) := by show _ = _; rw [List.take_succ_eq_append_getElem hlt, upL_snoc]
        have HDS : Hid (dnL (L.take (i + 1)) = if 0 < L[i].amt then dnL (L.take i) else dnL (L.take i) ++ [L[i]]) := by show _ = _; rw [List.take_succ_eq_append_getElem hlt, dnL_snoc]
        have HN1 : Hid ((upL (L.take i)).length ≤ 64 ∧ (dnL (L.take i)).length ≤ 64) := by
          have h1 := upL_len (L.take i)
          have h2 := dnL_len (L.take i)
          rw [List.length_take] at h1 h2
          have := HLEN.out
          show _ ∧ _
          omega
        obtain ⟨PA, hPA⟩ : ∃ PA, PA = upL (L.take i) := ⟨_, rfl⟩
        obtain ⟨PB, hPB⟩ : ∃ PB, PB = dnL (L.take i) := ⟨_, rfl⟩
        rw [← hPA] at HOA HUS HN1 HNE ⊢
        rw [← hPB] at HOB HDS HN1 HNE ⊢
        obtain ⟨x, hx⟩ : ∃ x, x = L[i] := ⟨_, rfl⟩
        rw [← hx] at c0 c1 c2 c3 HUS HDS
        rw [Nat.add_zero] at c0
        have j0 : (0 : Int) ≤ (i : Int) := by omega
        have j1 : (i : Int) < (L.length : Int) := by omega
        have j2 : L.length ≤ 64 := HLEN.out
        have HLT := Lib.hid hlt
        have HKX := Lib.hid hkx
        have hs := HC.out.size
        clear hc hx hPA hPB hlt hkx
        obtain ⟨xa, xb, xc, xd⟩ := x
        simp only at c0 c1 c2 c3 HUS HDS
        by_cases hp : 0 < xd
        · rw [if_pos hp] at HUS HDS
          go_wp2_with (at_builtin; refine wpList_append_own_at _ rfl _ _ TLines rfl W3.heap.size TLine i4 z4 4 32 Try.underlying23 hk0 hk1 hk2 hk3 hk4 (by decide) _ _ _ rfl (HOA.out.alloc _) ⟨wr.heap.size, 0, none⟩ 1 1 [.int .i64 xa, .int .u64 xb, .int .u64 xc, .int .i64 xd] rfl rfl (rw_news (Rw.new wr [.int .i64 xa, .int .u64 xb, .int .u64 xc, .int .i64 xd] TLine)) (by simp [Value.oneCell']) (by have := HN1.out; unfold maxLen; omega) (by have := HN1.out; omega) (by simp; omega) ?_)
          intro v2 w2 hown2 hg2 hnil2 hat2
          have kp : Keeps (fun j => (Value.slice aa PA.length ac).ownBlock = some j) wr w2 := (Keeps.of _ ((Below.refl _ wr).alloc (Nat.le_refl _) _)).grown hg2 fun j hj => .inl hj
          have HC2 : Hid (Below W3.heap.size W3 w2) := Keeps.belowT HC.out kp (fun j hj => (HOA.out.lt j hj).1) hs
          have HOB2 := Lib.hid (own_keeps HOB.out kp (fun j hj e => HNE.out j e hj))
          have HOA2 : Hid (w2.ownsRow W3.heap.size TLine 4 v2 (upL (L.take (i + 1))).length (flatL (upL (L.take (i + 1))))) := by
            show World.ownsRow _ _ _ _ _ _ _
            rw [HUS.out, flatL_snoc, List.length_append]
            exact hown2
          have HNE2 : Hid (∀ j, v2.ownBlock = some j → (Value.slice ba PB.length bc).ownBlock ≠ some j) := fun j hj e => by
            rcases hat2 with h2 | h2
            · exact HNE.out j (h2.symm.trans hj) e
            · have h3 := (HOB.out.lt j e).2
              rw [h2] at hj
              injection hj with hj
              omega
          clear hown2 hg2 hnil2 hat2 kp HOA HOB HNE HC e3 c0 c1 c2 c3 hp
          go_wp2_with fail
          have hlt := HLT.out
          have hkx := HKX.out
          go_roundg (L.length - (i + 1))
          case measure => omega
          case rel => exact ⟨i + 1, _, _, by simp, rfl, rfl, by omega, HOA2, by rw [HDS.out]; exact HOB2, HNE2, HC2, by omega⟩
        · rw [if_neg hp] at HUS HDS
          go_wp2_with (at_builtin; refine wpList_append_own_at _ rfl _ _ TLines rfl W3.heap.size TLine i4 z4 4 32 Try.underlying23 hk0 hk1 hk2 hk3 hk4 (by decide) _ _ _ rfl (HOB.out.alloc _) ⟨wr.heap.size, 0, none⟩ 1 1 [.int .i64 xa, .int .u64 xb, .int .u64 xc, .int .i64 xd] rfl rfl (rw_news (Rw.new wr [.int .i64 xa, .int .u64 xb, .int .u64 xc, .int .i64 xd] TLine)) (by simp [Value.oneCell']) (by have := HN1.out; unfold maxLen; omega) (by have := HN1.out; omega) (by simp; omega) ?_)
          intro v2 w2 hown2 hg2 hnil2 hat2
          have kp : Keeps (fun j => (Value.slice ba PB.length bc).ownBlock = some j) wr w2 := (Keeps.of _ ((Below.refl _ wr).alloc (Nat.le_refl _) _)).grown hg2 fun j hj => .inl hj
          have HC2 : Hid (Below W3.heap.size W3 w2) := Keeps.belowT HC.out kp (fun j hj => (HOB.out.lt j hj).1) hs
          have HOA2 := Lib.hid (own_keeps HOA.out kp (fun j hj e => HNE.out j hj e))
          have HOB2 : Hid (w2.ownsRow W3.heap.size TLine 4 v2 (dnL (L.take (i + 1))).length (flatL (dnL (L.take (i + 1))))) := by
            show World.ownsRow _ _ _ _ _ _ _
            rw [HDS.out, flatL_snoc, List.length_append]
            exact hown2
          have HNE2 : Hid (∀ j, (Value.slice aa PA.length ac).ownBlock = some j → v2.ownBlock ≠ some j) := fun j hj e => by
            rcases hat2 with h2 | h2
            · exact HNE.out j hj (h2.symm.trans e)
            · have h3 := (HOA.out.lt j hj).2
              rw [h2] at e
              injection e with e
              omega
          clear hown2 hg2 hnil2 hat2 kp HOA HOB HNE HC e3 c0 c1 c2 c3 hp
          go_wp2_with fail
          have hlt := HLT.out
          have hkx := HKX.out
          go_roundg (L.length - (i + 1))
          case measure => omega
          case rel => exact ⟨i + 1, _, _, by simp, rfl, rfl, by omega, by rw [HUS.out]; exact HOA2, HOB2, HNE2, HC2, by omega⟩
      · obtain rfl : i = L.length := by omega
        rw [List.take_length] at HOA HOB ⊢
        clear hkx hlt hi9 HNE
        have HI64 : Hid (∀ x ∈ L, I64 x.amt) := fun x hx => by
          have := okB_amt (List.all_eq_true.1 HCK.out.2.1 x hx)
          unfold I64
          omega
        obtain ⟨aa', ac', hva, hla, _⟩ := lns_own HOA.out
        obtain ⟨ba', bc', hvb, hlb, _⟩ := lns_own HOB.out
        have KSA := Lib.hid (rsumL_c (upL L) aa' ac' wr hla (by have h1 := upL_len L; have h2 := HLEN.out; omega) (fun x hx => HI64.out x (List.mem_filter.1 hx).1))
        rw [← hva, sum_upL] at KSA
        have KSB : Hid (∀ u, Below wr.heap.size wr u → Calls Try.prog 45 #[.slice ba (dnL L).length bc] u (Told (- upS L) u)) := fun u hu => by
          have := rsumL_c (dnL L) ba' bc' u (hlb.later hu) (by have h1 := dnL_len L; have h2 := HLEN.out; omega) (fun x hx => HI64.out x (List.mem_filter.1 hx).1)
          rw [← hvb, HUD.out.1] at this
          exact this
        have HU0 := Lib.hid HUD.out.2
        have HB4 : Hid (Below w.heap.size w wr) := HB3.out.trans (HC.out.mono HB3.out.size)
        clear hva hla hvb hlb HUD HOA HOB HC
        generalize (upL L).length = na at KSA ⊢
        generalize (dnL L).length = nb at KSB ⊢
        generalize upS L = u at KSA KSB HRR HU0
        unfold Told at KSA KSB
        by_cases hf : Ar.Fits u
        · obtain ⟨z1, z2⟩ := fits_yes hf
          have hfd : Ar.Fits (-u) := by
            have h1 := hf
            have h2 := HU0.out
            unfold Ar.Fits at *
            omega
          obtain ⟨y1, y2⟩ := fits_yes hfd
          rw [z1, z2] at KSA
          rw [z1, if_pos rfl] at HRR
          rw [y1, y2] at KSB
          have hw : wrap64 u = u := by
            have h1 := hf
            unfold Ar.Fits at h1
            unfold wrap64
            omega
          clear z1 z2 y1 y2 hfd hf
          go_wp2_with fail
          refine KSA.out.mono ?_
          rintro _ W5 ⟨rfl, hb5⟩
          have HB5 : Hid (Below w.heap.size w W5) := HB4.out.trans (hb5.mono HB4.out.size)
          have KSB5 := Lib.hid (KSB.out W5 hb5)
          clear hb5 KSA KSB
          go_wp2_with fail
          refine KSB5.out.mono ?_
          rintro _ W6 ⟨rfl, hb6⟩
          have HB6 : Hid (Below w.heap.size w W6) := HB5.out.trans (hb6.mono HB5.out.size)
          clear hb6 KSB5
          go_wp2_with fail
          refine bodyPost_ret (v := .tuple #[.int .i64 u, .int .i64 u, .int .i64 0]) (by simp [results, Try.results13, go_sem, hw]) rfl ?_
          have h1 : R1 = u ∧ R2 = 0 := by have := HRR.out; injection this with h1 h2; exact ⟨h1, h2⟩
          exact ⟨ret_tot h1.1 h1.1 h1.2, HB6.out⟩
        · have z1 := (fits_no hf).1
          rw [z1] at KSA
          rw [z1, if_neg (by decide)] at HRR
          generalize Ar.val u = m at KSA
          generalize Ar.ok (-u) = bok at KSB
          generalize Ar.val (-u) = m2 at KSB
          clear z1 hf
          go_wp2_with fail
          refine KSA.out.mono ?_
          rintro _ W5 ⟨rfl, hb5⟩
          have HB5 : Hid (Below w.heap.size w W5) := HB4.out.trans (hb5.mono HB4.out.size)
          have KSB5 := Lib.hid (KSB.out W5 hb5)
          clear hb5 KSA KSB
          go_wp2_with fail
          refine KSB5.out.mono ?_
          rintro _ W6 ⟨rfl, hb6⟩
          have HB6 : Hid (Below w.heap.size w W6) := HB5.out.trans (hb6.mono HB5.out.size)
          clear hb6 KSB5
          go_wp2_with fail
          refine bodyPost_ret (v := .tuple #[.int .i64 0, .int .i64 0, .int .i64 2]) (by simp [results, Try.results13, go_sem]) rfl ?_
          have h1 : R1 = 0 ∧ R2 = 2 := by have := HRR.out; injection this with h1 h2; exact ⟨h1, h2⟩
          exact ⟨ret_tot h1.1 h1.1 h1.2, HB6.out⟩
  · have HRZ : Hid (R1 = 0 ∧ R2 = ch) := by
      have := HR.out
      unfold totM at this
      rw [← HCH.out, if_pos hc0] at this
      injection this with h1 h2
      exact ⟨h1, h2⟩
    have n1 : (ch == 0) = false := beq_eq_false_iff_ne.2 hc0
    have n2 : (ch != 0) = true := by simpa using hc0
    clear HR HCH hc0
    go_wp2_with fail
    refine bodyPost_ret (v := .tuple #[.int .i64 0, .int .i64 0, .int .i64 ch]) (by simp [results, Try.results13, go_sem]) rfl ?_
    exact ⟨ret_tot HRZ.out.1 HRZ.out.1 HRZ.out.2, HB3.out⟩
end
end Go.Proofs.Ytnblilonjpfdnaa.Jn
