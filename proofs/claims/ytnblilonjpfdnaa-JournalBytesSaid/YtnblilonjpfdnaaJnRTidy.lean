/- Package journal: the document's Tidy. -/
import Derived.Test.YtnblilonjpfdnaaJnRPut
namespace Go.Proofs.Ytnblilonjpfdnaa.Jn
open Go Go.RowKit Ck
/-- The lines of a key. -/
def ownL (L : List Ln) (k : Key) : List Ln := L.filter fun x => decide (x.key = k)
theorem ownL_sum (L : List Ln) (k : Key) : sumL (ownL L k) = ksum L k := rfl
theorem ownL_snoc (L : List Ln) (x : Ln) (k : Key) : ownL (L ++ [x]) k = if x.key = k then ownL L k ++ [x] else ownL L k := by
  unfold ownL
  rw [List.filter_append]
  by_cases h : x.key = k
  · rw [if_pos h]; simp [h]
  · rw [if_neg h]; simp [h]
theorem ownL_len (L : List Ln) (k : Key) : (ownL L k).length ≤ L.length := List.length_filter_le _ _
theorem of_ok {k : Key} {n : Int} (h1 : 1 ≤ k.1) (h2 : k.1 ≤ 9999) (h3 : n ≠ 0) : (Ln.of k n).okB = fitB n := by
  unfold Ln.okB Ln.of
  simp [h1, h2, h3]
section
set_option maxRecDepth 100000
set_option maxHeartbeats 3200000
theorem rtidy_c (L : List Ln) (a : Option Addr) (cap : Nat) (w : World) (h : Lns w a L) (hl : L.length ≤ 300) : Calls Try.prog 23 #[.slice a L.length cap] w (TidyRes L w) := by
  have H := Lib.hid h
  have HL := Lib.hid hl
  obtain ⟨i4, z4, hk0, hk1, hk2, hk3, hk4⟩ := info_ln
  obtain ⟨lo, hlo⟩ : ∃ lo, lo = w.heap.size := ⟨_, rfl⟩
  have HLO := Lib.hid hlo
  have B0 : Hid (Below lo w w) := Below.refl _ _
  clear h hl hlo
  go_enter Try.func23, Try.ntmps23
  go_upto_region 3 with (fail)
  go_loopg [5] L.length (fun kx s5 wr => ∃ i : Nat, s5 = .int .i64 (i : Int) ∧ i ≤ L.length ∧ Hid (∀ j (h : j < L.length), j < i → L[j].okB = true) ∧ Hid (Below lo w wr) ∧ L.length ≤ i + kx)
  case atStart => exact ⟨0, rfl, Nat.zero_le _, fun j _ hj => by omega, B0.out, by omega⟩
  case round =>
    obtain ⟨i, rfl, hi9, HJ, HC, hkx⟩ := hrel
    by_cases hlt : i < L.length
    · obtain ⟨ab, ao, rfl, _, hc⟩ := (H.out.later (by rw [← HLO.out]; exact HC.out)) i hlt
      have c0 := hc 0 _ rfl
      have c1 := hc 1 _ rfl
      have c2 := hc 2 _ rfl
      have c3 := hc 3 _ rfl
      have HBAD : Hid (L[i].okB = false → tokB L = false) := fun h => tok_bad hlt h
      have HGO : Hid (L[i].okB = true → ∀ j (h : j < L.length), j < i + 1 → L[j].okB = true) := fun hx j hj hji => by
        by_cases e : j = i
        · subst e; exact hx
        · exact HJ.out j hj (by omega)
      obtain ⟨x, hx⟩ : ∃ x, x = L[i] := ⟨_, rfl⟩
      rw [← hx] at c0 c1 c2 c3 HBAD HGO
      have j0 : (0 : Int) ≤ (i : Int) := by omega
      have j1 : (i : Int) < (L.length : Int) := by omega
      have j2 : L.length ≤ 300 := HL.out
      rw [Nat.add_zero] at c0
      have HLT := Lib.hid hlt
      have HKX := Lib.hid hkx
      clear hc hx hlt hkx HJ
      obtain ⟨xa, xb, xc, xd⟩ := x
      simp only at c0 c1 c2 c3
      have KL : Hid (∀ u, Calls Try.prog 50 #[.agg #[.int .i64 xa, .int .u64 xb, .int .u64 xc, .int .i64 xd]] u fun e w' => e = .returned (.bool (Ln.mk xa xb xc xd).okB) ∧ Below u.heap.size u w') := fun u => may_c ⟨xa, xb, xc, xd⟩ u
      obtain ⟨q, hq⟩ : ∃ q, q = (Ln.mk xa xb xc xd).okB := ⟨_, rfl⟩
      rw [← hq] at KL HBAD HGO
      clear hq
      go_wp2_with fail
      refine (KL.out _).mono ?_
      rintro _ w2 ⟨rfl, hb2⟩
      have HC2 : Hid (Below lo w w2) := HC.out.trans (hb2.mono (by rw [HLO.out]; exact HC.out.size))
      clear KL hb2 c0 c1 c2 c3 HC
      cases q with
      | false =>
        have HTT := Lib.hid (HBAD.out rfl)
        clear HBAD HGO
        go_wp2_with fail
        refine bodyPost_ret (v := .tuple #[.slice none 0 0, .int .i64 2]) (by simp [results, Try.results23, go_sem]) rfl ?_
        exact ⟨by rw [← HLO.out]; exact HC2.out, .inr ⟨HTT.out, rfl⟩⟩
      | true =>
        have HJ2 := Lib.hid (HGO.out rfl)
        clear HBAD HGO
        go_wp2_with fail
        have hlt := HLT.out
        have hkx := HKX.out
        go_roundg (L.length - (i + 1))
        case measure => omega
        case rel => exact ⟨i + 1, by simp, by omega, HJ2, HC2, by omega⟩
    · obtain rfl : i = L.length := by omega
      clear hkx hlt hi9
      have HOK : Hid (∀ x ∈ L, x.okB = true) := fun x hx => by
        obtain ⟨j, hj, rfl⟩ := List.getElem_of_mem hx
        exact HJ.out j hj hj
      clear HJ
      go_upto_region 8 with (fail)
      go_loopg [4, 6] L.length (fun kx s4 s6 wq => ∃ (i : Nat) (vv : Value) (T : List Ln), s6 = .int .i64 (i : Int) ∧ vv = s4 ∧ i ≤ L.length ∧ Hid (wq.ownsRow lo TLine 4 vv T.length (flatL T)) ∧ Hid (DocAt L i T) ∧ Hid (T.length ≤ i) ∧ Hid (∀ j (h : j < L.length), j < i → fitB (ksum L L[j].key) = true) ∧ Hid (Below lo w wq) ∧ L.length ≤ i + kx)
      case atStart => exact ⟨0, _, [], rfl, rfl, Nat.zero_le _, World.ownsRow_nil _ _ _ _, DocAt.zero L, Nat.le_refl _, fun j _ hj => by omega, HC.out, by omega⟩
      case round =>
        obtain ⟨i, vv, T, rfl, hvv, hi9, HT, HD, HTL, HF, HB, hkx⟩ := hrel
        obtain ⟨ta, tc, rfl⟩ := own_any HT.out
        subst hvv
        clear HC
        generalize wr = wq at HT HB ⊢
        by_cases hlt : i < L.length
        · have HPOS : Hid (0 < L.length) := by show _ < _; omega
          obtain ⟨ab, ao, ha⟩ : ∃ ab ao, a = some ⟨ab, ao, none⟩ := by
            obtain ⟨b, o, h1, _⟩ := H.out 0 HPOS.out
            exact ⟨b, o, h1⟩
          subst ha
          have HAT : Hid (∀ u, Below lo w u → ∀ j (h : j < L.length), ab < u.heap.size ∧ ∀ k v, L[j].cells[k]? = some v → u.cell? ⟨ab, ao + j * 4 + k, none⟩ = some v) := fun u hu j hj => by
            obtain ⟨b, o, h1, h2, h3⟩ := (H.out.later (by rw [← HLO.out]; exact hu)) j hj
            injection h1 with h1
            injection h1 with e1 e2 _
            subst e1 e2
            exact ⟨h2, h3⟩
          have HKEY : Hid (1 ≤ L[i].key.1 ∧ L[i].key.1 ≤ 9999) := by
            have := okB_amt (HOK.out _ (List.getElem_mem hlt))
            exact ⟨this.2.2.2.1, this.2.2.2.2⟩
          have HSKIP : Hid ((∃ j, ∃ h : j < L.length, j < i ∧ L[j].key = L[i].key) ∨ ksum L L[i].key = 0 → DocAt L (i + 1) T) := fun h => HD.out.skip hlt h
          have HPUT : Hid ((∀ j, ∀ h : j < L.length, j < i → L[j].key ≠ L[i].key) → ksum L L[i].key ≠ 0 → DocAt L (i + 1) (insL T (placeL T L[i].key) (Ln.of L[i].key (ksum L L[i].key)))) := fun hf h0 => HD.out.put hlt hf h0 (fun j hj hji => placeL_lt j hj hji) (fun hn => placeL_at hn)
          have HFIT : Hid (fitB (ksum L L[i].key) = true → ∀ j (h : j < L.length), j < i + 1 → fitB (ksum L L[j].key) = true) := fun hx j hj hji => by
            by_cases e : j = i
            · subst e; exact hx
            · exact HF.out j hj (by omega)
          have HFOLD : Hid ((∃ j, ∃ h : j < L.length, j < i ∧ L[j].key = L[i].key) → fitB (ksum L L[i].key) = true) := by
            rintro ⟨j, hj, hji, e⟩
            rw [← e]; exact HF.out j hj hji
          have HBADK : Hid (fitB (ksum L L[i].key) = false → tokB L = false) := fun hf => tok_bad2 ⟨_, List.getElem_mem hlt, rfl⟩ hf
          have HCI : Hid (∀ u, Below lo w u → ab < u.heap.size ∧ ∀ k v, L[i].cells[k]? = some v → u.cell? ⟨ab, ao + i * 4 + k, none⟩ = some v) := fun u hu => HAT.out u hu i hlt
          obtain ⟨ky, hky⟩ : ∃ ky, ky = L[i] := ⟨_, rfl⟩
          have HKI : Hid (∀ h : i < L.length, ky = L[i]) := fun _ => hky
          rw [← hky] at HKEY HSKIP HPUT HFIT HFOLD HBADK HCI
          have j0 : (0 : Int) ≤ (i : Int) := by omega
          have j1 : (i : Int) < (L.length : Int) := by omega
          have j2 : L.length ≤ 300 := HL.out
          have HLT := Lib.hid hlt
          have HKX := Lib.hid hkx
          clear hky hlt hkx HF HD
          go_upto_region 13 with (fail)
          go_loopg [7, 8, 9] L.length (fun ky9 s7 s8 s9 wr => ∃ (k : Nat) (ov : Value) (f : Bool), s9 = .int .i64 (k : Int) ∧ ov = s7 ∧ s8 = .bool f ∧ k ≤ L.length ∧ Hid (wr.ownsRow wq.heap.size TLine 4 ov (ownL (L.take k) ky.key).length (flatL (ownL (L.take k) ky.key))) ∧ Hid (f = true ↔ ∀ j (h : j < L.length), j < k → L[j].key = ky.key → i ≤ j) ∧ Hid (Below wq.heap.size wq wr) ∧ L.length ≤ k + ky9)
          case atStart => exact ⟨0, _, true, rfl, rfl, rfl, Nat.zero_le _, World.ownsRow_nil _ _ _ _, ⟨fun _ j _ hj => by omega, fun _ => rfl⟩, Below.refl _ _, by omega⟩
          case round =>
            obtain ⟨k, ov, f, rfl, hov, rfl, hk9, HO, HFF, HBR, hky9⟩ := hrel
            obtain ⟨oa, oc, rfl⟩ := own_any HO.out
            subst hov
            have HBW : Hid (Below lo w wr) := HB.out.trans (HBR.out.mono (by rw [HLO.out]; exact HB.out.size))
            by_cases hklt : k < L.length
            · have HCK := Lib.hid (HAT.out _ HBW.out k hklt)
              have HCJ := Lib.hid (HCI.out _ HBW.out)
              have HSN : Hid (ownL (L.take (k + 1)) ky.key = if L[k].key = ky.key then ownL (L.take k) ky.key ++ [L[k]] else ownL (L.take k) ky.key) := by
                show _ = _
                rw [List.take_succ_eq_append_getElem hklt, ownL_snoc]
              have HFN : Hid (L[k].key = ky.key → ((f && decide (i ≤ k)) = true ↔ ∀ j (h : j < L.length), j < k + 1 → L[j].key = ky.key → i ≤ j)) := fun hke => by
                rw [Bool.and_eq_true, HFF.out, decide_eq_true_iff]
                constructor
                · rintro ⟨h1, h2⟩ j hj hjk he
                  by_cases e : j = k
                  · omega
                  · exact h1 j hj (by omega) he
                · intro h1
                  exact ⟨fun j hj hjk he => h1 j hj (by omega) he, h1 k hklt (by omega) hke⟩
              have HFN2 : Hid (L[k].key ≠ ky.key → (f = true ↔ ∀ j (h : j < L.length), j < k + 1 → L[j].key = ky.key → i ≤ j)) := fun hke => by
                rw [HFF.out]
                constructor
                · intro h1 j hj hjk he
                  by_cases e : j = k
                  · subst e; exact absurd he hke
                  · exact h1 j hj (by omega) he
                · exact fun h1 j hj hjk he => h1 j hj (by omega) he
              have HOL : Hid ((ownL (L.take k) ky.key).length ≤ 300) := by
                have h1 := ownL_len (L.take k) ky.key
                rw [List.length_take] at h1
                show _ ≤ _
                omega
              obtain ⟨P, hP⟩ : ∃ P, P = ownL (L.take k) ky.key := ⟨_, rfl⟩
              rw [← hP] at HO HSN HOL ⊢
              obtain ⟨x, hx⟩ : ∃ x, x = L[k] := ⟨_, rfl⟩
              rw [← hx] at HCK HSN HFN HFN2
              have KA := Lib.hid (fun u => alike_c x ky u)
              obtain ⟨q, hq⟩ : ∃ q, q = decide (x.key = ky.key) := ⟨_, rfl⟩
              rw [← hq] at KA
              have HQ := Lib.hid hq
              have l0 : (0 : Int) ≤ (k : Int) := by omega
              have l1 : (k : Int) < (L.length : Int) := by omega
              have HKLT := Lib.hid hklt
              have HKY9 := Lib.hid hky9
              clear hq hx hP hklt hky9 HFF
              obtain ⟨xa, xb, xc, xd⟩ := x
              have C0 : Hid (wr.cell? ⟨ab, ao + k * 4, none⟩ = some (.int .i64 xa)) := HCK.out.2 0 _ rfl
              have C1 : Hid (wr.cell? ⟨ab, ao + k * 4 + 1, none⟩ = some (.int .u64 xb)) := HCK.out.2 1 _ rfl
              have C2 : Hid (wr.cell? ⟨ab, ao + k * 4 + 2, none⟩ = some (.int .u64 xc)) := HCK.out.2 2 _ rfl
              have C3 : Hid (wr.cell? ⟨ab, ao + k * 4 + 3, none⟩ = some (.int .i64 xd)) := HCK.out.2 3 _ rfl
              have KA2 : Hid (∃ ka kb kc kd, ky = ⟨ka, kb, kc, kd⟩) := ⟨ky.acc, ky.cus, ky.con, ky.amt, rfl⟩
              obtain ⟨ka, kb, kc, kd, hkk⟩ := KA2.out
              have D0 : Hid (wr.cell? ⟨ab, ao + i * 4, none⟩ = some (.int .i64 ka)) := HCJ.out.2 0 _ (by rw [hkk]; rfl)
              have D1 : Hid (wr.cell? ⟨ab, ao + i * 4 + 1, none⟩ = some (.int .u64 kb)) := HCJ.out.2 1 _ (by rw [hkk]; rfl)
              have D2 : Hid (wr.cell? ⟨ab, ao + i * 4 + 2, none⟩ = some (.int .u64 kc)) := HCJ.out.2 2 _ (by rw [hkk]; rfl)
              have D3 : Hid (wr.cell? ⟨ab, ao + i * 4 + 3, none⟩ = some (.int .i64 kd)) := HCJ.out.2 3 _ (by rw [hkk]; rfl)
              have HAB : Hid (ab < wr.heap.size) := HCK.out.1
              have KA3 : Hid (∀ u, Calls Try.prog 60 #[.agg #[.int .i64 xa, .int .u64 xb, .int .u64 xc, .int .i64 xd], .agg #[.int .i64 ka, .int .u64 kb, .int .u64 kc, .int .i64 kd]] u fun e w' => e = .returned (.bool q) ∧ Below u.heap.size u w') := fun u => by
                have := KA.out u
                rw [hkk] at this
                exact this
              have HSK : Hid (∀ u u', (ab < u.heap.size ∧ u.cell? ⟨ab, ao + k * 4, none⟩ = some (.int .i64 xa) ∧ u.cell? ⟨ab, ao + k * 4 + 1, none⟩ = some (.int .u64 xb) ∧ u.cell? ⟨ab, ao + k * 4 + 2, none⟩ = some (.int .u64 xc) ∧ u.cell? ⟨ab, ao + k * 4 + 3, none⟩ = some (.int .i64 xd) ∧ u.cell? ⟨ab, ao + i * 4, none⟩ = some (.int .i64 ka) ∧ u.cell? ⟨ab, ao + i * 4 + 1, none⟩ = some (.int .u64 kb) ∧ u.cell? ⟨ab, ao + i * 4 + 2, none⟩ = some (.int .u64 kc) ∧ u.cell? ⟨ab, ao + i * 4 + 3, none⟩ = some (.int .i64 kd)) → Below u.heap.size u u' → (ab < u'.heap.size ∧ u'.cell? ⟨ab, ao + k * 4, none⟩ = some (.int .i64 xa) ∧ u'.cell? ⟨ab, ao + k * 4 + 1, none⟩ = some (.int .u64 xb) ∧ u'.cell? ⟨ab, ao + k * 4 + 2, none⟩ = some (.int .u64 xc) ∧ u'.cell? ⟨ab, ao + k * 4 + 3, none⟩ = some (.int .i64 xd) ∧ u'.cell? ⟨ab, ao + i * 4, none⟩ = some (.int .i64 ka) ∧ u'.cell? ⟨ab, ao + i * 4 + 1, none⟩ = some (.int .u64 kb) ∧ u'.cell? ⟨ab, ao + i * 4 + 2, none⟩ = some (.int .u64 kc) ∧ u'.cell? ⟨ab, ao + i * 4 + 3, none⟩ = some (.int .i64 kd))) := by
                rintro u u' ⟨h0, h1, h2, h3, h4, g1, g2, g3, g4⟩ hb
                exact ⟨Nat.lt_of_lt_of_le h0 hb.size, by rw [hb.cell h0]; exact h1, by rw [hb.cell h0]; exact h2, by rw [hb.cell h0]; exact h3, by rw [hb.cell h0]; exact h4, by rw [hb.cell h0]; exact g1, by rw [hb.cell h0]; exact g2, by rw [hb.cell h0]; exact g3, by rw [hb.cell h0]; exact g4⟩
              clear hkk KA2 KA HCK HCJ
              go_upto_region 15 with (fail)
              refine wp_region_held_drew (S := (fun u => (ab < u.heap.size ∧ u.cell? ⟨ab, ao + k * 4, none⟩ = some (.int .i64 xa) ∧ u.cell? ⟨ab, ao + k * 4 + 1, none⟩ = some (.int .u64 xb) ∧ u.cell? ⟨ab, ao + k * 4 + 2, none⟩ = some (.int .u64 xc) ∧ u.cell? ⟨ab, ao + k * 4 + 3, none⟩ = some (.int .i64 xd) ∧ u.cell? ⟨ab, ao + i * 4, none⟩ = some (.int .i64 ka) ∧ u.cell? ⟨ab, ao + i * 4 + 1, none⟩ = some (.int .u64 kb) ∧ u.cell? ⟨ab, ao + i * 4 + 2, none⟩ = some (.int .u64 kc) ∧ u.cell? ⟨ab, ao + i * 4 + 3, none⟩ = some (.int .i64 kd)))) (by kernel_rfl) ?_ (fun hHeld => ?_)
              · exact ⟨HAB.out, C0.out, C1.out, C2.out, C3.out, D0.out, D1.out, D2.out, D3.out⟩
              refine wpAnyH_take (i := 0) (oi := { dst := some 37, op := Op.move (Operand.tmp 0), type := 23, pos := "ref.go:108", after := #[], guard := none }) (v := (.slice (some ⟨ab, ao, none⟩) L.length cap)) rfl (by kernel_rfl) (by kernel_rfl) (by kernel_rfl) (fun _ _ _ h => h) (Or.inl ⟨by rfl, ?_⟩) hHeld ?_
              · rintro u ⟨h0, h1, h2, h3, h4, g1, g2, g3, g4⟩
                go_simp <;> first | rfl | kernel_rfl
              try simp only [Act.put, List.setIfInBounds_toArray, List.set_cons_zero, List.set_cons_succ]
              refine wpAnyH_take (i := 1) (oi := { dst := some 38, op := Op.move (Operand.tmp 9), type := 3, pos := "ref.go:108", after := #[], guard := none }) (v := (.int .i64 (k : Int))) rfl (by kernel_rfl) (by kernel_rfl) (by kernel_rfl) (fun _ _ _ h => h) (Or.inl ⟨by rfl, ?_⟩) hHeld ?_
              · rintro u ⟨h0, h1, h2, h3, h4, g1, g2, g3, g4⟩
                go_simp <;> first | rfl | kernel_rfl
              try simp only [Act.put, List.setIfInBounds_toArray, List.set_cons_zero, List.set_cons_succ]
              refine wpAnyH_take (i := 2) (oi := { dst := some 39, op := Op.indexAddr 23 (Operand.tmp 37) (Operand.tmp 38), type := 0, pos := "ref.go:108", after := #[{ on := 0, ground := Ground.data }, { on := 1, ground := Ground.data }], guard := none }) (v := (.pointer (some ⟨ab, ao + k * 4, none⟩))) rfl (by kernel_rfl) (by kernel_rfl) (by kernel_rfl) (fun _ _ _ h => h) (Or.inl ⟨by rfl, ?_⟩) hHeld ?_
              · rintro u ⟨h0, h1, h2, h3, h4, g1, g2, g3, g4⟩
                go_simp <;> first | rfl | kernel_rfl
              try simp only [Act.put, List.setIfInBounds_toArray, List.set_cons_zero, List.set_cons_succ]
              refine wpAnyH_take (i := 3) (oi := { dst := some 40, op := Op.load 67 (Operand.tmp 39), type := 67, pos := "ref.go:108", after := #[{ on := 2, ground := Ground.data }], guard := none }) (v := (.agg #[.int .i64 xa, .int .u64 xb, .int .u64 xc, .int .i64 xd])) rfl (by kernel_rfl) (by kernel_rfl) (by kernel_rfl) (fun _ _ _ h => h) (Or.inl ⟨by rfl, ?_⟩) hHeld ?_
              · rintro u ⟨h0, h1, h2, h3, h4, g1, g2, g3, g4⟩
                go_simp <;> first | rfl | kernel_rfl
              try simp only [Act.put, List.setIfInBounds_toArray, List.set_cons_zero, List.set_cons_succ]
              refine wpAnyH_take (i := 4) (oi := { dst := some 41, op := Op.move (Operand.tmp 0), type := 23, pos := "ref.go:108", after := #[], guard := none }) (v := (.slice (some ⟨ab, ao, none⟩) L.length cap)) rfl (by kernel_rfl) (by kernel_rfl) (by kernel_rfl) (fun _ _ _ h => h) (Or.inl ⟨by rfl, ?_⟩) hHeld ?_
              · rintro u ⟨h0, h1, h2, h3, h4, g1, g2, g3, g4⟩
                go_simp <;> first | rfl | kernel_rfl
              try simp only [Act.put, List.setIfInBounds_toArray, List.set_cons_zero, List.set_cons_succ]
              refine wpAnyH_take (i := 5) (oi := { dst := some 42, op := Op.move (Operand.tmp 6), type := 3, pos := "ref.go:108", after := #[], guard := none }) (v := (.int .i64 (i : Int))) rfl (by kernel_rfl) (by kernel_rfl) (by kernel_rfl) (fun _ _ _ h => h) (Or.inl ⟨by rfl, ?_⟩) hHeld ?_
              · rintro u ⟨h0, h1, h2, h3, h4, g1, g2, g3, g4⟩
                go_simp <;> first | rfl | kernel_rfl
              try simp only [Act.put, List.setIfInBounds_toArray, List.set_cons_zero, List.set_cons_succ]
              refine wpAnyH_take (i := 6) (oi := { dst := some 43, op := Op.indexAddr 23 (Operand.tmp 41) (Operand.tmp 42), type := 0, pos := "ref.go:108", after := #[{ on := 4, ground := Ground.data }, { on := 5, ground := Ground.data }], guard := none }) (v := (.pointer (some ⟨ab, ao + i * 4, none⟩))) rfl (by kernel_rfl) (by kernel_rfl) (by kernel_rfl) (fun _ _ _ h => h) (Or.inl ⟨by rfl, ?_⟩) hHeld ?_
              · rintro u ⟨h0, h1, h2, h3, h4, g1, g2, g3, g4⟩
                go_simp <;> first | rfl | kernel_rfl
              try simp only [Act.put, List.setIfInBounds_toArray, List.set_cons_zero, List.set_cons_succ]
              refine wpAnyH_take (i := 7) (oi := { dst := some 44, op := Op.load 67 (Operand.tmp 43), type := 67, pos := "ref.go:108", after := #[{ on := 6, ground := Ground.data }], guard := none }) (v := (.agg #[.int .i64 ka, .int .u64 kb, .int .u64 kc, .int .i64 kd])) rfl (by kernel_rfl) (by kernel_rfl) (by kernel_rfl) (fun _ _ _ h => h) (Or.inl ⟨by rfl, ?_⟩) hHeld ?_
              · rintro u ⟨h0, h1, h2, h3, h4, g1, g2, g3, g4⟩
                go_simp <;> first | rfl | kernel_rfl
              try simp only [Act.put, List.setIfInBounds_toArray, List.set_cons_zero, List.set_cons_succ]
              refine wpAnyH_ready (rs := [8]) (by kernel_rfl) (by simp) ?_
              refine AllReadyH.cons (o := { dst := some 45, op := Op.call { callee := Callee.value (Operand.func 60), args := #[Operand.tmp 40, Operand.tmp 44], argTypes := #[67, 67] }, type := 4, pos := "ref.go:108", after := #[{ on := 3, ground := Ground.data }, { on := 7, ground := Ground.data }], guard := none }) rfl (fun Kq hKq => ?_) AllReadyH.nil
              go_simp
              refine (KA3.out _).mono ?_
              rintro _ V1 ⟨rfl, hb1⟩
              go_simp
              refine hKq.out _ _ ((HSK.out _ _ hHeld hb1)) (fun hHeld8 => ?_)
              clear hKq Kq
              try simp only [Act.put, List.setIfInBounds_toArray, List.set_cons_zero, List.set_cons_succ]
              have hHeldE := hHeld8
              refine wpAnyH_done (by kernel_rfl) ?_ _
              have HBR1 : Hid (Below wq.heap.size wq V1) := HBR.out.drew.trans (hb1.mono HBR.out.size)
              have HO1 : Hid (V1.ownsRow wq.heap.size TLine 4 (.slice oa P.length oc) P.length (flatL P)) := own_later (w := wr.drew) HO.out hb1
              have e0 : V1.cell? ⟨ab, ao + k * 4, none⟩ = some (.int .i64 xa) := hHeldE.2.1
              have e1 : V1.cell? ⟨ab, ao + k * 4 + 1, none⟩ = some (.int .u64 xb) := hHeldE.2.2.1
              have e2 : V1.cell? ⟨ab, ao + k * 4 + 2, none⟩ = some (.int .u64 xc) := hHeldE.2.2.2.1
              have e3 : V1.cell? ⟨ab, ao + k * 4 + 3, none⟩ = some (.int .i64 xd) := hHeldE.2.2.2.2.1
              clear hb1 HO HBR HBW C0 C1 C2 C3 D0 D1 D2 D3 HSK KA3 hHeldE
              cases q with
              | false =>
                have hne : (Ln.mk xa xb xc xd).key ≠ ky.key := of_decide_eq_false HQ.out.symm
                have HF2 := Lib.hid (HFN2.out hne)
                have HS2 : Hid (ownL (L.take (k + 1)) ky.key = P) := by show _ = _; rw [HSN.out, if_neg hne]
                clear hne HFN HFN2 HSN e0 e1 e2 e3
                go_wp2_with fail
                have hklt := HKLT.out
                have hky9 := HKY9.out
                go_roundg (L.length - (k + 1))
                case measure => omega
                case rel => exact ⟨k + 1, _, f, by simp, rfl, rfl, by omega, by rw [HS2.out]; exact HO1, HF2, HBR1, by omega⟩
              | true =>
                have hke : (Ln.mk xa xb xc xd).key = ky.key := of_decide_eq_true HQ.out.symm
                have HF2 := Lib.hid (HFN.out hke)
                have HS2 : Hid (ownL (L.take (k + 1)) ky.key = P ++ [⟨xa, xb, xc, xd⟩]) := by show _ = _; rw [HSN.out, if_pos hke]
                have hs : wq.heap.size ≤ V1.heap.size := HBR1.out.size
                clear hke HFN HFN2 HSN
                go_wp2_with (at_builtin; refine wpList_append_own_at _ rfl _ _ TLines rfl wq.heap.size TLine i4 z4 4 32 Try.underlying23 hk0 hk1 hk2 hk3 hk4 (by decide) _ _ _ rfl (HO1.out.alloc _) ⟨V1.heap.size, 0, none⟩ 1 1 [.int .i64 xa, .int .u64 xb, .int .u64 xc, .int .i64 xd] rfl rfl (rw_news (Rw.new V1 [.int .i64 xa, .int .u64 xb, .int .u64 xc, .int .i64 xd] TLine)) (by simp [Value.oneCell']) (by have := HOL.out; unfold maxLen; omega) (by have := HOL.out; omega) (by simp; omega) ?_)
                intro v2 W2 hown2 hg2 hnil2 hat2
                have HBR2 : Hid (Below wq.heap.size wq W2) := (HBR1.out.alloc hs _).grown hg2 (by simp; omega) (fun j hj => (HO1.out.lt j hj).1)
                have HO2 : Hid (W2.ownsRow wq.heap.size TLine 4 v2 (ownL (L.take (k + 1)) ky.key).length (flatL (ownL (L.take (k + 1)) ky.key))) := by
                  show W2.ownsRow _ _ _ _ _ _
                  rw [HS2.out, flatL_snoc, List.length_append]
                  exact hown2
                clear hown2 hg2 hnil2 hat2 HO1 HBR1 HS2 e0 e1 e2 e3 hs
                cases f with
                | false =>
                  go_wp2_with fail
                  have hklt := HKLT.out
                  have hky9 := HKY9.out
                  go_roundg (L.length - (k + 1))
                  case measure => omega
                  case rel => exact ⟨k + 1, _, false, by simp, rfl, rfl, by omega, HO2, by simpa using HF2, HBR2, by omega⟩
                | true =>
                  obtain ⟨z, hz⟩ : ∃ z, z = decide (i ≤ k) := ⟨_, rfl⟩
                  rw [← hz, Bool.true_and] at HF2
                  have HZ := Lib.hid hz
                  clear hz
                  go_wp2_with fail
                  have hklt := HKLT.out
                  have hky9 := HKY9.out
                  go_roundg (L.length - (k + 1))
                  case measure => omega
                  case rel => exact ⟨k + 1, _, z, by simp, rfl, by simp; exact HZ.out.symm, by omega, HO2, HF2, HBR2, by omega⟩
            · obtain rfl : k = L.length := by omega
              rw [List.take_length] at HO ⊢
              clear hky9 hklt hk9 HAT
              cases f with
              | false =>
                have HOLD : Hid (∃ j, ∃ h : j < L.length, j < i ∧ L[j].key = ky.key) := by
                  refine Classical.byContradiction fun hn => ?_
                  have h1 : (false = true) := HFF.out.2 fun j hj _ he => by
                    refine Classical.byContradiction fun hlt => hn ⟨j, hj, by omega, he⟩
                  cases h1
                have HD2 := Lib.hid (HSKIP.out (.inl HOLD.out))
                have HF3 := Lib.hid (HFIT.out (HFOLD.out HOLD.out))
                have HT2 := Lib.hid (own_later HT.out HBR.out)
                clear HPUT HSKIP HFIT HFOLD HBADK HO HBR HT HOLD HFF
                go_wp2_with fail
                have hlt := HLT.out
                have hkx := HKX.out
                go_roundg (L.length - (i + 1))
                case measure => omega
                case rel => exact ⟨i + 1, _, T, by simp, rfl, by omega, HT2, HD2, by have := HTL.out; show _ ≤ _; omega, HF3, HBW, by omega⟩
              | true =>
                have HNEW : Hid (∀ j, ∀ h : j < L.length, j < i → L[j].key ≠ ky.key) := fun j hj hji he => by
                  have := HFF.out.1 rfl j hj hj he
                  omega
                have HOL : Hid ((ownL L ky.key).length ≤ 300) := Nat.le_trans (ownL_len L ky.key) HL.out
                obtain ⟨oa', oc', hoe, hlns, _⟩ := lns_own HO.out
                have KS := Lib.hid (rsumL_c (ownL L ky.key) oa' oc' wr hlns HOL.out (fun x hx => by
                  have := okB_amt (HOK.out x (List.mem_filter.1 hx).1)
                  unfold I64
                  omega))
                rw [ownL_sum, ← hoe] at KS
                unfold Told at KS
                have HT2 := Lib.hid (own_later HT.out HBR.out)
                have HCJ := Lib.hid HCI.out
                generalize (ownL L ky.key).length = on at KS ⊢
                clear hlns hoe HO HBR HT HFF HFOLD
                have HOF : Hid (∀ n : Int, n ≠ 0 → (Ln.of ky.key n).okB = fitB n) := fun n hn => of_ok HKEY.out.1 HKEY.out.2 hn
                generalize ksum L ky.key = n at KS HSKIP HPUT HFIT HBADK
                go_wp2_with fail
                refine KS.out.mono ?_
                rintro _ W2 ⟨rfl, hb2⟩
                have HB2 : Hid (Below lo w W2) := HBW.out.trans (hb2.mono (by rw [HLO.out]; exact HBW.out.size))
                have HT3 := Lib.hid (own_later HT2.out hb2)
                clear hb2 KS HT2 HBW
                have HCK := Lib.hid (HCJ.out _ HB2.out)
                obtain ⟨ka, kb, kc, kd⟩ := ky
                have c0 : W2.cell? ⟨ab, ao + i * 4, none⟩ = some (.int .i64 ka) := HCK.out.2 0 _ rfl
                have c1 : W2.cell? ⟨ab, ao + i * 4 + 1, none⟩ = some (.int .u64 kb) := HCK.out.2 1 _ rfl
                have c2 : W2.cell? ⟨ab, ao + i * 4 + 2, none⟩ = some (.int .u64 kc) := HCK.out.2 2 _ rfl
                have c3 : W2.cell? ⟨ab, ao + i * 4 + 3, none⟩ = some (.int .i64 kd) := HCK.out.2 3 _ rfl
                obtain ⟨nv, hnv⟩ : ∃ nv, nv = Ar.val n := ⟨_, rfl⟩
                rw [← hnv]
                have HNV := Lib.hid hnv
                clear hnv
                go_upto_region 21 with (fail)
                have hb1 : Below W2.heap.size W2 (W2.alloc (.cells #[.int .i64 ka, .int .u64 kb, .int .u64 kc, .int .i64 kd] TLine)) := (Below.refl _ _).alloc (Nat.le_refl _) _
                have HB3 : Hid (Below lo w (W2.alloc (.cells #[.int .i64 ka, .int .u64 kb, .int .u64 kc, .int .i64 kd] TLine))) := HB2.out.trans (hb1.mono (by rw [HLO.out]; exact HB2.out.size))
                have HT4 := Lib.hid (own_later HT3.out hb1)
                have RX3 : Hid (Rw (W2.alloc (.cells #[.int .i64 ka, .int .u64 kb, .int .u64 kc, .int .i64 kd] TLine)) W2.heap.size TLine [.int .i64 ka, .int .u64 kb, .int .u64 kc, .int .i64 kd]) := Rw.new W2 [.int .i64 ka, .int .u64 kb, .int .u64 kc, .int .i64 kd] TLine
                obtain ⟨bx, hbx⟩ : ∃ bx, bx = W2.heap.size := ⟨_, rfl⟩
                have HBX : Hid (lo ≤ bx) := by show _ ≤ _; rw [hbx, HLO.out]; exact HB2.out.size
                have HTB : Hid (∀ j, (Value.slice ta T.length tc).ownBlock = some j → j < bx) := fun j hj => by rw [hbx]; exact (HT3.out.lt j hj).2
                rw [← hbx] at RX3 ⊢
                generalize W2.alloc (.cells #[.int .i64 ka, .int .u64 kb, .int .u64 kc, .int .i64 kd] TLine) = W3 at HB3 HT4 RX3 ⊢
                clear c0 c1 c2 c3 hb1 hbx HB2 HT3 HCK HCJ
                have d3 : W3.cell? ⟨bx, 3, none⟩ = some (.int .i64 kd) := RX3.out.cell 3
                have f3 : W3.frozen? ⟨bx, 3, none⟩ = false := RX3.out.frozen 3
                go_upto_region 22 with (fail)
                have kp : Keeps (fun j => j = bx) W3 (W3.setCell ⟨bx, 3, none⟩ (.int .i64 nv)) := (Keeps.refl (fun j => j = bx) W3).setCell bx 3 _ (.inl rfl)
                have HB4 : Hid (Below lo w (W3.setCell ⟨bx, 3, none⟩ (.int .i64 nv))) := Keeps.belowT HB3.out kp (fun j hj => by rw [hj]; exact HBX.out) (by rw [HLO.out]; exact HB3.out.size)
                have HT5 := Lib.hid (own_keeps HT4.out kp (fun j hj e => by have e1 : j = bx := e; have := HTB.out j hj; omega))
                have RX4 : Hid (Rw (W3.setCell ⟨bx, 3, none⟩ (.int .i64 nv)) bx TLine [.int .i64 ka, .int .u64 kb, .int .u64 kc, .int .i64 nv]) := RX3.out.setCell 3 _
                generalize W3.setCell ⟨bx, 3, none⟩ (.int .i64 nv) = W4 at HB4 HT5 RX4 ⊢
                clear d3 f3 kp HB3 HT4 RX3
                by_cases hfit : Ar.Fits n
                · obtain ⟨z1, z2⟩ := fits_yes hfit
                  rw [z1]
                  obtain rfl : nv = n := HNV.out.trans z2
                  clear z1 z2 HNV hfit
                  by_cases hn0 : nv = 0
                  · subst hn0
                    have HD2 := Lib.hid (HSKIP.out (.inr rfl))
                    have HF3 := Lib.hid (HFIT.out (by decide))
                    clear HSKIP HPUT HFIT HBADK
                    go_wp2_with fail
                    have hlt := HLT.out
                    have hkx := HKX.out
                    go_roundg (L.length - (i + 1))
                    case measure => omega
                    case rel => exact ⟨i + 1, _, T, by simp, rfl, by omega, HT5, HD2, by have := HTL.out; show _ ≤ _; omega, HF3, HB4, by omega⟩
                  · have hn1 : (nv == 0) = false := beq_eq_false_iff_ne.2 hn0
                    have hn2 : (nv != 0) = true := by simpa using hn0
                    have KM : Hid (∀ u, Calls Try.prog 50 #[.agg #[.int .i64 ka, .int .u64 kb, .int .u64 kc, .int .i64 nv]] u fun e w' => e = .returned (.bool (fitB nv)) ∧ Below u.heap.size u w') := fun u => by
                      have h1 := may_c (Ln.of (ka, kb, kc) nv) u
                      have h2 := HOF.out nv hn0
                      have e : (Ln.mk ka kb kc kd).key = (ka, kb, kc) := rfl
                      rw [e] at h2
                      rw [h2] at h1
                      exact h1
                    have d0 : W4.cell? ⟨bx, 0, none⟩ = some (.int .i64 ka) := RX4.out.cell 0
                    have d1 : W4.cell? ⟨bx, 1, none⟩ = some (.int .u64 kb) := RX4.out.cell 1
                    have d2 : W4.cell? ⟨bx, 2, none⟩ = some (.int .u64 kc) := RX4.out.cell 2
                    have d3 : W4.cell? ⟨bx, 3, none⟩ = some (.int .i64 nv) := RX4.out.cell 3
                    have HN0 := Lib.hid hn0
                    obtain ⟨b, hb⟩ : ∃ b, b = fitB nv := ⟨_, rfl⟩
                    rw [← hb] at KM HFIT HBADK
                    clear hb hn0
                    go_wp2_with fail
                    refine (KM.out _).mono ?_
                    rintro _ W5 ⟨rfl, hb5⟩
                    have HB5 : Hid (Below lo w W5) := HB4.out.trans (hb5.mono (by rw [HLO.out]; exact HB4.out.size))
                    have HT6 := Lib.hid (own_later HT5.out hb5)
                    have RX5 := Lib.hid (RX4.out.later hb5)
                    clear d0 d1 d2 d3 KM hb5 HB4 HT5 RX4
                    cases b with
                    | false =>
                      have HTT := Lib.hid (HBADK.out rfl)
                      clear HSKIP HPUT HFIT HBADK
                      go_wp2_with fail
                      refine bodyPost_ret (v := .tuple #[.slice none 0 0, .int .i64 2]) (by simp [results, Try.results23, go_sem]) rfl ?_
                      exact ⟨by rw [← HLO.out]; exact HB5.out, .inr ⟨HTT.out, rfl⟩⟩
                    | true =>
                      have HD2 := Lib.hid (HPUT.out HNEW.out HN0.out)
                      have HF3 := Lib.hid (HFIT.out rfl)
                      have KP := Lib.hid (rput_c T ta tc (Ln.of (ka, kb, kc) nv) W5 lo HT6.out (by have h1 := HTL.out; have h2 := HLT.out; have h3 := HL.out; omega))
                      have e : (Ln.mk ka kb kc kd).key = (ka, kb, kc) := rfl
                      rw [e] at HD2
                      rw [Ln.key_of] at KP
                      unfold Ln.val Ln.of at KP
                      unfold Ln.of at HD2
                      simp only at KP HD2
                      have d0 : W5.cell? ⟨bx, 0, none⟩ = some (.int .i64 ka) := RX5.out.cell 0
                      have d1 : W5.cell? ⟨bx, 1, none⟩ = some (.int .u64 kb) := RX5.out.cell 1
                      have d2 : W5.cell? ⟨bx, 2, none⟩ = some (.int .u64 kc) := RX5.out.cell 2
                      have d3 : W5.cell? ⟨bx, 3, none⟩ = some (.int .i64 nv) := RX5.out.cell 3
                      clear HSKIP HPUT HFIT HBADK e
                      go_wp2_with fail
                      refine KP.out.mono ?_
                      rintro _ W6 ⟨v6, rfl, hown6, hb6⟩
                      have HB6 : Hid (Below lo w W6) := HB5.out.trans (hb6.mono (by rw [HLO.out]; exact HB5.out.size))
                      have HT7 : Hid (W6.ownsRow lo TLine 4 v6 (insL T (placeL T (ka, kb, kc)) ⟨ka, kb, kc, nv⟩).length (flatL (insL T (placeL T (ka, kb, kc)) ⟨ka, kb, kc, nv⟩))) := by
                        show World.ownsRow _ _ _ _ _ _ _
                        rw [insL_len]
                        exact own_low hown6 (by rw [HLO.out]; exact HB5.out.size)
                      have HTL2 : Hid ((insL T (placeL T (ka, kb, kc)) ⟨ka, kb, kc, nv⟩).length ≤ i + 1) := by
                        show _ ≤ _
                        rw [insL_len]
                        have := HTL.out
                        omega
                      clear d0 d1 d2 d3 KP hown6 hb6 HB5 HT6 RX5
                      go_wp2_with fail
                      have hlt := HLT.out
                      have hkx := HKX.out
                      go_roundg (L.length - (i + 1))
                      case measure => omega
                      case rel => exact ⟨i + 1, _, _, by simp, rfl, by omega, HT7, HD2, HTL2, HF3, HB6, by omega⟩
                · obtain ⟨z1, z2⟩ := fits_no hfit
                  rw [z1]
                  have HTT : Hid (tokB L = false) := HBADK.out z2
                  clear z1 z2 hfit HSKIP HPUT HFIT HBADK
                  go_wp2_with fail
                  refine bodyPost_ret (v := .tuple #[.slice none 0 0, .int .i64 2]) (by simp [results, Try.results23, go_sem]) rfl ?_
                  exact ⟨by rw [← HLO.out]; exact HB4.out, .inr ⟨HTT.out, rfl⟩⟩
        · obtain rfl : i = L.length := by omega
          clear hkx hlt hi9
          have HTOK : Hid (tokB L = true) := tok_good (List.all_eq_true.2 HOK.out) (K := L.map Ln.key) (fun x hx => List.mem_map.2 ⟨x, hx, rfl⟩) fun k hk => by
            obtain ⟨x, hx, rfl⟩ := List.mem_map.1 hk
            obtain ⟨j, hj, rfl⟩ := List.getElem_of_mem hx
            exact HF.out j hj hj
          have HTD := Lib.hid (HD.out.done (Nat.le_refl _))
          go_wp2_with fail
          refine bodyPost_ret (v := .tuple #[.slice ta T.length tc, .int .i64 0]) (by simp [results, Try.results23, go_sem]) rfl ?_
          exact ⟨by rw [← HLO.out]; exact HB.out, .inl ⟨HTOK.out, _, _, HTD.out, rfl, by rw [← HLO.out]; exact HT.out, HTL.out⟩⟩
end
end Go.Proofs.Ytnblilonjpfdnaa.Jn
