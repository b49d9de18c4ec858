/- Package drive: Crash. -/
import Derived.Test.YtjlncjabiofklaaDoorDwSync
namespace Go.Proofs.YtjlncjabiofklaaDoor.Dv
open Go Go.RowKit Rf
theorem sizeU8 : (Tryd.prog.info? 5).map (·.size) = some 1 := by kernel_rfl
theorem take_crash (c : Cr) (P : List (Nat × Sec)) (D : List Sec) (j : Nat) (hj : j < P.length) : crashTo c (P.take (j + 1)) 0 D = (crashTo c (P.take j) 0 D).set P[j].1 (part (c.cut j) P[j].2 ((crashTo c (P.take j) 0 D).getD P[j].1 [])) := by
  rw [List.take_succ_eq_append_getElem hj, crashTo_snoc]
  congr 3
  simp
  omega
theorem crash_take_64 {x : Dr} (hx : x.Ok) (c : Cr) (j : Nat) : ∀ s ∈ crashTo c (x.P.take j) 0 x.D, s.length = 64 := crashTo_64 c _ 0 _ hx.d fun q hq => hx.p q (List.mem_of_mem_take hq)
theorem and1 (m : Int) : bits .and .u64 m 1 = m % 2 := by
  have h1 : (BitVec.ofInt 64 1).toNat = 2 ^ 1 - 1 := by decide
  have key : (BitVec.ofInt 64 m &&& BitVec.ofInt 64 1).toNat = (m % ((2 ^ 64 : Nat) : Int)).toNat % 2 ^ 1 := by
    rw [BitVec.toNat_and, BitVec.toNat_ofInt, h1, Nat.and_two_pow_sub_one_eq_mod]
  show IntKind.u64.wrap ((BitVec.ofInt 64 m &&& BitVec.ofInt 64 1).toNat : Nat) = m % 2
  rw [key, IntKind.wrap_u64]
  omega
theorem bit_is (a j : Nat) : (bits .and .u64 ((a : Int) / 2 ^ (j % 64)) 1 == 1) = decide (a / 2 ^ (j % 64) % 2 = 1) := by
  rw [and1]
  have : ((a : Int) / 2 ^ (j % 64)) = ((a / 2 ^ (j % 64) : Nat) : Int) := by simp
  rw [this, Bool.eq_iff_iff]
  simp
  omega
theorem set_self {DD : List Sec} {k : Nat} : DD.set k (DD.getD k []) = DD := by
  by_cases h : k < DD.length
  · rw [List.getD_eq_getElem?_getD, List.getElem?_eq_getElem h, Option.getD_some, List.set_getElem_self]
  · rw [List.set_eq_of_length_le (by omega)]
/-- What is seen, as what is sure. -/
theorem AtV.seen {w : World} {g bv bd : Nat} {pv fv : Value} {V : List Sec} {x : Dr} (h : AtV w g bv bd pv fv V x) (hV : ∀ s ∈ V, s.length = 64) (hD : ∀ s ∈ x.D, s.length = 64) (hl : V.length = x.D.length) : AtV (w.setCells bv 0 (flat x.D)) g bv bd pv fv x.D x := by
  have K : Keeps (fun j => j = bv) w (w.setCells bv 0 (flat x.D)) := (Keeps.refl _ w).setCells bv 0 _ (.inl rfl)
  have h1 := flat_len hV
  have h2 := flat_len hD
  refine ⟨h.blk.keeps K (h.blk.type h.v (by decide)), ?_, h.d.keeps K (Ne.symm h.ne), own_keeps h.p K (fun j hj e => own_type h.p h.v (by decide) (e ▸ hj)), h.f.keeps K (fun j hj e => ?_), h.ne⟩
  · have := h.v.setCells (flat x.D) 0 (by omega)
    rwa [splice_all _ _ (by omega)] at this
  · subst e
    rcases h.f with ⟨_, rfl⟩ | ⟨b, n, _, rfl, h3⟩
    · cases hj
    · cases hj
      exact h3.type h.v (by decide) rfl
structure Cr.Fits (c : Cr) : Prop where
  keep : c.keep ≤ 18446744073709551615
  torn : -9223372036854775808 ≤ c.torn ∧ c.torn ≤ 9223372036854775807
  at' : -9223372036854775808 ≤ c.at' ∧ c.at' ≤ 9223372036854775807
abbrev Cr.cells (c : Cr) : List Value := [.int .u64 (c.keep : Int), .int .i64 c.torn, .int .i64 c.at']
abbrev Cr.val (c : Cr) : Value := .agg c.cells.toArray
set_option maxRecDepth 100000 in
set_option maxHeartbeats 8000000 in
theorem crash_c (g bv bd : Nat) (pv fv : Value) (x : Dr) (c : Cr) (w : World) (hA : At w g bv bd pv fv x) (hx : x.Ok) (hP : x.P.length ≤ 100000) (hc : c.Fits) : Calls Tryd.prog 13 #[.pointer (some ⟨g, 0, Option.none⟩), c.val] w fun e w' => e = .returned (.tuple #[]) ∧ Left g bv bd pv fv (x.crash c) w w' := by
  have hb : Below w.heap.size w (w.alloc (.cells c.cells.toArray 34)) := (Below.refl _ w).alloc (Nat.le_refl _) _
  have A0 := Lib.hid (hA.later hb)
  have Q0 := Lib.hid (Rw.new w c.cells 34)
  have K := Lib.hid (is_c g bv bd pv fv x _ A0.out hx)
  have HX := Lib.hid hx
  have HLT := Lib.hid hA.lt
  have HB := Lib.hid hb
  obtain ⟨ap, cap, rfl⟩ := own_val hA.p
  have hap := Lib.hid (show 0 < x.P.length → ∃ gp, ap = some ⟨gp, 0, none⟩ from fun h => by
    obtain ⟨gp, cap', e, _⟩ := hA.p.form h
    injection e with e
    exact ⟨gp, e⟩)
  have HC := Lib.hid hc
  have hkp := hc.keep
  clear hA hx hb hc
  go_enter Tryd.func13, Tryd.ntmps13
  unfold Cr.val Cr.cells
  go_wp2_with fail
  refine K.out.mono ?_
  rintro e W ⟨rfl, hW⟩
  have A1 := Lib.hid (hW ▸ A0.out)
  have Q1 := Lib.hid (hW ▸ Q0.out)
  have K1 := Lib.hid (Keeps.of (Bs g bv bd (.slice ap x.P.length cap) fv) (hW ▸ HB.out))
  have hqlt := HLT.out
  obtain ⟨q, hq⟩ : ∃ q, w.heap.size = q := ⟨_, rfl⟩
  have HQN := Lib.hid (show ∀ j, Bs g bv bd (.slice ap x.P.length cap) fv j → j ≠ q from fun j hj => by have := hqlt j hj; omega)
  rw [hq] at Q1 ⊢
  have HQ0 := Lib.hid hq
  clear hW A0 Q0 K HB HLT hqlt hq
  have c2 : W.cell? ⟨g, 2, none⟩ = some (.slice ap x.P.length cap) := A1.out.c2
  go_wp2_with fail
  clear c2
  go_loopw [14] (fun i wr => ∃ j : Nat, j ≤ x.P.length ∧ i = .int .i64 j ∧ AtV wr g bv bd (.slice ap x.P.length cap) fv x.V ⟨crashTo c (x.P.take j) 0 x.D, x.P, x.F⟩ ∧ Rw wr q 34 c.cells ∧ Keeps (Bs g bv bd (.slice ap x.P.length cap) fv) w wr) (fun i _ => x.P.length - (intOf i).toNat)
  case atStart => exact ⟨0, by omega, rfl, A1.out, Q1.out, K1.out⟩
  case round =>
    obtain ⟨j, hj, rfl, hA2, hQ2, hK2⟩ := hrel
    have A2 := Lib.hid hA2
    have K2 := Lib.hid hK2
    have Q2 := Lib.hid hQ2
    clear hA2 hK2 hQ2
    by_cases hlt : j < x.P.length
    · obtain ⟨gp, rfl⟩ := hap.out (by omega)
      obtain ⟨p, hp⟩ : ∃ p, x.P[j] = p := ⟨_, rfl⟩
      have hpk := HX.out.p x.P[j] (List.getElem_mem hlt)
      have hr := A2.out.rangeP (fun q hq => (HX.out.p q hq).2) j hlt
      have HTK := Lib.hid (take_crash c x.P x.D j hlt)
      rw [hp] at hpk hr HTK
      obtain ⟨k, ps⟩ := p
      have HPS := Lib.hid hpk.2
      have HK := Lib.hid hpk.1
      have hju : (j : Int) < (x.P.length : Int) := by omega
      have hj0 : (0 : Int) ≤ (j : Int) := by omega
      have HWL := Lib.hid (show (wc (k, ps)).length = 65 by simp [wc, sc_len, HPS.out])
      have HR := Lib.hid hr
      clear hp hpk hr
      obtain ⟨ZW, hZ, hZl⟩ : ∃ ZW : List Value, (∀ u, (zeroValue TW).run Tryd.prog u = .ok (.agg ZW.toArray) u) ∧ ZW.length = 65 := ⟨_, zeroW, by decide⟩
      have HZ := Lib.hid hZl
      clear hZl
      go_upto_region 5 with (first | (with_reducible refine wpList_load_mid rfl TW _ rfl gp (j * 65) rfl (wc (k, ps)) _ HR.out Tryd.underlying70 rfl (by rw [HWL.out]; exact infoW') ?_) | (with_reducible refine wpList_store_mid rfl TW _ _ rfl wr.heap.size 0 (wc (k, ps)).toArray rfl rfl ?t ?i ?o ?_))
      case t => rw [List.size_toArray, HWL.out]; exact (Rw.new wr ZW TW).there 0 65 (by rw [HZ.out]; exact Nat.le_refl _)
      case i => rw [HWL.out]; simpa using infoW'
      case o => exact wc_one
      have hB0 := (Rw.new wr ZW TW).setCells (wc (k, ps)) 0 (by rw [HWL.out, HZ.out]; exact Nat.le_refl _)
      rw [splice_all _ _ (by rw [HWL.out, HZ.out])] at hB0
      have hkk : Below wr.heap.size wr ((wr.alloc (.cells ZW.toArray TW)).setCells wr.heap.size 0 (wc (k, ps))) := ((Keeps.refl (fun _ => False) wr).alloc _ |>.setCells wr.heap.size 0 _ (.inr (Nat.le_refl _))).below (fun _ h => h.elim) (Nat.le_refl _)
      generalize (wr.alloc (.cells ZW.toArray TW)).setCells wr.heap.size 0 (wc (k, ps)) = W5 at *
      have A5 := Lib.hid (A2.out.later hkk)
      have K5 := Lib.hid (K2.out.trans (Keeps.of _ hkk))
      have Q5 := Lib.hid (Q2.out.later hkk)
      have HBX := Lib.hid hB0
      have gne : g ≠ bd := A5.out.blk.type A5.out.d (by decide)
      have bne : wr.heap.size ≠ bd := HBX.out.type A5.out.d (by decide)
      have qne : q ≠ bd := Q5.out.type A5.out.d (by decide)
      obtain ⟨B, hB⟩ : ∃ B, wr.heap.size = B := ⟨_, rfl⟩
      rw [hB] at HBX bne ⊢
      clear hB hkk hB0 hZ HZ A2 K2 Q2 HR HWL
      have HD := Lib.hid (show k < (crashTo c (x.P.take j) 0 x.D).length by rw [crashTo_len]; exact HK.out)
      have H64 := Lib.hid (crash_take_64 HX.out c j)
      obtain ⟨DD, hDD⟩ : ∃ DD, crashTo c (x.P.take j) 0 x.D = DD := ⟨_, rfl⟩
      rw [hDD] at HD H64 A5 HTK
      have HTH := Lib.hid (show ∀ n, n ≤ 64 → W5.drew.there bd (k * 64) n from fun n hn => A5.out.drew.d.there _ _ (by rw [flat_len H64.out]; have := HD.out; omega))
      obtain ⟨N, hN⟩ : ∃ N, (Dr.mk DD x.P x.F).n = N := ⟨_, rfl⟩
      have hkN : (k : Int) < (N : Int) := by rw [← hN]; show (k : Int) < (DD.length : Int); have := HD.out; omega
      have hk0 : (0 : Int) ≤ (k : Int) := by omega
      have HG := Lib.hid (show Rw W5.drew g TD [.slice (some ⟨bv, 0, none⟩) N N, .slice (some ⟨bd, 0, none⟩) N N, .slice (some ⟨gp, 0, none⟩) x.P.length cap, fv] by rw [← hN]; exact A5.out.blk.drew)
      have HBX := Lib.hid HBX.out.drew
      have HQ := Lib.hid Q5.out.drew
      have q0 : W5.cell? ⟨q, 0, none⟩ = some (.int .u64 (c.keep : Int)) := Q5.out.cell 0
      have q1 : W5.cell? ⟨q, 1, none⟩ = some (.int .i64 c.torn) := Q5.out.cell 1
      clear hN hDD
      have H6 := Lib.hid (show ∀ s : Sec, s.length ≤ 64 → AtV (W5.drew.setCells bd (k * 64) (sc s)) g bv bd (.slice (some ⟨gp, 0, none⟩) x.P.length cap) fv x.V ⟨DD.set k (s ++ (DD.getD k []).drop s.length), x.P, x.F⟩ from fun s hs => A5.out.drew.setD H64.out k (DD.getD k []) (by show DD[k]? = _; rw [List.getD_eq_getElem?_getD, List.getElem?_eq_getElem HD.out]; rfl) s hs)
      have H7 := Lib.hid (show ∀ s : Sec, Rw (W5.drew.setCells bd (k * 64) (sc s)) q 34 c.cells from fun s => HQ.out.other bd (k * 64) _ qne)
      have H8 := Lib.hid (show ∀ s : Sec, Keeps (Bs g bv bd (.slice (some ⟨gp, 0, none⟩) x.P.length cap) fv) w (W5.drew.setCells bd (k * 64) (sc s)) from fun s => K5.out.drew.setCells bd (k * 64) _ (.inl (.inr (.inr (.inl rfl)))))
      by_cases ht : (j : Int) = c.torn
      · have ht' : ((j : Int) == c.torn) = true := by simpa using ht
        have hcut := Lib.hid (show c.cut j = (min (max c.at' 0) 64).toNat by unfold Cr.cut; rw [if_pos ht])
        have hrun := Lib.hid (show ∀ kk : Nat, kk ≤ 64 → (Builtin.copy_ #[71, 71] 3 #[.slice (some ⟨bd, k * 64, none⟩) 64 64, .slice (some ⟨B, 1, none⟩) kk 64]).run Tryd.prog W5.drew = .ok (goInt kk) (W5.drew.setCells bd (k * 64) (sc (ps.take kk))) from fun kk hkk =>
          run_copy_cells (P := Tryd.prog) W5.drew 71 71 3 5 1 bd (k * 64) 64 64 B 1 kk 64 kk (sc (ps.take kk)) Tryd.underlying71 sizeU8 (Nat.min_eq_left hkk) (by rw [sc_len]; simp [HPS.out]; omega)
            (HBX.out.range 1 _ (by rw [sc_len]; show ((sc ps).drop 0).take _ = _; simp [sc, HPS.out] <;> omega)) (HTH.out _ (by rw [sc_len]; simp <;> omega)) sc_one)
        have hl := Lib.hid (show ∀ kk : Nat, kk ≤ 64 → (ps.take kk).length = kk from fun kk hkk => by simp [HPS.out]; omega)
        rcases (show c.at' < 0 ∨ (0 ≤ c.at' ∧ c.at' ≤ 64) ∨ (0 ≤ c.at' ∧ 64 < c.at') by omega) with h1 | ⟨h1, h2⟩ | ⟨h1, h2⟩
        · have e1 : max c.at' 0 = 0 := by omega
          have e2 : min (0 : Int) 64 = 0 := by omega
          have k1 := Int.le_of_lt h1
          have k2 := Int.not_le.2 h1
          have HRUN := Lib.hid (hrun.out (0) (by omega))
          go_upto_region 6 with (fail)
          refine wp_region_inv (I := (fun A0 L a u => ∃ (x0 x1 x2 x3 x4 x5 x6 x7 x8 x9 x10 x11 x12 x13 x14 : Value), a = putAll A0 [(24, x0), (25, x1), (26, x2), (27, x3), (28, x4), (29, x5), (30, x6), (31, x7), (32, x8), (33, x9), (34, x10), (35, x11), (36, x12), (37, x13), (38, x14)] ∧ (L 0 = true → x0 = (.pointer (some ⟨g, 0, Option.none⟩))) ∧ (L 1 = true → x1 = (.pointer (some ⟨g, 0, Option.none⟩))) ∧ (L 2 = true → x2 = (.pointer (some ⟨g, 1, Option.none⟩))) ∧ (L 3 = true → x3 = (.slice (some ⟨bd, 0, Option.none⟩) N N)) ∧ (L 4 = true → x4 = (.pointer (some ⟨B, 0, Option.none⟩))) ∧ (L 5 = true → x5 = (.int .i64 (k : Int))) ∧ (L 6 = true → x6 = (.pointer (some ⟨bd, k * 64, Option.none⟩))) ∧ (L 7 = true → x7 = (.slice (some ⟨bd, k * 64, Option.none⟩) 64 64)) ∧ (L 8 = true → x8 = (.pointer (some ⟨B, 1, Option.none⟩))) ∧ (L 9 = true → x9 = (.pointer (some ⟨q, 2, Option.none⟩))) ∧ (L 10 = true → x10 = (.int .i64 c.at')) ∧ (L 11 = true → x11 = (.int .i64 0)) ∧ (L 12 = true → x12 = (.int .i64 0)) ∧ (L 13 = true → x13 = (.slice (some ⟨B, 1, Option.none⟩) 0 64)) ∧ St2 W5.drew bd (k * 64) (sc (ps.take 0)) (L 14) u)) (by kernel_rfl) (by kernel_rfl) ?_ ?_ ?_
          · intro L hL
            exact ⟨_, _, _, _, _, _, _, _, _, _, _, _, _, _, _, by (simp only [putAll, Act.put, List.setIfInBounds_toArray, List.set_cons_zero, List.set_cons_succ]; rfl), (fun h => absurd h (by rw [hL 0 (by decide)]; decide)), (fun h => absurd h (by rw [hL 1 (by decide)]; decide)), (fun h => absurd h (by rw [hL 2 (by decide)]; decide)), (fun h => absurd h (by rw [hL 3 (by decide)]; decide)), (fun h => absurd h (by rw [hL 4 (by decide)]; decide)), (fun h => absurd h (by rw [hL 5 (by decide)]; decide)), (fun h => absurd h (by rw [hL 6 (by decide)]; decide)), (fun h => absurd h (by rw [hL 7 (by decide)]; decide)), (fun h => absurd h (by rw [hL 8 (by decide)]; decide)), (fun h => absurd h (by rw [hL 9 (by decide)]; decide)), (fun h => absurd h (by rw [hL 10 (by decide)]; decide)), (fun h => absurd h (by rw [hL 11 (by decide)]; decide)), (fun h => absurd h (by rw [hL 12 (by decide)]; decide)), (fun h => absurd h (by rw [hL 13 (by decide)]; decide)), .inl ⟨hL 14 (by decide), rfl⟩⟩
          refine Steps.cons (i := 0) rfl ?_ ?_
          · rintro L a u ⟨x0, x1, x2, x3, x4, x5, x6, x7, x8, x9, x10, x11, x12, x13, x14, rfl, h0, h1, h2, h3, h4, h5, h6, h7, h8, h9, h10, h11, h12, h13, hm⟩ hi hd K hK
            simp only [putAll, Act.put, List.setIfInBounds_toArray, List.set_cons_zero, List.set_cons_succ]
            (try simp [Region.binds] at hd)
            replace h0 := Lib.hid h0
            replace h1 := Lib.hid h1
            replace h2 := Lib.hid h2
            replace h3 := Lib.hid h3
            replace h4 := Lib.hid h4
            replace h5 := Lib.hid h5
            replace h6 := Lib.hid h6
            replace h7 := Lib.hid h7
            replace h8 := Lib.hid h8
            replace h9 := Lib.hid h9
            replace h10 := Lib.hid h10
            replace h11 := Lib.hid h11
            replace h12 := Lib.hid h12
            replace h13 := Lib.hid h13
            go_simp
            exact hK.out _ _ ⟨_, _, _, _, _, _, _, _, _, _, _, _, _, _, _, by ((simp only [putAll, Act.put, List.setIfInBounds_toArray, List.set_cons_zero, List.set_cons_succ]) <;> rfl), (fun _ => rfl), h1.out, h2.out, h3.out, h4.out, h5.out, h6.out, h7.out, h8.out, h9.out, h10.out, h11.out, h12.out, h13.out, hm⟩
          refine Steps.cons (i := 1) rfl ?_ ?_
          · rintro L a u ⟨x0, x1, x2, x3, x4, x5, x6, x7, x8, x9, x10, x11, x12, x13, x14, rfl, h0, h1, h2, h3, h4, h5, h6, h7, h8, h9, h10, h11, h12, h13, hm⟩ hi hd K hK
            simp only [putAll, Act.put, List.setIfInBounds_toArray, List.set_cons_zero, List.set_cons_succ]
            (try simp [Region.binds] at hd)
            replace h0 := Lib.hid h0
            replace h1 := Lib.hid h1
            replace h2 := Lib.hid h2
            replace h3 := Lib.hid h3
            replace h4 := Lib.hid h4
            replace h5 := Lib.hid h5
            replace h6 := Lib.hid h6
            replace h7 := Lib.hid h7
            replace h8 := Lib.hid h8
            replace h9 := Lib.hid h9
            replace h10 := Lib.hid h10
            replace h11 := Lib.hid h11
            replace h12 := Lib.hid h12
            replace h13 := Lib.hid h13
            obtain rfl := (h0.out (by simp [hd])).symm
            go_simp
            exact hK.out _ _ ⟨_, _, _, _, _, _, _, _, _, _, _, _, _, _, _, by ((simp only [putAll, Act.put, List.setIfInBounds_toArray, List.set_cons_zero, List.set_cons_succ]) <;> rfl), h0.out, (fun _ => rfl), h2.out, h3.out, h4.out, h5.out, h6.out, h7.out, h8.out, h9.out, h10.out, h11.out, h12.out, h13.out, hm⟩
          refine Steps.cons (i := 2) rfl ?_ ?_
          · rintro L a u ⟨x0, x1, x2, x3, x4, x5, x6, x7, x8, x9, x10, x11, x12, x13, x14, rfl, h0, h1, h2, h3, h4, h5, h6, h7, h8, h9, h10, h11, h12, h13, hm⟩ hi hd K hK
            simp only [putAll, Act.put, List.setIfInBounds_toArray, List.set_cons_zero, List.set_cons_succ]
            (try simp [Region.binds] at hd)
            replace h0 := Lib.hid h0
            replace h1 := Lib.hid h1
            replace h2 := Lib.hid h2
            replace h3 := Lib.hid h3
            replace h4 := Lib.hid h4
            replace h5 := Lib.hid h5
            replace h6 := Lib.hid h6
            replace h7 := Lib.hid h7
            replace h8 := Lib.hid h8
            replace h9 := Lib.hid h9
            replace h10 := Lib.hid h10
            replace h11 := Lib.hid h11
            replace h12 := Lib.hid h12
            replace h13 := Lib.hid h13
            obtain rfl := (h1.out (by simp [hd])).symm
            go_simp
            exact hK.out _ _ ⟨_, _, _, _, _, _, _, _, _, _, _, _, _, _, _, by ((simp only [putAll, Act.put, List.setIfInBounds_toArray, List.set_cons_zero, List.set_cons_succ]) <;> rfl), h0.out, h1.out, (fun _ => rfl), h3.out, h4.out, h5.out, h6.out, h7.out, h8.out, h9.out, h10.out, h11.out, h12.out, h13.out, hm⟩
          refine Steps.cons (i := 3) rfl ?_ ?_
          · rintro L a u ⟨x0, x1, x2, x3, x4, x5, x6, x7, x8, x9, x10, x11, x12, x13, x14, rfl, h0, h1, h2, h3, h4, h5, h6, h7, h8, h9, h10, h11, h12, h13, hm⟩ hi hd K hK
            simp only [putAll, Act.put, List.setIfInBounds_toArray, List.set_cons_zero, List.set_cons_succ]
            (try simp [Region.binds] at hd)
            replace h0 := Lib.hid h0
            replace h1 := Lib.hid h1
            replace h2 := Lib.hid h2
            replace h3 := Lib.hid h3
            replace h4 := Lib.hid h4
            replace h5 := Lib.hid h5
            replace h6 := Lib.hid h6
            replace h7 := Lib.hid h7
            replace h8 := Lib.hid h8
            replace h9 := Lib.hid h9
            replace h10 := Lib.hid h10
            replace h11 := Lib.hid h11
            replace h12 := Lib.hid h12
            replace h13 := Lib.hid h13
            obtain rfl := (h2.out (by simp [hd])).symm
            have c1 : u.cell? ⟨g, 1, none⟩ = some (.slice (some ⟨bd, 0, none⟩) N N) := (HG.out.st2 hm gne).cell 1
            go_simp
            exact hK.out _ _ ⟨_, _, _, _, _, _, _, _, _, _, _, _, _, _, _, by ((simp only [putAll, Act.put, List.setIfInBounds_toArray, List.set_cons_zero, List.set_cons_succ]) <;> rfl), h0.out, h1.out, h2.out, (fun _ => rfl), h4.out, h5.out, h6.out, h7.out, h8.out, h9.out, h10.out, h11.out, h12.out, h13.out, hm⟩
          refine Steps.cons (i := 4) rfl ?_ ?_
          · rintro L a u ⟨x0, x1, x2, x3, x4, x5, x6, x7, x8, x9, x10, x11, x12, x13, x14, rfl, h0, h1, h2, h3, h4, h5, h6, h7, h8, h9, h10, h11, h12, h13, hm⟩ hi hd K hK
            simp only [putAll, Act.put, List.setIfInBounds_toArray, List.set_cons_zero, List.set_cons_succ]
            (try simp [Region.binds] at hd)
            replace h0 := Lib.hid h0
            replace h1 := Lib.hid h1
            replace h2 := Lib.hid h2
            replace h3 := Lib.hid h3
            replace h4 := Lib.hid h4
            replace h5 := Lib.hid h5
            replace h6 := Lib.hid h6
            replace h7 := Lib.hid h7
            replace h8 := Lib.hid h8
            replace h9 := Lib.hid h9
            replace h10 := Lib.hid h10
            replace h11 := Lib.hid h11
            replace h12 := Lib.hid h12
            replace h13 := Lib.hid h13
            go_simp
            exact hK.out _ _ ⟨_, _, _, _, _, _, _, _, _, _, _, _, _, _, _, by ((simp only [putAll, Act.put, List.setIfInBounds_toArray, List.set_cons_zero, List.set_cons_succ]) <;> rfl), h0.out, h1.out, h2.out, h3.out, (fun _ => rfl), h5.out, h6.out, h7.out, h8.out, h9.out, h10.out, h11.out, h12.out, h13.out, hm⟩
          refine Steps.cons (i := 5) rfl ?_ ?_
          · rintro L a u ⟨x0, x1, x2, x3, x4, x5, x6, x7, x8, x9, x10, x11, x12, x13, x14, rfl, h0, h1, h2, h3, h4, h5, h6, h7, h8, h9, h10, h11, h12, h13, hm⟩ hi hd K hK
            simp only [putAll, Act.put, List.setIfInBounds_toArray, List.set_cons_zero, List.set_cons_succ]
            (try simp [Region.binds] at hd)
            replace h0 := Lib.hid h0
            replace h1 := Lib.hid h1
            replace h2 := Lib.hid h2
            replace h3 := Lib.hid h3
            replace h4 := Lib.hid h4
            replace h5 := Lib.hid h5
            replace h6 := Lib.hid h6
            replace h7 := Lib.hid h7
            replace h8 := Lib.hid h8
            replace h9 := Lib.hid h9
            replace h10 := Lib.hid h10
            replace h11 := Lib.hid h11
            replace h12 := Lib.hid h12
            replace h13 := Lib.hid h13
            obtain rfl := (h4.out (by simp [hd])).symm
            have b0 : u.cell? ⟨B, 0, none⟩ = some (.int .i64 (k : Int)) := (HBX.out.st2 hm bne).cell 0
            go_simp
            exact hK.out _ _ ⟨_, _, _, _, _, _, _, _, _, _, _, _, _, _, _, by ((simp only [putAll, Act.put, List.setIfInBounds_toArray, List.set_cons_zero, List.set_cons_succ]) <;> rfl), h0.out, h1.out, h2.out, h3.out, h4.out, (fun _ => rfl), h6.out, h7.out, h8.out, h9.out, h10.out, h11.out, h12.out, h13.out, hm⟩
          refine Steps.cons (i := 6) rfl ?_ ?_
          · rintro L a u ⟨x0, x1, x2, x3, x4, x5, x6, x7, x8, x9, x10, x11, x12, x13, x14, rfl, h0, h1, h2, h3, h4, h5, h6, h7, h8, h9, h10, h11, h12, h13, hm⟩ hi hd K hK
            simp only [putAll, Act.put, List.setIfInBounds_toArray, List.set_cons_zero, List.set_cons_succ]
            (try simp [Region.binds] at hd)
            replace h0 := Lib.hid h0
            replace h1 := Lib.hid h1
            replace h2 := Lib.hid h2
            replace h3 := Lib.hid h3
            replace h4 := Lib.hid h4
            replace h5 := Lib.hid h5
            replace h6 := Lib.hid h6
            replace h7 := Lib.hid h7
            replace h8 := Lib.hid h8
            replace h9 := Lib.hid h9
            replace h10 := Lib.hid h10
            replace h11 := Lib.hid h11
            replace h12 := Lib.hid h12
            replace h13 := Lib.hid h13
            obtain rfl := (h3.out (by simp [hd])).symm
            obtain rfl := (h5.out (by simp [hd])).symm
            go_simp
            exact hK.out _ _ ⟨_, _, _, _, _, _, _, _, _, _, _, _, _, _, _, by ((simp only [putAll, Act.put, List.setIfInBounds_toArray, List.set_cons_zero, List.set_cons_succ]) <;> rfl), h0.out, h1.out, h2.out, h3.out, h4.out, h5.out, (fun _ => rfl), h7.out, h8.out, h9.out, h10.out, h11.out, h12.out, h13.out, hm⟩
          refine Steps.cons (i := 7) rfl ?_ ?_
          · rintro L a u ⟨x0, x1, x2, x3, x4, x5, x6, x7, x8, x9, x10, x11, x12, x13, x14, rfl, h0, h1, h2, h3, h4, h5, h6, h7, h8, h9, h10, h11, h12, h13, hm⟩ hi hd K hK
            simp only [putAll, Act.put, List.setIfInBounds_toArray, List.set_cons_zero, List.set_cons_succ]
            (try simp [Region.binds] at hd)
            replace h0 := Lib.hid h0
            replace h1 := Lib.hid h1
            replace h2 := Lib.hid h2
            replace h3 := Lib.hid h3
            replace h4 := Lib.hid h4
            replace h5 := Lib.hid h5
            replace h6 := Lib.hid h6
            replace h7 := Lib.hid h7
            replace h8 := Lib.hid h8
            replace h9 := Lib.hid h9
            replace h10 := Lib.hid h10
            replace h11 := Lib.hid h11
            replace h12 := Lib.hid h12
            replace h13 := Lib.hid h13
            obtain rfl := (h6.out (by simp [hd])).symm
            go_simp
            exact hK.out _ _ ⟨_, _, _, _, _, _, _, _, _, _, _, _, _, _, _, by ((simp only [putAll, Act.put, List.setIfInBounds_toArray, List.set_cons_zero, List.set_cons_succ]) <;> rfl), h0.out, h1.out, h2.out, h3.out, h4.out, h5.out, h6.out, (fun _ => rfl), h8.out, h9.out, h10.out, h11.out, h12.out, h13.out, hm⟩
          refine Steps.cons (i := 8) rfl ?_ ?_
          · rintro L a u ⟨x0, x1, x2, x3, x4, x5, x6, x7, x8, x9, x10, x11, x12, x13, x14, rfl, h0, h1, h2, h3, h4, h5, h6, h7, h8, h9, h10, h11, h12, h13, hm⟩ hi hd K hK
            simp only [putAll, Act.put, List.setIfInBounds_toArray, List.set_cons_zero, List.set_cons_succ]
            (try simp [Region.binds] at hd)
            replace h0 := Lib.hid h0
            replace h1 := Lib.hid h1
            replace h2 := Lib.hid h2
            replace h3 := Lib.hid h3
            replace h4 := Lib.hid h4
            replace h5 := Lib.hid h5
            replace h6 := Lib.hid h6
            replace h7 := Lib.hid h7
            replace h8 := Lib.hid h8
            replace h9 := Lib.hid h9
            replace h10 := Lib.hid h10
            replace h11 := Lib.hid h11
            replace h12 := Lib.hid h12
            replace h13 := Lib.hid h13
            go_simp
            exact hK.out _ _ ⟨_, _, _, _, _, _, _, _, _, _, _, _, _, _, _, by ((simp only [putAll, Act.put, List.setIfInBounds_toArray, List.set_cons_zero, List.set_cons_succ]) <;> rfl), h0.out, h1.out, h2.out, h3.out, h4.out, h5.out, h6.out, h7.out, (fun _ => rfl), h9.out, h10.out, h11.out, h12.out, h13.out, hm⟩
          refine Steps.cons (i := 9) rfl ?_ ?_
          · rintro L a u ⟨x0, x1, x2, x3, x4, x5, x6, x7, x8, x9, x10, x11, x12, x13, x14, rfl, h0, h1, h2, h3, h4, h5, h6, h7, h8, h9, h10, h11, h12, h13, hm⟩ hi hd K hK
            simp only [putAll, Act.put, List.setIfInBounds_toArray, List.set_cons_zero, List.set_cons_succ]
            (try simp [Region.binds] at hd)
            replace h0 := Lib.hid h0
            replace h1 := Lib.hid h1
            replace h2 := Lib.hid h2
            replace h3 := Lib.hid h3
            replace h4 := Lib.hid h4
            replace h5 := Lib.hid h5
            replace h6 := Lib.hid h6
            replace h7 := Lib.hid h7
            replace h8 := Lib.hid h8
            replace h9 := Lib.hid h9
            replace h10 := Lib.hid h10
            replace h11 := Lib.hid h11
            replace h12 := Lib.hid h12
            replace h13 := Lib.hid h13
            go_simp
            exact hK.out _ _ ⟨_, _, _, _, _, _, _, _, _, _, _, _, _, _, _, by ((simp only [putAll, Act.put, List.setIfInBounds_toArray, List.set_cons_zero, List.set_cons_succ]) <;> rfl), h0.out, h1.out, h2.out, h3.out, h4.out, h5.out, h6.out, h7.out, h8.out, (fun _ => rfl), h10.out, h11.out, h12.out, h13.out, hm⟩
          refine Steps.cons (i := 10) rfl ?_ ?_
          · rintro L a u ⟨x0, x1, x2, x3, x4, x5, x6, x7, x8, x9, x10, x11, x12, x13, x14, rfl, h0, h1, h2, h3, h4, h5, h6, h7, h8, h9, h10, h11, h12, h13, hm⟩ hi hd K hK
            simp only [putAll, Act.put, List.setIfInBounds_toArray, List.set_cons_zero, List.set_cons_succ]
            (try simp [Region.binds] at hd)
            replace h0 := Lib.hid h0
            replace h1 := Lib.hid h1
            replace h2 := Lib.hid h2
            replace h3 := Lib.hid h3
            replace h4 := Lib.hid h4
            replace h5 := Lib.hid h5
            replace h6 := Lib.hid h6
            replace h7 := Lib.hid h7
            replace h8 := Lib.hid h8
            replace h9 := Lib.hid h9
            replace h10 := Lib.hid h10
            replace h11 := Lib.hid h11
            replace h12 := Lib.hid h12
            replace h13 := Lib.hid h13
            obtain rfl := (h9.out (by simp [hd])).symm
            have q2 : u.cell? ⟨q, 2, none⟩ = some (.int .i64 c.at') := (HQ.out.st2 hm qne).cell 2
            go_simp
            exact hK.out _ _ ⟨_, _, _, _, _, _, _, _, _, _, _, _, _, _, _, by ((simp only [putAll, Act.put, List.setIfInBounds_toArray, List.set_cons_zero, List.set_cons_succ]) <;> rfl), h0.out, h1.out, h2.out, h3.out, h4.out, h5.out, h6.out, h7.out, h8.out, h9.out, (fun _ => rfl), h11.out, h12.out, h13.out, hm⟩
          refine Steps.cons (i := 11) rfl ?_ ?_
          · rintro L a u ⟨x0, x1, x2, x3, x4, x5, x6, x7, x8, x9, x10, x11, x12, x13, x14, rfl, h0, h1, h2, h3, h4, h5, h6, h7, h8, h9, h10, h11, h12, h13, hm⟩ hi hd K hK
            simp only [putAll, Act.put, List.setIfInBounds_toArray, List.set_cons_zero, List.set_cons_succ]
            (try simp [Region.binds] at hd)
            replace h0 := Lib.hid h0
            replace h1 := Lib.hid h1
            replace h2 := Lib.hid h2
            replace h3 := Lib.hid h3
            replace h4 := Lib.hid h4
            replace h5 := Lib.hid h5
            replace h6 := Lib.hid h6
            replace h7 := Lib.hid h7
            replace h8 := Lib.hid h8
            replace h9 := Lib.hid h9
            replace h10 := Lib.hid h10
            replace h11 := Lib.hid h11
            replace h12 := Lib.hid h12
            replace h13 := Lib.hid h13
            obtain rfl := (h10.out (by simp [hd])).symm
            go_simp
            exact hK.out _ _ ⟨_, _, _, _, _, _, _, _, _, _, _, _, _, _, _, by ((simp only [putAll, Act.put, List.setIfInBounds_toArray, List.set_cons_zero, List.set_cons_succ]) <;> rfl), h0.out, h1.out, h2.out, h3.out, h4.out, h5.out, h6.out, h7.out, h8.out, h9.out, h10.out, (fun _ => rfl), h12.out, h13.out, hm⟩
          refine Steps.cons (i := 12) rfl ?_ ?_
          · rintro L a u ⟨x0, x1, x2, x3, x4, x5, x6, x7, x8, x9, x10, x11, x12, x13, x14, rfl, h0, h1, h2, h3, h4, h5, h6, h7, h8, h9, h10, h11, h12, h13, hm⟩ hi hd K hK
            simp only [putAll, Act.put, List.setIfInBounds_toArray, List.set_cons_zero, List.set_cons_succ]
            (try simp [Region.binds] at hd)
            replace h0 := Lib.hid h0
            replace h1 := Lib.hid h1
            replace h2 := Lib.hid h2
            replace h3 := Lib.hid h3
            replace h4 := Lib.hid h4
            replace h5 := Lib.hid h5
            replace h6 := Lib.hid h6
            replace h7 := Lib.hid h7
            replace h8 := Lib.hid h8
            replace h9 := Lib.hid h9
            replace h10 := Lib.hid h10
            replace h11 := Lib.hid h11
            replace h12 := Lib.hid h12
            replace h13 := Lib.hid h13
            obtain rfl := (h11.out (by simp [hd])).symm
            go_simp
            exact hK.out _ _ ⟨_, _, _, _, _, _, _, _, _, _, _, _, _, _, _, by ((simp only [putAll, Act.put, List.setIfInBounds_toArray, List.set_cons_zero, List.set_cons_succ]) <;> rfl), h0.out, h1.out, h2.out, h3.out, h4.out, h5.out, h6.out, h7.out, h8.out, h9.out, h10.out, h11.out, (fun _ => rfl), h13.out, hm⟩
          refine Steps.cons (i := 13) rfl ?_ ?_
          · rintro L a u ⟨x0, x1, x2, x3, x4, x5, x6, x7, x8, x9, x10, x11, x12, x13, x14, rfl, h0, h1, h2, h3, h4, h5, h6, h7, h8, h9, h10, h11, h12, h13, hm⟩ hi hd K hK
            simp only [putAll, Act.put, List.setIfInBounds_toArray, List.set_cons_zero, List.set_cons_succ]
            (try simp [Region.binds] at hd)
            replace h0 := Lib.hid h0
            replace h1 := Lib.hid h1
            replace h2 := Lib.hid h2
            replace h3 := Lib.hid h3
            replace h4 := Lib.hid h4
            replace h5 := Lib.hid h5
            replace h6 := Lib.hid h6
            replace h7 := Lib.hid h7
            replace h8 := Lib.hid h8
            replace h9 := Lib.hid h9
            replace h10 := Lib.hid h10
            replace h11 := Lib.hid h11
            replace h12 := Lib.hid h12
            replace h13 := Lib.hid h13
            obtain rfl := (h8.out (by simp [hd])).symm
            obtain rfl := (h12.out (by simp [hd])).symm
            go_simp
            exact hK.out _ _ ⟨_, _, _, _, _, _, _, _, _, _, _, _, _, _, _, by ((simp only [putAll, Act.put, List.setIfInBounds_toArray, List.set_cons_zero, List.set_cons_succ]) <;> rfl), h0.out, h1.out, h2.out, h3.out, h4.out, h5.out, h6.out, h7.out, h8.out, h9.out, h10.out, h11.out, h12.out, (fun _ => rfl), hm⟩
          refine Steps.cons (i := 14) rfl ?_ ?_
          · rintro L a u ⟨x0, x1, x2, x3, x4, x5, x6, x7, x8, x9, x10, x11, x12, x13, x14, rfl, h0, h1, h2, h3, h4, h5, h6, h7, h8, h9, h10, h11, h12, h13, hm⟩ hi hd K hK
            simp only [putAll, Act.put, List.setIfInBounds_toArray, List.set_cons_zero, List.set_cons_succ]
            (try simp [Region.binds] at hd)
            replace h0 := Lib.hid h0
            replace h1 := Lib.hid h1
            replace h2 := Lib.hid h2
            replace h3 := Lib.hid h3
            replace h4 := Lib.hid h4
            replace h5 := Lib.hid h5
            replace h6 := Lib.hid h6
            replace h7 := Lib.hid h7
            replace h8 := Lib.hid h8
            replace h9 := Lib.hid h9
            replace h10 := Lib.hid h10
            replace h11 := Lib.hid h11
            replace h12 := Lib.hid h12
            replace h13 := Lib.hid h13
            obtain rfl := (h7.out (by simp [hd])).symm
            obtain rfl := (h13.out (by simp [hd])).symm
            have hu : u = W5.drew := by rcases hm with ⟨_, h⟩ | ⟨h, _⟩ <;> first | exact h | (rw [hi] at h; cases h)
            subst hu
            have hrun := HRUN.out
            go_simp
            exact hK.out _ _ ⟨_, _, _, _, _, _, _, _, _, _, _, _, _, _, _, by ((simp only [putAll, Act.put, List.setIfInBounds_toArray, List.set_cons_zero, List.set_cons_succ]) <;> rfl), h0.out, h1.out, h2.out, h3.out, h4.out, h5.out, h6.out, h7.out, h8.out, h9.out, h10.out, h11.out, h12.out, h13.out, .inr ⟨rfl, rfl⟩⟩
          · exact Steps.nil
          · rintro L a u ⟨x0, x1, x2, x3, x4, x5, x6, x7, x8, x9, x10, x11, x12, x13, x14, rfl, h0, h1, h2, h3, h4, h5, h6, h7, h8, h9, h10, h11, h12, h13, hm⟩ hall
            rcases hm with ⟨h, _⟩ | ⟨_, rfl⟩
            · rw [hall 14 (by decide)] at h; cases h
            simp only [putAll, Act.put, List.setIfInBounds_toArray, List.set_cons_zero, List.set_cons_succ]
            have hck : c.cut j = 0 := by rw [hcut.out]; omega
            have h6 := H6.out (ps.take 0) (by rw [hl.out _ (by omega)]; omega)
            rw [hl.out _ (by omega)] at h6
            have hT := HTK.out
            rw [hck] at hT
            rw [show ps.take (0) ++ (DD.getD k []).drop (0) = part (0) ps (DD.getD k []) from rfl, ← hT] at h6
            go_wp2_with fail
            go_roundw
            case rel => exact ⟨j + 1, by omega, by go_num, h6, H7.out _, H8.out _⟩
            case measure => simp [intOf]; omega
        · have e1 : max c.at' 0 = c.at' := by omega
          have e2 : min c.at' 64 = c.at' := by omega
          have k1 := Int.not_lt.2 h1
          have k2 := Int.not_lt.2 h2
          have HRUN := Lib.hid (hrun.out (c.at'.toNat) (by omega))
          go_upto_region 6 with (fail)
          refine wp_region_inv (I := (fun A0 L a u => ∃ (x0 x1 x2 x3 x4 x5 x6 x7 x8 x9 x10 x11 x12 x13 x14 : Value), a = putAll A0 [(24, x0), (25, x1), (26, x2), (27, x3), (28, x4), (29, x5), (30, x6), (31, x7), (32, x8), (33, x9), (34, x10), (35, x11), (36, x12), (37, x13), (38, x14)] ∧ (L 0 = true → x0 = (.pointer (some ⟨g, 0, Option.none⟩))) ∧ (L 1 = true → x1 = (.pointer (some ⟨g, 0, Option.none⟩))) ∧ (L 2 = true → x2 = (.pointer (some ⟨g, 1, Option.none⟩))) ∧ (L 3 = true → x3 = (.slice (some ⟨bd, 0, Option.none⟩) N N)) ∧ (L 4 = true → x4 = (.pointer (some ⟨B, 0, Option.none⟩))) ∧ (L 5 = true → x5 = (.int .i64 (k : Int))) ∧ (L 6 = true → x6 = (.pointer (some ⟨bd, k * 64, Option.none⟩))) ∧ (L 7 = true → x7 = (.slice (some ⟨bd, k * 64, Option.none⟩) 64 64)) ∧ (L 8 = true → x8 = (.pointer (some ⟨B, 1, Option.none⟩))) ∧ (L 9 = true → x9 = (.pointer (some ⟨q, 2, Option.none⟩))) ∧ (L 10 = true → x10 = (.int .i64 c.at')) ∧ (L 11 = true → x11 = (.int .i64 c.at')) ∧ (L 12 = true → x12 = (.int .i64 c.at')) ∧ (L 13 = true → x13 = (.slice (some ⟨B, 1, Option.none⟩) c.at'.toNat 64)) ∧ St2 W5.drew bd (k * 64) (sc (ps.take c.at'.toNat)) (L 14) u)) (by kernel_rfl) (by kernel_rfl) ?_ ?_ ?_
          · intro L hL
            exact ⟨_, _, _, _, _, _, _, _, _, _, _, _, _, _, _, by (simp only [putAll, Act.put, List.setIfInBounds_toArray, List.set_cons_zero, List.set_cons_succ]; rfl), (fun h => absurd h (by rw [hL 0 (by decide)]; decide)), (fun h => absurd h (by rw [hL 1 (by decide)]; decide)), (fun h => absurd h (by rw [hL 2 (by decide)]; decide)), (fun h => absurd h (by rw [hL 3 (by decide)]; decide)), (fun h => absurd h (by rw [hL 4 (by decide)]; decide)), (fun h => absurd h (by rw [hL 5 (by decide)]; decide)), (fun h => absurd h (by rw [hL 6 (by decide)]; decide)), (fun h => absurd h (by rw [hL 7 (by decide)]; decide)), (fun h => absurd h (by rw [hL 8 (by decide)]; decide)), (fun h => absurd h (by rw [hL 9 (by decide)]; decide)), (fun h => absurd h (by rw [hL 10 (by decide)]; decide)), (fun h => absurd h (by rw [hL 11 (by decide)]; decide)), (fun h => absurd h (by rw [hL 12 (by decide)]; decide)), (fun h => absurd h (by rw [hL 13 (by decide)]; decide)), .inl ⟨hL 14 (by decide), rfl⟩⟩
          refine Steps.cons (i := 0) rfl ?_ ?_
          · rintro L a u ⟨x0, x1, x2, x3, x4, x5, x6, x7, x8, x9, x10, x11, x12, x13, x14, rfl, h0, h1, h2, h3, h4, h5, h6, h7, h8, h9, h10, h11, h12, h13, hm⟩ hi hd K hK
            simp only [putAll, Act.put, List.setIfInBounds_toArray, List.set_cons_zero, List.set_cons_succ]
            (try simp [Region.binds] at hd)
            replace h0 := Lib.hid h0
            replace h1 := Lib.hid h1
            replace h2 := Lib.hid h2
            replace h3 := Lib.hid h3
            replace h4 := Lib.hid h4
            replace h5 := Lib.hid h5
            replace h6 := Lib.hid h6
            replace h7 := Lib.hid h7
            replace h8 := Lib.hid h8
            replace h9 := Lib.hid h9
            replace h10 := Lib.hid h10
            replace h11 := Lib.hid h11
            replace h12 := Lib.hid h12
            replace h13 := Lib.hid h13
            go_simp
            exact hK.out _ _ ⟨_, _, _, _, _, _, _, _, _, _, _, _, _, _, _, by ((simp only [putAll, Act.put, List.setIfInBounds_toArray, List.set_cons_zero, List.set_cons_succ]) <;> rfl), (fun _ => rfl), h1.out, h2.out, h3.out, h4.out, h5.out, h6.out, h7.out, h8.out, h9.out, h10.out, h11.out, h12.out, h13.out, hm⟩
          refine Steps.cons (i := 1) rfl ?_ ?_
          · rintro L a u ⟨x0, x1, x2, x3, x4, x5, x6, x7, x8, x9, x10, x11, x12, x13, x14, rfl, h0, h1, h2, h3, h4, h5, h6, h7, h8, h9, h10, h11, h12, h13, hm⟩ hi hd K hK
            simp only [putAll, Act.put, List.setIfInBounds_toArray, List.set_cons_zero, List.set_cons_succ]
            (try simp [Region.binds] at hd)
            replace h0 := Lib.hid h0
            replace h1 := Lib.hid h1
            replace h2 := Lib.hid h2
            replace h3 := Lib.hid h3
            replace h4 := Lib.hid h4
            replace h5 := Lib.hid h5
            replace h6 := Lib.hid h6
            replace h7 := Lib.hid h7
            replace h8 := Lib.hid h8
            replace h9 := Lib.hid h9
            replace h10 := Lib.hid h10
            replace h11 := Lib.hid h11
            replace h12 := Lib.hid h12
            replace h13 := Lib.hid h13
            obtain rfl := (h0.out (by simp [hd])).symm
            go_simp
            exact hK.out _ _ ⟨_, _, _, _, _, _, _, _, _, _, _, _, _, _, _, by ((simp only [putAll, Act.put, List.setIfInBounds_toArray, List.set_cons_zero, List.set_cons_succ]) <;> rfl), h0.out, (fun _ => rfl), h2.out, h3.out, h4.out, h5.out, h6.out, h7.out, h8.out, h9.out, h10.out, h11.out, h12.out, h13.out, hm⟩
          refine Steps.cons (i := 2) rfl ?_ ?_
          · rintro L a u ⟨x0, x1, x2, x3, x4, x5, x6, x7, x8, x9, x10, x11, x12, x13, x14, rfl, h0, h1, h2, h3, h4, h5, h6, h7, h8, h9, h10, h11, h12, h13, hm⟩ hi hd K hK
            simp only [putAll, Act.put, List.setIfInBounds_toArray, List.set_cons_zero, List.set_cons_succ]
            (try simp [Region.binds] at hd)
            replace h0 := Lib.hid h0
            replace h1 := Lib.hid h1
            replace h2 := Lib.hid h2
            replace h3 := Lib.hid h3
            replace h4 := Lib.hid h4
            replace h5 := Lib.hid h5
            replace h6 := Lib.hid h6
            replace h7 := Lib.hid h7
            replace h8 := Lib.hid h8
            replace h9 := Lib.hid h9
            replace h10 := Lib.hid h10
            replace h11 := Lib.hid h11
            replace h12 := Lib.hid h12
            replace h13 := Lib.hid h13
            obtain rfl := (h1.out (by simp [hd])).symm
            go_simp
            exact hK.out _ _ ⟨_, _, _, _, _, _, _, _, _, _, _, _, _, _, _, by ((simp only [putAll, Act.put, List.setIfInBounds_toArray, List.set_cons_zero, List.set_cons_succ]) <;> rfl), h0.out, h1.out, (fun _ => rfl), h3.out, h4.out, h5.out, h6.out, h7.out, h8.out, h9.out, h10.out, h11.out, h12.out, h13.out, hm⟩
          refine Steps.cons (i := 3) rfl ?_ ?_
          · rintro L a u ⟨x0, x1, x2, x3, x4, x5, x6, x7, x8, x9, x10, x11, x12, x13, x14, rfl, h0, h1, h2, h3, h4, h5, h6, h7, h8, h9, h10, h11, h12, h13, hm⟩ hi hd K hK
            simp only [putAll, Act.put, List.setIfInBounds_toArray, List.set_cons_zero, List.set_cons_succ]
            (try simp [Region.binds] at hd)
            replace h0 := Lib.hid h0
            replace h1 := Lib.hid h1
            replace h2 := Lib.hid h2
            replace h3 := Lib.hid h3
            replace h4 := Lib.hid h4
            replace h5 := Lib.hid h5
            replace h6 := Lib.hid h6
            replace h7 := Lib.hid h7
            replace h8 := Lib.hid h8
            replace h9 := Lib.hid h9
            replace h10 := Lib.hid h10
            replace h11 := Lib.hid h11
            replace h12 := Lib.hid h12
            replace h13 := Lib.hid h13
            obtain rfl := (h2.out (by simp [hd])).symm
            have c1 : u.cell? ⟨g, 1, none⟩ = some (.slice (some ⟨bd, 0, none⟩) N N) := (HG.out.st2 hm gne).cell 1
            go_simp
            exact hK.out _ _ ⟨_, _, _, _, _, _, _, _, _, _, _, _, _, _, _, by ((simp only [putAll, Act.put, List.setIfInBounds_toArray, List.set_cons_zero, List.set_cons_succ]) <;> rfl), h0.out, h1.out, h2.out, (fun _ => rfl), h4.out, h5.out, h6.out, h7.out, h8.out, h9.out, h10.out, h11.out, h12.out, h13.out, hm⟩
          refine Steps.cons (i := 4) rfl ?_ ?_
          · rintro L a u ⟨x0, x1, x2, x3, x4, x5, x6, x7, x8, x9, x10, x11, x12, x13, x14, rfl, h0, h1, h2, h3, h4, h5, h6, h7, h8, h9, h10, h11, h12, h13, hm⟩ hi hd K hK
            simp only [putAll, Act.put, List.setIfInBounds_toArray, List.set_cons_zero, List.set_cons_succ]
            (try simp [Region.binds] at hd)
            replace h0 := Lib.hid h0
            replace h1 := Lib.hid h1
            replace h2 := Lib.hid h2
            replace h3 := Lib.hid h3
            replace h4 := Lib.hid h4
            replace h5 := Lib.hid h5
            replace h6 := Lib.hid h6
            replace h7 := Lib.hid h7
            replace h8 := Lib.hid h8
            replace h9 := Lib.hid h9
            replace h10 := Lib.hid h10
            replace h11 := Lib.hid h11
            replace h12 := Lib.hid h12
            replace h13 := Lib.hid h13
            go_simp
            exact hK.out _ _ ⟨_, _, _, _, _, _, _, _, _, _, _, _, _, _, _, by ((simp only [putAll, Act.put, List.setIfInBounds_toArray, List.set_cons_zero, List.set_cons_succ]) <;> rfl), h0.out, h1.out, h2.out, h3.out, (fun _ => rfl), h5.out, h6.out, h7.out, h8.out, h9.out, h10.out, h11.out, h12.out, h13.out, hm⟩
          refine Steps.cons (i := 5) rfl ?_ ?_
          · rintro L a u ⟨x0, x1, x2, x3, x4, x5, x6, x7, x8, x9, x10, x11, x12, x13, x14, rfl, h0, h1, h2, h3, h4, h5, h6, h7, h8, h9, h10, h11, h12, h13, hm⟩ hi hd K hK
            simp only [putAll, Act.put, List.setIfInBounds_toArray, List.set_cons_zero, List.set_cons_succ]
            (try simp [Region.binds] at hd)
            replace h0 := Lib.hid h0
            replace h1 := Lib.hid h1
            replace h2 := Lib.hid h2
            replace h3 := Lib.hid h3
            replace h4 := Lib.hid h4
            replace h5 := Lib.hid h5
            replace h6 := Lib.hid h6
            replace h7 := Lib.hid h7
            replace h8 := Lib.hid h8
            replace h9 := Lib.hid h9
            replace h10 := Lib.hid h10
            replace h11 := Lib.hid h11
            replace h12 := Lib.hid h12
            replace h13 := Lib.hid h13
            obtain rfl := (h4.out (by simp [hd])).symm
            have b0 : u.cell? ⟨B, 0, none⟩ = some (.int .i64 (k : Int)) := (HBX.out.st2 hm bne).cell 0
            go_simp
            exact hK.out _ _ ⟨_, _, _, _, _, _, _, _, _, _, _, _, _, _, _, by ((simp only [putAll, Act.put, List.setIfInBounds_toArray, List.set_cons_zero, List.set_cons_succ]) <;> rfl), h0.out, h1.out, h2.out, h3.out, h4.out, (fun _ => rfl), h6.out, h7.out, h8.out, h9.out, h10.out, h11.out, h12.out, h13.out, hm⟩
          refine Steps.cons (i := 6) rfl ?_ ?_
          · rintro L a u ⟨x0, x1, x2, x3, x4, x5, x6, x7, x8, x9, x10, x11, x12, x13, x14, rfl, h0, h1, h2, h3, h4, h5, h6, h7, h8, h9, h10, h11, h12, h13, hm⟩ hi hd K hK
            simp only [putAll, Act.put, List.setIfInBounds_toArray, List.set_cons_zero, List.set_cons_succ]
            (try simp [Region.binds] at hd)
            replace h0 := Lib.hid h0
            replace h1 := Lib.hid h1
            replace h2 := Lib.hid h2
            replace h3 := Lib.hid h3
            replace h4 := Lib.hid h4
            replace h5 := Lib.hid h5
            replace h6 := Lib.hid h6
            replace h7 := Lib.hid h7
            replace h8 := Lib.hid h8
            replace h9 := Lib.hid h9
            replace h10 := Lib.hid h10
            replace h11 := Lib.hid h11
            replace h12 := Lib.hid h12
            replace h13 := Lib.hid h13
            obtain rfl := (h3.out (by simp [hd])).symm
            obtain rfl := (h5.out (by simp [hd])).symm
            go_simp
            exact hK.out _ _ ⟨_, _, _, _, _, _, _, _, _, _, _, _, _, _, _, by ((simp only [putAll, Act.put, List.setIfInBounds_toArray, List.set_cons_zero, List.set_cons_succ]) <;> rfl), h0.out, h1.out, h2.out, h3.out, h4.out, h5.out, (fun _ => rfl), h7.out, h8.out, h9.out, h10.out, h11.out, h12.out, h13.out, hm⟩
          refine Steps.cons (i := 7) rfl ?_ ?_
          · rintro L a u ⟨x0, x1, x2, x3, x4, x5, x6, x7, x8, x9, x10, x11, x12, x13, x14, rfl, h0, h1, h2, h3, h4, h5, h6, h7, h8, h9, h10, h11, h12, h13, hm⟩ hi hd K hK
            simp only [putAll, Act.put, List.setIfInBounds_toArray, List.set_cons_zero, List.set_cons_succ]
            (try simp [Region.binds] at hd)
            replace h0 := Lib.hid h0
            replace h1 := Lib.hid h1
            replace h2 := Lib.hid h2
            replace h3 := Lib.hid h3
            replace h4 := Lib.hid h4
            replace h5 := Lib.hid h5
            replace h6 := Lib.hid h6
            replace h7 := Lib.hid h7
            replace h8 := Lib.hid h8
            replace h9 := Lib.hid h9
            replace h10 := Lib.hid h10
            replace h11 := Lib.hid h11
            replace h12 := Lib.hid h12
            replace h13 := Lib.hid h13
            obtain rfl := (h6.out (by simp [hd])).symm
            go_simp
            exact hK.out _ _ ⟨_, _, _, _, _, _, _, _, _, _, _, _, _, _, _, by ((simp only [putAll, Act.put, List.setIfInBounds_toArray, List.set_cons_zero, List.set_cons_succ]) <;> rfl), h0.out, h1.out, h2.out, h3.out, h4.out, h5.out, h6.out, (fun _ => rfl), h8.out, h9.out, h10.out, h11.out, h12.out, h13.out, hm⟩
          refine Steps.cons (i := 8) rfl ?_ ?_
          · rintro L a u ⟨x0, x1, x2, x3, x4, x5, x6, x7, x8, x9, x10, x11, x12, x13, x14, rfl, h0, h1, h2, h3, h4, h5, h6, h7, h8, h9, h10, h11, h12, h13, hm⟩ hi hd K hK
            simp only [putAll, Act.put, List.setIfInBounds_toArray, List.set_cons_zero, List.set_cons_succ]
            (try simp [Region.binds] at hd)
            replace h0 := Lib.hid h0
            replace h1 := Lib.hid h1
            replace h2 := Lib.hid h2
            replace h3 := Lib.hid h3
            replace h4 := Lib.hid h4
            replace h5 := Lib.hid h5
            replace h6 := Lib.hid h6
            replace h7 := Lib.hid h7
            replace h8 := Lib.hid h8
            replace h9 := Lib.hid h9
            replace h10 := Lib.hid h10
            replace h11 := Lib.hid h11
            replace h12 := Lib.hid h12
            replace h13 := Lib.hid h13
            go_simp
            exact hK.out _ _ ⟨_, _, _, _, _, _, _, _, _, _, _, _, _, _, _, by ((simp only [putAll, Act.put, List.setIfInBounds_toArray, List.set_cons_zero, List.set_cons_succ]) <;> rfl), h0.out, h1.out, h2.out, h3.out, h4.out, h5.out, h6.out, h7.out, (fun _ => rfl), h9.out, h10.out, h11.out, h12.out, h13.out, hm⟩
          refine Steps.cons (i := 9) rfl ?_ ?_
          · rintro L a u ⟨x0, x1, x2, x3, x4, x5, x6, x7, x8, x9, x10, x11, x12, x13, x14, rfl, h0, h1, h2, h3, h4, h5, h6, h7, h8, h9, h10, h11, h12, h13, hm⟩ hi hd K hK
            simp only [putAll, Act.put, List.setIfInBounds_toArray, List.set_cons_zero, List.set_cons_succ]
            (try simp [Region.binds] at hd)
            replace h0 := Lib.hid h0
            replace h1 := Lib.hid h1
            replace h2 := Lib.hid h2
            replace h3 := Lib.hid h3
            replace h4 := Lib.hid h4
            replace h5 := Lib.hid h5
            replace h6 := Lib.hid h6
            replace h7 := Lib.hid h7
            replace h8 := Lib.hid h8
            replace h9 := Lib.hid h9
            replace h10 := Lib.hid h10
            replace h11 := Lib.hid h11
            replace h12 := Lib.hid h12
            replace h13 := Lib.hid h13
            go_simp
            exact hK.out _ _ ⟨_, _, _, _, _, _, _, _, _, _, _, _, _, _, _, by ((simp only [putAll, Act.put, List.setIfInBounds_toArray, List.set_cons_zero, List.set_cons_succ]) <;> rfl), h0.out, h1.out, h2.out, h3.out, h4.out, h5.out, h6.out, h7.out, h8.out, (fun _ => rfl), h10.out, h11.out, h12.out, h13.out, hm⟩
          refine Steps.cons (i := 10) rfl ?_ ?_
          · rintro L a u ⟨x0, x1, x2, x3, x4, x5, x6, x7, x8, x9, x10, x11, x12, x13, x14, rfl, h0, h1, h2, h3, h4, h5, h6, h7, h8, h9, h10, h11, h12, h13, hm⟩ hi hd K hK
            simp only [putAll, Act.put, List.setIfInBounds_toArray, List.set_cons_zero, List.set_cons_succ]
            (try simp [Region.binds] at hd)
            replace h0 := Lib.hid h0
            replace h1 := Lib.hid h1
            replace h2 := Lib.hid h2
            replace h3 := Lib.hid h3
            replace h4 := Lib.hid h4
            replace h5 := Lib.hid h5
            replace h6 := Lib.hid h6
            replace h7 := Lib.hid h7
            replace h8 := Lib.hid h8
            replace h9 := Lib.hid h9
            replace h10 := Lib.hid h10
            replace h11 := Lib.hid h11
            replace h12 := Lib.hid h12
            replace h13 := Lib.hid h13
            obtain rfl := (h9.out (by simp [hd])).symm
            have q2 : u.cell? ⟨q, 2, none⟩ = some (.int .i64 c.at') := (HQ.out.st2 hm qne).cell 2
            go_simp
            exact hK.out _ _ ⟨_, _, _, _, _, _, _, _, _, _, _, _, _, _, _, by ((simp only [putAll, Act.put, List.setIfInBounds_toArray, List.set_cons_zero, List.set_cons_succ]) <;> rfl), h0.out, h1.out, h2.out, h3.out, h4.out, h5.out, h6.out, h7.out, h8.out, h9.out, (fun _ => rfl), h11.out, h12.out, h13.out, hm⟩
          refine Steps.cons (i := 11) rfl ?_ ?_
          · rintro L a u ⟨x0, x1, x2, x3, x4, x5, x6, x7, x8, x9, x10, x11, x12, x13, x14, rfl, h0, h1, h2, h3, h4, h5, h6, h7, h8, h9, h10, h11, h12, h13, hm⟩ hi hd K hK
            simp only [putAll, Act.put, List.setIfInBounds_toArray, List.set_cons_zero, List.set_cons_succ]
            (try simp [Region.binds] at hd)
            replace h0 := Lib.hid h0
            replace h1 := Lib.hid h1
            replace h2 := Lib.hid h2
            replace h3 := Lib.hid h3
            replace h4 := Lib.hid h4
            replace h5 := Lib.hid h5
            replace h6 := Lib.hid h6
            replace h7 := Lib.hid h7
            replace h8 := Lib.hid h8
            replace h9 := Lib.hid h9
            replace h10 := Lib.hid h10
            replace h11 := Lib.hid h11
            replace h12 := Lib.hid h12
            replace h13 := Lib.hid h13
            obtain rfl := (h10.out (by simp [hd])).symm
            go_simp
            exact hK.out _ _ ⟨_, _, _, _, _, _, _, _, _, _, _, _, _, _, _, by ((simp only [putAll, Act.put, List.setIfInBounds_toArray, List.set_cons_zero, List.set_cons_succ]) <;> rfl), h0.out, h1.out, h2.out, h3.out, h4.out, h5.out, h6.out, h7.out, h8.out, h9.out, h10.out, (fun _ => rfl), h12.out, h13.out, hm⟩
          refine Steps.cons (i := 12) rfl ?_ ?_
          · rintro L a u ⟨x0, x1, x2, x3, x4, x5, x6, x7, x8, x9, x10, x11, x12, x13, x14, rfl, h0, h1, h2, h3, h4, h5, h6, h7, h8, h9, h10, h11, h12, h13, hm⟩ hi hd K hK
            simp only [putAll, Act.put, List.setIfInBounds_toArray, List.set_cons_zero, List.set_cons_succ]
            (try simp [Region.binds] at hd)
            replace h0 := Lib.hid h0
            replace h1 := Lib.hid h1
            replace h2 := Lib.hid h2
            replace h3 := Lib.hid h3
            replace h4 := Lib.hid h4
            replace h5 := Lib.hid h5
            replace h6 := Lib.hid h6
            replace h7 := Lib.hid h7
            replace h8 := Lib.hid h8
            replace h9 := Lib.hid h9
            replace h10 := Lib.hid h10
            replace h11 := Lib.hid h11
            replace h12 := Lib.hid h12
            replace h13 := Lib.hid h13
            obtain rfl := (h11.out (by simp [hd])).symm
            go_simp
            exact hK.out _ _ ⟨_, _, _, _, _, _, _, _, _, _, _, _, _, _, _, by ((simp only [putAll, Act.put, List.setIfInBounds_toArray, List.set_cons_zero, List.set_cons_succ]) <;> rfl), h0.out, h1.out, h2.out, h3.out, h4.out, h5.out, h6.out, h7.out, h8.out, h9.out, h10.out, h11.out, (fun _ => rfl), h13.out, hm⟩
          refine Steps.cons (i := 13) rfl ?_ ?_
          · rintro L a u ⟨x0, x1, x2, x3, x4, x5, x6, x7, x8, x9, x10, x11, x12, x13, x14, rfl, h0, h1, h2, h3, h4, h5, h6, h7, h8, h9, h10, h11, h12, h13, hm⟩ hi hd K hK
            simp only [putAll, Act.put, List.setIfInBounds_toArray, List.set_cons_zero, List.set_cons_succ]
            (try simp [Region.binds] at hd)
            replace h0 := Lib.hid h0
            replace h1 := Lib.hid h1
            replace h2 := Lib.hid h2
            replace h3 := Lib.hid h3
            replace h4 := Lib.hid h4
            replace h5 := Lib.hid h5
            replace h6 := Lib.hid h6
            replace h7 := Lib.hid h7
            replace h8 := Lib.hid h8
            replace h9 := Lib.hid h9
            replace h10 := Lib.hid h10
            replace h11 := Lib.hid h11
            replace h12 := Lib.hid h12
            replace h13 := Lib.hid h13
            obtain rfl := (h8.out (by simp [hd])).symm
            obtain rfl := (h12.out (by simp [hd])).symm
            go_simp
            exact hK.out _ _ ⟨_, _, _, _, _, _, _, _, _, _, _, _, _, _, _, by ((simp only [putAll, Act.put, List.setIfInBounds_toArray, List.set_cons_zero, List.set_cons_succ]) <;> rfl), h0.out, h1.out, h2.out, h3.out, h4.out, h5.out, h6.out, h7.out, h8.out, h9.out, h10.out, h11.out, h12.out, (fun _ => rfl), hm⟩
          refine Steps.cons (i := 14) rfl ?_ ?_
          · rintro L a u ⟨x0, x1, x2, x3, x4, x5, x6, x7, x8, x9, x10, x11, x12, x13, x14, rfl, h0, h1, h2, h3, h4, h5, h6, h7, h8, h9, h10, h11, h12, h13, hm⟩ hi hd K hK
            simp only [putAll, Act.put, List.setIfInBounds_toArray, List.set_cons_zero, List.set_cons_succ]
            (try simp [Region.binds] at hd)
            replace h0 := Lib.hid h0
            replace h1 := Lib.hid h1
            replace h2 := Lib.hid h2
            replace h3 := Lib.hid h3
            replace h4 := Lib.hid h4
            replace h5 := Lib.hid h5
            replace h6 := Lib.hid h6
            replace h7 := Lib.hid h7
            replace h8 := Lib.hid h8
            replace h9 := Lib.hid h9
            replace h10 := Lib.hid h10
            replace h11 := Lib.hid h11
            replace h12 := Lib.hid h12
            replace h13 := Lib.hid h13
            obtain rfl := (h7.out (by simp [hd])).symm
            obtain rfl := (h13.out (by simp [hd])).symm
            have hu : u = W5.drew := by rcases hm with ⟨_, h⟩ | ⟨h, _⟩ <;> first | exact h | (rw [hi] at h; cases h)
            subst hu
            have hrun := HRUN.out
            go_simp
            exact hK.out _ _ ⟨_, _, _, _, _, _, _, _, _, _, _, _, _, _, _, by ((simp only [putAll, Act.put, List.setIfInBounds_toArray, List.set_cons_zero, List.set_cons_succ]) <;> rfl), h0.out, h1.out, h2.out, h3.out, h4.out, h5.out, h6.out, h7.out, h8.out, h9.out, h10.out, h11.out, h12.out, h13.out, .inr ⟨rfl, rfl⟩⟩
          · exact Steps.nil
          · rintro L a u ⟨x0, x1, x2, x3, x4, x5, x6, x7, x8, x9, x10, x11, x12, x13, x14, rfl, h0, h1, h2, h3, h4, h5, h6, h7, h8, h9, h10, h11, h12, h13, hm⟩ hall
            rcases hm with ⟨h, _⟩ | ⟨_, rfl⟩
            · rw [hall 14 (by decide)] at h; cases h
            simp only [putAll, Act.put, List.setIfInBounds_toArray, List.set_cons_zero, List.set_cons_succ]
            have hck : c.cut j = c.at'.toNat := by rw [hcut.out]; omega
            have h6 := H6.out (ps.take c.at'.toNat) (by rw [hl.out _ (by omega)]; omega)
            rw [hl.out _ (by omega)] at h6
            have hT := HTK.out
            rw [hck] at hT
            rw [show ps.take (c.at'.toNat) ++ (DD.getD k []).drop (c.at'.toNat) = part (c.at'.toNat) ps (DD.getD k []) from rfl, ← hT] at h6
            go_wp2_with fail
            go_roundw
            case rel => exact ⟨j + 1, by omega, by go_num, h6, H7.out _, H8.out _⟩
            case measure => simp [intOf]; omega
        · have e1 : max c.at' 0 = c.at' := by omega
          have e2 : min c.at' 64 = 64 := by omega
          have k1 := Int.not_lt.2 h1
          have k2 := Int.not_le.2 h2
          have k3 := Int.le_of_lt h2
          have HRUN := Lib.hid (hrun.out (64) (by omega))
          go_upto_region 6 with (fail)
          refine wp_region_inv (I := (fun A0 L a u => ∃ (x0 x1 x2 x3 x4 x5 x6 x7 x8 x9 x10 x11 x12 x13 x14 : Value), a = putAll A0 [(24, x0), (25, x1), (26, x2), (27, x3), (28, x4), (29, x5), (30, x6), (31, x7), (32, x8), (33, x9), (34, x10), (35, x11), (36, x12), (37, x13), (38, x14)] ∧ (L 0 = true → x0 = (.pointer (some ⟨g, 0, Option.none⟩))) ∧ (L 1 = true → x1 = (.pointer (some ⟨g, 0, Option.none⟩))) ∧ (L 2 = true → x2 = (.pointer (some ⟨g, 1, Option.none⟩))) ∧ (L 3 = true → x3 = (.slice (some ⟨bd, 0, Option.none⟩) N N)) ∧ (L 4 = true → x4 = (.pointer (some ⟨B, 0, Option.none⟩))) ∧ (L 5 = true → x5 = (.int .i64 (k : Int))) ∧ (L 6 = true → x6 = (.pointer (some ⟨bd, k * 64, Option.none⟩))) ∧ (L 7 = true → x7 = (.slice (some ⟨bd, k * 64, Option.none⟩) 64 64)) ∧ (L 8 = true → x8 = (.pointer (some ⟨B, 1, Option.none⟩))) ∧ (L 9 = true → x9 = (.pointer (some ⟨q, 2, Option.none⟩))) ∧ (L 10 = true → x10 = (.int .i64 c.at')) ∧ (L 11 = true → x11 = (.int .i64 c.at')) ∧ (L 12 = true → x12 = (.int .i64 64)) ∧ (L 13 = true → x13 = (.slice (some ⟨B, 1, Option.none⟩) 64 64)) ∧ St2 W5.drew bd (k * 64) (sc (ps.take 64)) (L 14) u)) (by kernel_rfl) (by kernel_rfl) ?_ ?_ ?_
          · intro L hL
            exact ⟨_, _, _, _, _, _, _, _, _, _, _, _, _, _, _, by (simp only [putAll, Act.put, List.setIfInBounds_toArray, List.set_cons_zero, List.set_cons_succ]; rfl), (fun h => absurd h (by rw [hL 0 (by decide)]; decide)), (fun h => absurd h (by rw [hL 1 (by decide)]; decide)), (fun h => absurd h (by rw [hL 2 (by decide)]; decide)), (fun h => absurd h (by rw [hL 3 (by decide)]; decide)), (fun h => absurd h (by rw [hL 4 (by decide)]; decide)), (fun h => absurd h (by rw [hL 5 (by decide)]; decide)), (fun h => absurd h (by rw [hL 6 (by decide)]; decide)), (fun h => absurd h (by rw [hL 7 (by decide)]; decide)), (fun h => absurd h (by rw [hL 8 (by decide)]; decide)), (fun h => absurd h (by rw [hL 9 (by decide)]; decide)), (fun h => absurd h (by rw [hL 10 (by decide)]; decide)), (fun h => absurd h (by rw [hL 11 (by decide)]; decide)), (fun h => absurd h (by rw [hL 12 (by decide)]; decide)), (fun h => absurd h (by rw [hL 13 (by decide)]; decide)), .inl ⟨hL 14 (by decide), rfl⟩⟩
          refine Steps.cons (i := 0) rfl ?_ ?_
          · rintro L a u ⟨x0, x1, x2, x3, x4, x5, x6, x7, x8, x9, x10, x11, x12, x13, x14, rfl, h0, h1, h2, h3, h4, h5, h6, h7, h8, h9, h10, h11, h12, h13, hm⟩ hi hd K hK
            simp only [putAll, Act.put, List.setIfInBounds_toArray, List.set_cons_zero, List.set_cons_succ]
            (try simp [Region.binds] at hd)
            replace h0 := Lib.hid h0
            replace h1 := Lib.hid h1
            replace h2 := Lib.hid h2
            replace h3 := Lib.hid h3
            replace h4 := Lib.hid h4
            replace h5 := Lib.hid h5
            replace h6 := Lib.hid h6
            replace h7 := Lib.hid h7
            replace h8 := Lib.hid h8
            replace h9 := Lib.hid h9
            replace h10 := Lib.hid h10
            replace h11 := Lib.hid h11
            replace h12 := Lib.hid h12
            replace h13 := Lib.hid h13
            go_simp
            exact hK.out _ _ ⟨_, _, _, _, _, _, _, _, _, _, _, _, _, _, _, by ((simp only [putAll, Act.put, List.setIfInBounds_toArray, List.set_cons_zero, List.set_cons_succ]) <;> rfl), (fun _ => rfl), h1.out, h2.out, h3.out, h4.out, h5.out, h6.out, h7.out, h8.out, h9.out, h10.out, h11.out, h12.out, h13.out, hm⟩
          refine Steps.cons (i := 1) rfl ?_ ?_
          · rintro L a u ⟨x0, x1, x2, x3, x4, x5, x6, x7, x8, x9, x10, x11, x12, x13, x14, rfl, h0, h1, h2, h3, h4, h5, h6, h7, h8, h9, h10, h11, h12, h13, hm⟩ hi hd K hK
            simp only [putAll, Act.put, List.setIfInBounds_toArray, List.set_cons_zero, List.set_cons_succ]
            (try simp [Region.binds] at hd)
            replace h0 := Lib.hid h0
            replace h1 := Lib.hid h1
            replace h2 := Lib.hid h2
            replace h3 := Lib.hid h3
            replace h4 := Lib.hid h4
            replace h5 := Lib.hid h5
            replace h6 := Lib.hid h6
            replace h7 := Lib.hid h7
            replace h8 := Lib.hid h8
            replace h9 := Lib.hid h9
            replace h10 := Lib.hid h10
            replace h11 := Lib.hid h11
            replace h12 := Lib.hid h12
            replace h13 := Lib.hid h13
            obtain rfl := (h0.out (by simp [hd])).symm
            go_simp
            exact hK.out _ _ ⟨_, _, _, _, _, _, _, _, _, _, _, _, _, _, _, by ((simp only [putAll, Act.put, List.setIfInBounds_toArray, List.set_cons_zero, List.set_cons_succ]) <;> rfl), h0.out, (fun _ => rfl), h2.out, h3.out, h4.out, h5.out, h6.out, h7.out, h8.out, h9.out, h10.out, h11.out, h12.out, h13.out, hm⟩
          refine Steps.cons (i := 2) rfl ?_ ?_
          · rintro L a u ⟨x0, x1, x2, x3, x4, x5, x6, x7, x8, x9, x10, x11, x12, x13, x14, rfl, h0, h1, h2, h3, h4, h5, h6, h7, h8, h9, h10, h11, h12, h13, hm⟩ hi hd K hK
            simp only [putAll, Act.put, List.setIfInBounds_toArray, List.set_cons_zero, List.set_cons_succ]
            (try simp [Region.binds] at hd)
            replace h0 := Lib.hid h0
            replace h1 := Lib.hid h1
            replace h2 := Lib.hid h2
            replace h3 := Lib.hid h3
            replace h4 := Lib.hid h4
            replace h5 := Lib.hid h5
            replace h6 := Lib.hid h6
            replace h7 := Lib.hid h7
            replace h8 := Lib.hid h8
            replace h9 := Lib.hid h9
            replace h10 := Lib.hid h10
            replace h11 := Lib.hid h11
            replace h12 := Lib.hid h12
            replace h13 := Lib.hid h13
            obtain rfl := (h1.out (by simp [hd])).symm
            go_simp
            exact hK.out _ _ ⟨_, _, _, _, _, _, _, _, _, _, _, _, _, _, _, by ((simp only [putAll, Act.put, List.setIfInBounds_toArray, List.set_cons_zero, List.set_cons_succ]) <;> rfl), h0.out, h1.out, (fun _ => rfl), h3.out, h4.out, h5.out, h6.out, h7.out, h8.out, h9.out, h10.out, h11.out, h12.out, h13.out, hm⟩
          refine Steps.cons (i := 3) rfl ?_ ?_
          · rintro L a u ⟨x0, x1, x2, x3, x4, x5, x6, x7, x8, x9, x10, x11, x12, x13, x14, rfl, h0, h1, h2, h3, h4, h5, h6, h7, h8, h9, h10, h11, h12, h13, hm⟩ hi hd K hK
            simp only [putAll, Act.put, List.setIfInBounds_toArray, List.set_cons_zero, List.set_cons_succ]
            (try simp [Region.binds] at hd)
            replace h0 := Lib.hid h0
            replace h1 := Lib.hid h1
            replace h2 := Lib.hid h2
            replace h3 := Lib.hid h3
            replace h4 := Lib.hid h4
            replace h5 := Lib.hid h5
            replace h6 := Lib.hid h6
            replace h7 := Lib.hid h7
            replace h8 := Lib.hid h8
            replace h9 := Lib.hid h9
            replace h10 := Lib.hid h10
            replace h11 := Lib.hid h11
            replace h12 := Lib.hid h12
            replace h13 := Lib.hid h13
            obtain rfl := (h2.out (by simp [hd])).symm
            have c1 : u.cell? ⟨g, 1, none⟩ = some (.slice (some ⟨bd, 0, none⟩) N N) := (HG.out.st2 hm gne).cell 1
            go_simp
            exact hK.out _ _ ⟨_, _, _, _, _, _, _, _, _, _, _, _, _, _, _, by ((simp only [putAll, Act.put, List.setIfInBounds_toArray, List.set_cons_zero, List.set_cons_succ]) <;> rfl), h0.out, h1.out, h2.out, (fun _ => rfl), h4.out, h5.out, h6.out, h7.out, h8.out, h9.out, h10.out, h11.out, h12.out, h13.out, hm⟩
          refine Steps.cons (i := 4) rfl ?_ ?_
          · rintro L a u ⟨x0, x1, x2, x3, x4, x5, x6, x7, x8, x9, x10, x11, x12, x13, x14, rfl, h0, h1, h2, h3, h4, h5, h6, h7, h8, h9, h10, h11, h12, h13, hm⟩ hi hd K hK
            simp only [putAll, Act.put, List.setIfInBounds_toArray, List.set_cons_zero, List.set_cons_succ]
            (try simp [Region.binds] at hd)
            replace h0 := Lib.hid h0
            replace h1 := Lib.hid h1
            replace h2 := Lib.hid h2
            replace h3 := Lib.hid h3
            replace h4 := Lib.hid h4
            replace h5 := Lib.hid h5
            replace h6 := Lib.hid h6
            replace h7 := Lib.hid h7
            replace h8 := Lib.hid h8
            replace h9 := Lib.hid h9
            replace h10 := Lib.hid h10
            replace h11 := Lib.hid h11
            replace h12 := Lib.hid h12
            replace h13 := Lib.hid h13
            go_simp
            exact hK.out _ _ ⟨_, _, _, _, _, _, _, _, _, _, _, _, _, _, _, by ((simp only [putAll, Act.put, List.setIfInBounds_toArray, List.set_cons_zero, List.set_cons_succ]) <;> rfl), h0.out, h1.out, h2.out, h3.out, (fun _ => rfl), h5.out, h6.out, h7.out, h8.out, h9.out, h10.out, h11.out, h12.out, h13.out, hm⟩
          refine Steps.cons (i := 5) rfl ?_ ?_
          · rintro L a u ⟨x0, x1, x2, x3, x4, x5, x6, x7, x8, x9, x10, x11, x12, x13, x14, rfl, h0, h1, h2, h3, h4, h5, h6, h7, h8, h9, h10, h11, h12, h13, hm⟩ hi hd K hK
            simp only [putAll, Act.put, List.setIfInBounds_toArray, List.set_cons_zero, List.set_cons_succ]
            (try simp [Region.binds] at hd)
            replace h0 := Lib.hid h0
            replace h1 := Lib.hid h1
            replace h2 := Lib.hid h2
            replace h3 := Lib.hid h3
            replace h4 := Lib.hid h4
            replace h5 := Lib.hid h5
            replace h6 := Lib.hid h6
            replace h7 := Lib.hid h7
            replace h8 := Lib.hid h8
            replace h9 := Lib.hid h9
            replace h10 := Lib.hid h10
            replace h11 := Lib.hid h11
            replace h12 := Lib.hid h12
            replace h13 := Lib.hid h13
            obtain rfl := (h4.out (by simp [hd])).symm
            have b0 : u.cell? ⟨B, 0, none⟩ = some (.int .i64 (k : Int)) := (HBX.out.st2 hm bne).cell 0
            go_simp
            exact hK.out _ _ ⟨_, _, _, _, _, _, _, _, _, _, _, _, _, _, _, by ((simp only [putAll, Act.put, List.setIfInBounds_toArray, List.set_cons_zero, List.set_cons_succ]) <;> rfl), h0.out, h1.out, h2.out, h3.out, h4.out, (fun _ => rfl), h6.out, h7.out, h8.out, h9.out, h10.out, h11.out, h12.out, h13.out, hm⟩
          refine Steps.cons (i := 6) rfl ?_ ?_
          · rintro L a u ⟨x0, x1, x2, x3, x4, x5, x6, x7, x8, x9, x10, x11, x12, x13, x14, rfl, h0, h1, h2, h3, h4, h5, h6, h7, h8, h9, h10, h11, h12, h13, hm⟩ hi hd K hK
            simp only [putAll, Act.put, List.setIfInBounds_toArray, List.set_cons_zero, List.set_cons_succ]
            (try simp [Region.binds] at hd)
            replace h0 := Lib.hid h0
            replace h1 := Lib.hid h1
            replace h2 := Lib.hid h2
            replace h3 := Lib.hid h3
            replace h4 := Lib.hid h4
            replace h5 := Lib.hid h5
            replace h6 := Lib.hid h6
            replace h7 := Lib.hid h7
            replace h8 := Lib.hid h8
            replace h9 := Lib.hid h9
            replace h10 := Lib.hid h10
            replace h11 := Lib.hid h11
            replace h12 := Lib.hid h12
            replace h13 := Lib.hid h13
            obtain rfl := (h3.out (by simp [hd])).symm
            obtain rfl := (h5.out (by simp [hd])).symm
            go_simp
            exact hK.out _ _ ⟨_, _, _, _, _, _, _, _, _, _, _, _, _, _, _, by ((simp only [putAll, Act.put, List.setIfInBounds_toArray, List.set_cons_zero, List.set_cons_succ]) <;> rfl), h0.out, h1.out, h2.out, h3.out, h4.out, h5.out, (fun _ => rfl), h7.out, h8.out, h9.out, h10.out, h11.out, h12.out, h13.out, hm⟩
          refine Steps.cons (i := 7) rfl ?_ ?_
          · rintro L a u ⟨x0, x1, x2, x3, x4, x5, x6, x7, x8, x9, x10, x11, x12, x13, x14, rfl, h0, h1, h2, h3, h4, h5, h6, h7, h8, h9, h10, h11, h12, h13, hm⟩ hi hd K hK
            simp only [putAll, Act.put, List.setIfInBounds_toArray, List.set_cons_zero, List.set_cons_succ]
            (try simp [Region.binds] at hd)
            replace h0 := Lib.hid h0
            replace h1 := Lib.hid h1
            replace h2 := Lib.hid h2
            replace h3 := Lib.hid h3
            replace h4 := Lib.hid h4
            replace h5 := Lib.hid h5
            replace h6 := Lib.hid h6
            replace h7 := Lib.hid h7
            replace h8 := Lib.hid h8
            replace h9 := Lib.hid h9
            replace h10 := Lib.hid h10
            replace h11 := Lib.hid h11
            replace h12 := Lib.hid h12
            replace h13 := Lib.hid h13
            obtain rfl := (h6.out (by simp [hd])).symm
            go_simp
            exact hK.out _ _ ⟨_, _, _, _, _, _, _, _, _, _, _, _, _, _, _, by ((simp only [putAll, Act.put, List.setIfInBounds_toArray, List.set_cons_zero, List.set_cons_succ]) <;> rfl), h0.out, h1.out, h2.out, h3.out, h4.out, h5.out, h6.out, (fun _ => rfl), h8.out, h9.out, h10.out, h11.out, h12.out, h13.out, hm⟩
          refine Steps.cons (i := 8) rfl ?_ ?_
          · rintro L a u ⟨x0, x1, x2, x3, x4, x5, x6, x7, x8, x9, x10, x11, x12, x13, x14, rfl, h0, h1, h2, h3, h4, h5, h6, h7, h8, h9, h10, h11, h12, h13, hm⟩ hi hd K hK
            simp only [putAll, Act.put, List.setIfInBounds_toArray, List.set_cons_zero, List.set_cons_succ]
            (try simp [Region.binds] at hd)
            replace h0 := Lib.hid h0
            replace h1 := Lib.hid h1
            replace h2 := Lib.hid h2
            replace h3 := Lib.hid h3
            replace h4 := Lib.hid h4
            replace h5 := Lib.hid h5
            replace h6 := Lib.hid h6
            replace h7 := Lib.hid h7
            replace h8 := Lib.hid h8
            replace h9 := Lib.hid h9
            replace h10 := Lib.hid h10
            replace h11 := Lib.hid h11
            replace h12 := Lib.hid h12
            replace h13 := Lib.hid h13
            go_simp
            exact hK.out _ _ ⟨_, _, _, _, _, _, _, _, _, _, _, _, _, _, _, by ((simp only [putAll, Act.put, List.setIfInBounds_toArray, List.set_cons_zero, List.set_cons_succ]) <;> rfl), h0.out, h1.out, h2.out, h3.out, h4.out, h5.out, h6.out, h7.out, (fun _ => rfl), h9.out, h10.out, h11.out, h12.out, h13.out, hm⟩
          refine Steps.cons (i := 9) rfl ?_ ?_
          · rintro L a u ⟨x0, x1, x2, x3, x4, x5, x6, x7, x8, x9, x10, x11, x12, x13, x14, rfl, h0, h1, h2, h3, h4, h5, h6, h7, h8, h9, h10, h11, h12, h13, hm⟩ hi hd K hK
            simp only [putAll, Act.put, List.setIfInBounds_toArray, List.set_cons_zero, List.set_cons_succ]
            (try simp [Region.binds] at hd)
            replace h0 := Lib.hid h0
            replace h1 := Lib.hid h1
            replace h2 := Lib.hid h2
            replace h3 := Lib.hid h3
            replace h4 := Lib.hid h4
            replace h5 := Lib.hid h5
            replace h6 := Lib.hid h6
            replace h7 := Lib.hid h7
            replace h8 := Lib.hid h8
            replace h9 := Lib.hid h9
            replace h10 := Lib.hid h10
            replace h11 := Lib.hid h11
            replace h12 := Lib.hid h12
            replace h13 := Lib.hid h13
            go_simp
            exact hK.out _ _ ⟨_, _, _, _, _, _, _, _, _, _, _, _, _, _, _, by ((simp only [putAll, Act.put, List.setIfInBounds_toArray, List.set_cons_zero, List.set_cons_succ]) <;> rfl), h0.out, h1.out, h2.out, h3.out, h4.out, h5.out, h6.out, h7.out, h8.out, (fun _ => rfl), h10.out, h11.out, h12.out, h13.out, hm⟩
          refine Steps.cons (i := 10) rfl ?_ ?_
          · rintro L a u ⟨x0, x1, x2, x3, x4, x5, x6, x7, x8, x9, x10, x11, x12, x13, x14, rfl, h0, h1, h2, h3, h4, h5, h6, h7, h8, h9, h10, h11, h12, h13, hm⟩ hi hd K hK
            simp only [putAll, Act.put, List.setIfInBounds_toArray, List.set_cons_zero, List.set_cons_succ]
            (try simp [Region.binds] at hd)
            replace h0 := Lib.hid h0
            replace h1 := Lib.hid h1
            replace h2 := Lib.hid h2
            replace h3 := Lib.hid h3
            replace h4 := Lib.hid h4
            replace h5 := Lib.hid h5
            replace h6 := Lib.hid h6
            replace h7 := Lib.hid h7
            replace h8 := Lib.hid h8
            replace h9 := Lib.hid h9
            replace h10 := Lib.hid h10
            replace h11 := Lib.hid h11
            replace h12 := Lib.hid h12
            replace h13 := Lib.hid h13
            obtain rfl := (h9.out (by simp [hd])).symm
            have q2 : u.cell? ⟨q, 2, none⟩ = some (.int .i64 c.at') := (HQ.out.st2 hm qne).cell 2
            go_simp
            exact hK.out _ _ ⟨_, _, _, _, _, _, _, _, _, _, _, _, _, _, _, by ((simp only [putAll, Act.put, List.setIfInBounds_toArray, List.set_cons_zero, List.set_cons_succ]) <;> rfl), h0.out, h1.out, h2.out, h3.out, h4.out, h5.out, h6.out, h7.out, h8.out, h9.out, (fun _ => rfl), h11.out, h12.out, h13.out, hm⟩
          refine Steps.cons (i := 11) rfl ?_ ?_
          · rintro L a u ⟨x0, x1, x2, x3, x4, x5, x6, x7, x8, x9, x10, x11, x12, x13, x14, rfl, h0, h1, h2, h3, h4, h5, h6, h7, h8, h9, h10, h11, h12, h13, hm⟩ hi hd K hK
            simp only [putAll, Act.put, List.setIfInBounds_toArray, List.set_cons_zero, List.set_cons_succ]
            (try simp [Region.binds] at hd)
            replace h0 := Lib.hid h0
            replace h1 := Lib.hid h1
            replace h2 := Lib.hid h2
            replace h3 := Lib.hid h3
            replace h4 := Lib.hid h4
            replace h5 := Lib.hid h5
            replace h6 := Lib.hid h6
            replace h7 := Lib.hid h7
            replace h8 := Lib.hid h8
            replace h9 := Lib.hid h9
            replace h10 := Lib.hid h10
            replace h11 := Lib.hid h11
            replace h12 := Lib.hid h12
            replace h13 := Lib.hid h13
            obtain rfl := (h10.out (by simp [hd])).symm
            go_simp
            exact hK.out _ _ ⟨_, _, _, _, _, _, _, _, _, _, _, _, _, _, _, by ((simp only [putAll, Act.put, List.setIfInBounds_toArray, List.set_cons_zero, List.set_cons_succ]) <;> rfl), h0.out, h1.out, h2.out, h3.out, h4.out, h5.out, h6.out, h7.out, h8.out, h9.out, h10.out, (fun _ => rfl), h12.out, h13.out, hm⟩
          refine Steps.cons (i := 12) rfl ?_ ?_
          · rintro L a u ⟨x0, x1, x2, x3, x4, x5, x6, x7, x8, x9, x10, x11, x12, x13, x14, rfl, h0, h1, h2, h3, h4, h5, h6, h7, h8, h9, h10, h11, h12, h13, hm⟩ hi hd K hK
            simp only [putAll, Act.put, List.setIfInBounds_toArray, List.set_cons_zero, List.set_cons_succ]
            (try simp [Region.binds] at hd)
            replace h0 := Lib.hid h0
            replace h1 := Lib.hid h1
            replace h2 := Lib.hid h2
            replace h3 := Lib.hid h3
            replace h4 := Lib.hid h4
            replace h5 := Lib.hid h5
            replace h6 := Lib.hid h6
            replace h7 := Lib.hid h7
            replace h8 := Lib.hid h8
            replace h9 := Lib.hid h9
            replace h10 := Lib.hid h10
            replace h11 := Lib.hid h11
            replace h12 := Lib.hid h12
            replace h13 := Lib.hid h13
            obtain rfl := (h11.out (by simp [hd])).symm
            go_simp
            exact hK.out _ _ ⟨_, _, _, _, _, _, _, _, _, _, _, _, _, _, _, by ((simp only [putAll, Act.put, List.setIfInBounds_toArray, List.set_cons_zero, List.set_cons_succ]) <;> rfl), h0.out, h1.out, h2.out, h3.out, h4.out, h5.out, h6.out, h7.out, h8.out, h9.out, h10.out, h11.out, (fun _ => rfl), h13.out, hm⟩
          refine Steps.cons (i := 13) rfl ?_ ?_
          · rintro L a u ⟨x0, x1, x2, x3, x4, x5, x6, x7, x8, x9, x10, x11, x12, x13, x14, rfl, h0, h1, h2, h3, h4, h5, h6, h7, h8, h9, h10, h11, h12, h13, hm⟩ hi hd K hK
            simp only [putAll, Act.put, List.setIfInBounds_toArray, List.set_cons_zero, List.set_cons_succ]
            (try simp [Region.binds] at hd)
            replace h0 := Lib.hid h0
            replace h1 := Lib.hid h1
            replace h2 := Lib.hid h2
            replace h3 := Lib.hid h3
            replace h4 := Lib.hid h4
            replace h5 := Lib.hid h5
            replace h6 := Lib.hid h6
            replace h7 := Lib.hid h7
            replace h8 := Lib.hid h8
            replace h9 := Lib.hid h9
            replace h10 := Lib.hid h10
            replace h11 := Lib.hid h11
            replace h12 := Lib.hid h12
            replace h13 := Lib.hid h13
            obtain rfl := (h8.out (by simp [hd])).symm
            obtain rfl := (h12.out (by simp [hd])).symm
            go_simp
            exact hK.out _ _ ⟨_, _, _, _, _, _, _, _, _, _, _, _, _, _, _, by ((simp only [putAll, Act.put, List.setIfInBounds_toArray, List.set_cons_zero, List.set_cons_succ]) <;> rfl), h0.out, h1.out, h2.out, h3.out, h4.out, h5.out, h6.out, h7.out, h8.out, h9.out, h10.out, h11.out, h12.out, (fun _ => rfl), hm⟩
          refine Steps.cons (i := 14) rfl ?_ ?_
          · rintro L a u ⟨x0, x1, x2, x3, x4, x5, x6, x7, x8, x9, x10, x11, x12, x13, x14, rfl, h0, h1, h2, h3, h4, h5, h6, h7, h8, h9, h10, h11, h12, h13, hm⟩ hi hd K hK
            simp only [putAll, Act.put, List.setIfInBounds_toArray, List.set_cons_zero, List.set_cons_succ]
            (try simp [Region.binds] at hd)
            replace h0 := Lib.hid h0
            replace h1 := Lib.hid h1
            replace h2 := Lib.hid h2
            replace h3 := Lib.hid h3
            replace h4 := Lib.hid h4
            replace h5 := Lib.hid h5
            replace h6 := Lib.hid h6
            replace h7 := Lib.hid h7
            replace h8 := Lib.hid h8
            replace h9 := Lib.hid h9
            replace h10 := Lib.hid h10
            replace h11 := Lib.hid h11
            replace h12 := Lib.hid h12
            replace h13 := Lib.hid h13
            obtain rfl := (h7.out (by simp [hd])).symm
            obtain rfl := (h13.out (by simp [hd])).symm
            have hu : u = W5.drew := by rcases hm with ⟨_, h⟩ | ⟨h, _⟩ <;> first | exact h | (rw [hi] at h; cases h)
            subst hu
            have hrun := HRUN.out
            go_simp
            exact hK.out _ _ ⟨_, _, _, _, _, _, _, _, _, _, _, _, _, _, _, by ((simp only [putAll, Act.put, List.setIfInBounds_toArray, List.set_cons_zero, List.set_cons_succ]) <;> rfl), h0.out, h1.out, h2.out, h3.out, h4.out, h5.out, h6.out, h7.out, h8.out, h9.out, h10.out, h11.out, h12.out, h13.out, .inr ⟨rfl, rfl⟩⟩
          · exact Steps.nil
          · rintro L a u ⟨x0, x1, x2, x3, x4, x5, x6, x7, x8, x9, x10, x11, x12, x13, x14, rfl, h0, h1, h2, h3, h4, h5, h6, h7, h8, h9, h10, h11, h12, h13, hm⟩ hall
            rcases hm with ⟨h, _⟩ | ⟨_, rfl⟩
            · rw [hall 14 (by decide)] at h; cases h
            simp only [putAll, Act.put, List.setIfInBounds_toArray, List.set_cons_zero, List.set_cons_succ]
            have hck : c.cut j = 64 := by rw [hcut.out]; omega
            have h6 := H6.out (ps.take 64) (by rw [hl.out _ (by omega)]; omega)
            rw [hl.out _ (by omega)] at h6
            have hT := HTK.out
            rw [hck] at hT
            rw [show ps.take (64) ++ (DD.getD k []).drop (64) = part (64) ps (DD.getD k []) from rfl, ← hT] at h6
            go_wp2_with fail
            go_roundw
            case rel => exact ⟨j + 1, by omega, by go_num, h6, H7.out _, H8.out _⟩
            case measure => simp [intOf]; omega
      · have ht' : ((j : Int) == c.torn) = false := by simpa using ht
        by_cases hbit : c.keep / 2 ^ (j % 64) % 2 = 1
        · have hb' : (bits .and .u64 ((c.keep : Int) / 2 ^ (j % 64)) 1 == 1) = true := by rw [bit_is]; simpa using hbit
          have hck := Lib.hid (show c.cut j = 64 by unfold Cr.cut; rw [if_neg ht, if_pos hbit])
          clear ht hbit
          have HTH := Lib.hid (HTH.out 64 (Nat.le_refl _))
          go_upto_region 8 with (fail)
          refine wp_region_inv (I := (fun A0 L a u => ∃ (x0 x1 x2 x3 x4 x5 x6 x7 x8 : Value), a = putAll A0 [(47, x0), (48, x1), (49, x2), (50, x3), (51, x4), (52, x5), (53, x6), (54, x7), (55, x8)] ∧ (L 0 = true → x0 = (.pointer (some ⟨g, 0, Option.none⟩))) ∧ (L 1 = true → x1 = (.pointer (some ⟨g, 0, Option.none⟩))) ∧ (L 2 = true → x2 = (.pointer (some ⟨g, 1, Option.none⟩))) ∧ (L 3 = true → x3 = (.slice (some ⟨bd, 0, Option.none⟩) N N)) ∧ (L 4 = true → x4 = (.pointer (some ⟨B, 0, Option.none⟩))) ∧ (L 5 = true → x5 = (.int .i64 (k : Int))) ∧ (L 6 = true → x6 = (.pointer (some ⟨B, 1, Option.none⟩))) ∧ (L 7 = true → x7 = (.agg (sc ps).toArray)) ∧ (L 8 = true → x8 = (.pointer (some ⟨bd, k * 64, Option.none⟩))) ∧ St2 W5.drew bd (k * 64) (sc ps) (L 9) u)) (by kernel_rfl) (by kernel_rfl) ?_ ?_ ?_
          · intro L hL
            exact ⟨_, _, _, _, _, _, _, _, _, by (simp only [putAll, Act.put, List.setIfInBounds_toArray, List.set_cons_zero, List.set_cons_succ]; rfl), (fun h => absurd h (by rw [hL 0 (by decide)]; decide)), (fun h => absurd h (by rw [hL 1 (by decide)]; decide)), (fun h => absurd h (by rw [hL 2 (by decide)]; decide)), (fun h => absurd h (by rw [hL 3 (by decide)]; decide)), (fun h => absurd h (by rw [hL 4 (by decide)]; decide)), (fun h => absurd h (by rw [hL 5 (by decide)]; decide)), (fun h => absurd h (by rw [hL 6 (by decide)]; decide)), (fun h => absurd h (by rw [hL 7 (by decide)]; decide)), (fun h => absurd h (by rw [hL 8 (by decide)]; decide)), .inl ⟨hL 9 (by decide), rfl⟩⟩
          refine Steps.cons (i := 0) rfl ?_ ?_
          · rintro L a u ⟨x0, x1, x2, x3, x4, x5, x6, x7, x8, rfl, h0, h1, h2, h3, h4, h5, h6, h7, h8, hm⟩ hi hd K hK
            simp only [putAll, Act.put, List.setIfInBounds_toArray, List.set_cons_zero, List.set_cons_succ]
            (try simp [Region.binds] at hd)
            replace h0 := Lib.hid h0
            replace h1 := Lib.hid h1
            replace h2 := Lib.hid h2
            replace h3 := Lib.hid h3
            replace h4 := Lib.hid h4
            replace h5 := Lib.hid h5
            replace h6 := Lib.hid h6
            replace h7 := Lib.hid h7
            replace h8 := Lib.hid h8
            go_simp
            exact hK.out _ _ ⟨_, _, _, _, _, _, _, _, _, by ((simp only [putAll, Act.put, List.setIfInBounds_toArray, List.set_cons_zero, List.set_cons_succ]) <;> rfl), (fun _ => rfl), h1.out, h2.out, h3.out, h4.out, h5.out, h6.out, h7.out, h8.out, hm⟩
          refine Steps.cons (i := 1) rfl ?_ ?_
          · rintro L a u ⟨x0, x1, x2, x3, x4, x5, x6, x7, x8, rfl, h0, h1, h2, h3, h4, h5, h6, h7, h8, hm⟩ hi hd K hK
            simp only [putAll, Act.put, List.setIfInBounds_toArray, List.set_cons_zero, List.set_cons_succ]
            (try simp [Region.binds] at hd)
            replace h0 := Lib.hid h0
            replace h1 := Lib.hid h1
            replace h2 := Lib.hid h2
            replace h3 := Lib.hid h3
            replace h4 := Lib.hid h4
            replace h5 := Lib.hid h5
            replace h6 := Lib.hid h6
            replace h7 := Lib.hid h7
            replace h8 := Lib.hid h8
            obtain rfl := (h0.out (by simp [hd])).symm
            go_simp
            exact hK.out _ _ ⟨_, _, _, _, _, _, _, _, _, by ((simp only [putAll, Act.put, List.setIfInBounds_toArray, List.set_cons_zero, List.set_cons_succ]) <;> rfl), h0.out, (fun _ => rfl), h2.out, h3.out, h4.out, h5.out, h6.out, h7.out, h8.out, hm⟩
          refine Steps.cons (i := 2) rfl ?_ ?_
          · rintro L a u ⟨x0, x1, x2, x3, x4, x5, x6, x7, x8, rfl, h0, h1, h2, h3, h4, h5, h6, h7, h8, hm⟩ hi hd K hK
            simp only [putAll, Act.put, List.setIfInBounds_toArray, List.set_cons_zero, List.set_cons_succ]
            (try simp [Region.binds] at hd)
            replace h0 := Lib.hid h0
            replace h1 := Lib.hid h1
            replace h2 := Lib.hid h2
            replace h3 := Lib.hid h3
            replace h4 := Lib.hid h4
            replace h5 := Lib.hid h5
            replace h6 := Lib.hid h6
            replace h7 := Lib.hid h7
            replace h8 := Lib.hid h8
            obtain rfl := (h1.out (by simp [hd])).symm
            go_simp
            exact hK.out _ _ ⟨_, _, _, _, _, _, _, _, _, by ((simp only [putAll, Act.put, List.setIfInBounds_toArray, List.set_cons_zero, List.set_cons_succ]) <;> rfl), h0.out, h1.out, (fun _ => rfl), h3.out, h4.out, h5.out, h6.out, h7.out, h8.out, hm⟩
          refine Steps.cons (i := 3) rfl ?_ ?_
          · rintro L a u ⟨x0, x1, x2, x3, x4, x5, x6, x7, x8, rfl, h0, h1, h2, h3, h4, h5, h6, h7, h8, hm⟩ hi hd K hK
            simp only [putAll, Act.put, List.setIfInBounds_toArray, List.set_cons_zero, List.set_cons_succ]
            (try simp [Region.binds] at hd)
            replace h0 := Lib.hid h0
            replace h1 := Lib.hid h1
            replace h2 := Lib.hid h2
            replace h3 := Lib.hid h3
            replace h4 := Lib.hid h4
            replace h5 := Lib.hid h5
            replace h6 := Lib.hid h6
            replace h7 := Lib.hid h7
            replace h8 := Lib.hid h8
            obtain rfl := (h2.out (by simp [hd])).symm
            have c1 : u.cell? ⟨g, 1, none⟩ = some (.slice (some ⟨bd, 0, none⟩) N N) := (HG.out.st2 hm gne).cell 1
            go_simp
            exact hK.out _ _ ⟨_, _, _, _, _, _, _, _, _, by ((simp only [putAll, Act.put, List.setIfInBounds_toArray, List.set_cons_zero, List.set_cons_succ]) <;> rfl), h0.out, h1.out, h2.out, (fun _ => rfl), h4.out, h5.out, h6.out, h7.out, h8.out, hm⟩
          refine Steps.cons (i := 4) rfl ?_ ?_
          · rintro L a u ⟨x0, x1, x2, x3, x4, x5, x6, x7, x8, rfl, h0, h1, h2, h3, h4, h5, h6, h7, h8, hm⟩ hi hd K hK
            simp only [putAll, Act.put, List.setIfInBounds_toArray, List.set_cons_zero, List.set_cons_succ]
            (try simp [Region.binds] at hd)
            replace h0 := Lib.hid h0
            replace h1 := Lib.hid h1
            replace h2 := Lib.hid h2
            replace h3 := Lib.hid h3
            replace h4 := Lib.hid h4
            replace h5 := Lib.hid h5
            replace h6 := Lib.hid h6
            replace h7 := Lib.hid h7
            replace h8 := Lib.hid h8
            go_simp
            exact hK.out _ _ ⟨_, _, _, _, _, _, _, _, _, by ((simp only [putAll, Act.put, List.setIfInBounds_toArray, List.set_cons_zero, List.set_cons_succ]) <;> rfl), h0.out, h1.out, h2.out, h3.out, (fun _ => rfl), h5.out, h6.out, h7.out, h8.out, hm⟩
          refine Steps.cons (i := 5) rfl ?_ ?_
          · rintro L a u ⟨x0, x1, x2, x3, x4, x5, x6, x7, x8, rfl, h0, h1, h2, h3, h4, h5, h6, h7, h8, hm⟩ hi hd K hK
            simp only [putAll, Act.put, List.setIfInBounds_toArray, List.set_cons_zero, List.set_cons_succ]
            (try simp [Region.binds] at hd)
            replace h0 := Lib.hid h0
            replace h1 := Lib.hid h1
            replace h2 := Lib.hid h2
            replace h3 := Lib.hid h3
            replace h4 := Lib.hid h4
            replace h5 := Lib.hid h5
            replace h6 := Lib.hid h6
            replace h7 := Lib.hid h7
            replace h8 := Lib.hid h8
            obtain rfl := (h4.out (by simp [hd])).symm
            have b0 : u.cell? ⟨B, 0, none⟩ = some (.int .i64 (k : Int)) := (HBX.out.st2 hm bne).cell 0
            go_simp
            exact hK.out _ _ ⟨_, _, _, _, _, _, _, _, _, by ((simp only [putAll, Act.put, List.setIfInBounds_toArray, List.set_cons_zero, List.set_cons_succ]) <;> rfl), h0.out, h1.out, h2.out, h3.out, h4.out, (fun _ => rfl), h6.out, h7.out, h8.out, hm⟩
          refine Steps.cons (i := 6) rfl ?_ ?_
          · rintro L a u ⟨x0, x1, x2, x3, x4, x5, x6, x7, x8, rfl, h0, h1, h2, h3, h4, h5, h6, h7, h8, hm⟩ hi hd K hK
            simp only [putAll, Act.put, List.setIfInBounds_toArray, List.set_cons_zero, List.set_cons_succ]
            (try simp [Region.binds] at hd)
            replace h0 := Lib.hid h0
            replace h1 := Lib.hid h1
            replace h2 := Lib.hid h2
            replace h3 := Lib.hid h3
            replace h4 := Lib.hid h4
            replace h5 := Lib.hid h5
            replace h6 := Lib.hid h6
            replace h7 := Lib.hid h7
            replace h8 := Lib.hid h8
            go_simp
            exact hK.out _ _ ⟨_, _, _, _, _, _, _, _, _, by ((simp only [putAll, Act.put, List.setIfInBounds_toArray, List.set_cons_zero, List.set_cons_succ]) <;> rfl), h0.out, h1.out, h2.out, h3.out, h4.out, h5.out, (fun _ => rfl), h7.out, h8.out, hm⟩
          refine Steps.cons (i := 7) rfl ?_ ?_
          · rintro L a u ⟨x0, x1, x2, x3, x4, x5, x6, x7, x8, rfl, h0, h1, h2, h3, h4, h5, h6, h7, h8, hm⟩ hi hd K hK
            simp only [putAll, Act.put, List.setIfInBounds_toArray, List.set_cons_zero, List.set_cons_succ]
            (try simp [Region.binds] at hd)
            replace h0 := Lib.hid h0
            replace h1 := Lib.hid h1
            replace h2 := Lib.hid h2
            replace h3 := Lib.hid h3
            replace h4 := Lib.hid h4
            replace h5 := Lib.hid h5
            replace h6 := Lib.hid h6
            replace h7 := Lib.hid h7
            replace h8 := Lib.hid h8
            obtain rfl := (h6.out (by simp [hd])).symm
            have hr := (HBX.out.st2 hm bne).range 1 (sc ps) (by rw [sc_len, HPS.out]; exact List.take_of_length_le (by simp [wc, sc_len, HPS.out]))
            rw [if_pos (by rfl)]
            refine wp_load_mid TS _ rfl B 1 rfl (sc ps) _ hr Tryd.underlying68 rfl (by rw [sc_len, HPS.out]; exact infoS) ?_
            exact hK.out _ _ ⟨_, _, _, _, _, _, _, _, _, by ((simp only [putAll, Act.put, List.setIfInBounds_toArray, List.set_cons_zero, List.set_cons_succ]) <;> rfl), h0.out, h1.out, h2.out, h3.out, h4.out, h5.out, h6.out, (fun _ => rfl), h8.out, hm⟩
          refine Steps.cons (i := 8) rfl ?_ ?_
          · rintro L a u ⟨x0, x1, x2, x3, x4, x5, x6, x7, x8, rfl, h0, h1, h2, h3, h4, h5, h6, h7, h8, hm⟩ hi hd K hK
            simp only [putAll, Act.put, List.setIfInBounds_toArray, List.set_cons_zero, List.set_cons_succ]
            (try simp [Region.binds] at hd)
            replace h0 := Lib.hid h0
            replace h1 := Lib.hid h1
            replace h2 := Lib.hid h2
            replace h3 := Lib.hid h3
            replace h4 := Lib.hid h4
            replace h5 := Lib.hid h5
            replace h6 := Lib.hid h6
            replace h7 := Lib.hid h7
            replace h8 := Lib.hid h8
            obtain rfl := (h3.out (by simp [hd])).symm
            obtain rfl := (h5.out (by simp [hd])).symm
            go_simp
            exact hK.out _ _ ⟨_, _, _, _, _, _, _, _, _, by ((simp only [putAll, Act.put, List.setIfInBounds_toArray, List.set_cons_zero, List.set_cons_succ]) <;> rfl), h0.out, h1.out, h2.out, h3.out, h4.out, h5.out, h6.out, h7.out, (fun _ => rfl), hm⟩
          refine Steps.cons (i := 9) rfl ?_ ?_
          · rintro L a u ⟨x0, x1, x2, x3, x4, x5, x6, x7, x8, rfl, h0, h1, h2, h3, h4, h5, h6, h7, h8, hm⟩ hi hd K hK
            simp only [putAll, Act.put, List.setIfInBounds_toArray, List.set_cons_zero, List.set_cons_succ]
            (try simp [Region.binds] at hd)
            replace h0 := Lib.hid h0
            replace h1 := Lib.hid h1
            replace h2 := Lib.hid h2
            replace h3 := Lib.hid h3
            replace h4 := Lib.hid h4
            replace h5 := Lib.hid h5
            replace h6 := Lib.hid h6
            replace h7 := Lib.hid h7
            replace h8 := Lib.hid h8
            obtain rfl := (h7.out (by simp [hd])).symm
            obtain rfl := (h8.out (by simp [hd])).symm
            have hu : u = W5.drew := by rcases hm with ⟨_, h⟩ | ⟨h, _⟩ <;> first | exact h | (rw [hi] at h; cases h)
            subst hu
            rw [if_pos (by rfl)]
            refine wp_store_mid TS _ _ rfl bd (k * 64) (sc ps).toArray rfl rfl ?_ ?_ (all_oneCell_toArray sc_one) ?_
            · (rw [List.size_toArray, sc_len, HPS.out]; exact HTH.out)
            · (rw [List.size_toArray, sc_len, HPS.out]; exact infoS)
            exact hK.out _ _ ⟨_, _, _, _, _, _, _, _, _, by ((simp only [putAll, Act.put, List.setIfInBounds_toArray, List.set_cons_zero, List.set_cons_succ]) <;> rfl), h0.out, h1.out, h2.out, h3.out, h4.out, h5.out, h6.out, h7.out, h8.out, .inr ⟨rfl, rfl⟩⟩
          · exact Steps.nil
          · rintro L a u ⟨x0, x1, x2, x3, x4, x5, x6, x7, x8, rfl, h0, h1, h2, h3, h4, h5, h6, h7, h8, hm⟩ hall
            rcases hm with ⟨h, _⟩ | ⟨_, rfl⟩
            · rw [hall 9 (by decide)] at h; cases h
            simp only [putAll, Act.put, List.setIfInBounds_toArray, List.set_cons_zero, List.set_cons_succ]
            have h6 := A5.out.drew.setD' H64.out k HD.out ps HPS.out
            have hT := HTK.out
            rw [hck.out, part_64 HPS.out (H64.out _ (by rw [List.getD_eq_getElem?_getD, List.getElem?_eq_getElem HD.out]; exact List.getElem_mem HD.out))] at hT
            rw [show (Dr.mk DD x.P x.F).D.set k ps = DD.set k ps from rfl, ← hT] at h6
            go_wp2_with fail
            go_roundw
            case rel => exact ⟨j + 1, by omega, by go_num, h6, H7.out _, H8.out _⟩
            case measure => simp [intOf]; omega
        · have hb' : (bits .and .u64 ((c.keep : Int) / 2 ^ (j % 64)) 1 == 1) = false := by rw [bit_is]; simpa using hbit
          have hck := Lib.hid (show c.cut j = 0 by unfold Cr.cut; rw [if_neg ht, if_neg hbit])
          clear ht hbit
          have hT := HTK.out
          rw [hck.out, part_0, set_self] at hT
          have HT := Lib.hid hT
          clear hT
          go_wp2_with fail
          go_roundw
          case rel => exact ⟨j + 1, by omega, by go_num, by rw [HT.out]; exact A5.out, Q5.out, K5.out⟩
          case measure => simp [intOf]; omega
    · obtain rfl : j = x.P.length := by omega
      have hA3 := A2.out
      rw [List.take_length] at hA3
      have A3 := Lib.hid hA3
      have HD := Lib.hid (show ∀ s ∈ crashTo c x.P 0 x.D, s.length = 64 by have := crash_take_64 HX.out c x.P.length; rwa [List.take_length] at this)
      have HL := Lib.hid (show (crashTo c x.P 0 x.D).length = x.D.length from crashTo_len _ _ _ _)
      have hres : x.crash c = ⟨crashTo c x.P 0 x.D, [], none⟩ := rfl
      obtain ⟨DD, hDD⟩ : ∃ DD, crashTo c x.P 0 x.D = DD := ⟨_, rfl⟩
      rw [hDD] at A3 HD HL hres
      have HRES := Lib.hid hres
      obtain ⟨N, hN⟩ : ∃ N, (Dr.mk DD x.P x.F).n = N := ⟨_, rfl⟩
      have HN := Lib.hid (show DD.length = N from hN)
      have HG := Lib.hid (show Rw wr.drew g TD [.slice (some ⟨bv, 0, none⟩) N N, .slice (some ⟨bd, 0, none⟩) N N, .slice ap x.P.length cap, fv] by rw [← hN]; exact A3.out.blk.drew)
      have gne : g ≠ bv := A3.out.blk.type A3.out.v (by decide)
      have HRUN := Lib.hid (run_copy_cells (P := Tryd.prog) wr.drew 47 47 3 TS 64 bv 0 N N bd 0 N N N (flat DD) Tryd.underlying47 infoS (Nat.min_self _) (by rw [flat_len HD.out, HN.out])
        (A3.out.d.drew.range 0 _ (by rw [List.drop_zero, List.take_length])) (A3.out.v.drew.there 0 _ (by rw [flat_len HX.out.v, flat_len HD.out, Dr.vlen, HL.out]; omega)) flat_one)
      clear hA3 hDD hN hres A2
      go_wp2_with fail
      refine wp_region_inv (I := (fun A0 L a u => ∃ (x0 x1 x2 x3 x4 x5 x6 x7 x8 : Value), a = putAll A0 [(57, x0), (58, x1), (59, x2), (60, x3), (61, x4), (62, x5), (63, x6), (64, x7), (65, x8)] ∧ (L 0 = true → x0 = (.pointer (some ⟨g, 0, Option.none⟩))) ∧ (L 1 = true → x1 = (.pointer (some ⟨g, 0, Option.none⟩))) ∧ (L 2 = true → x2 = (.pointer (some ⟨g, 0, Option.none⟩))) ∧ (L 3 = true → x3 = (.slice (some ⟨bv, 0, none⟩) N N)) ∧ (L 4 = true → x4 = (.pointer (some ⟨g, 0, Option.none⟩))) ∧ (L 5 = true → x5 = (.pointer (some ⟨g, 0, Option.none⟩))) ∧ (L 6 = true → x6 = (.pointer (some ⟨g, 1, Option.none⟩))) ∧ (L 7 = true → x7 = (.slice (some ⟨bd, 0, none⟩) N N)) ∧ St2 wr.drew bv 0 (flat DD) (L 8) u)) (by kernel_rfl) (by kernel_rfl) ?_ ?_ ?_
      · intro L hL
        exact ⟨_, _, _, _, _, _, _, _, _, by (simp only [putAll, Act.put, List.setIfInBounds_toArray, List.set_cons_zero, List.set_cons_succ]; rfl), (fun h => absurd h (by rw [hL 0 (by decide)]; decide)), (fun h => absurd h (by rw [hL 1 (by decide)]; decide)), (fun h => absurd h (by rw [hL 2 (by decide)]; decide)), (fun h => absurd h (by rw [hL 3 (by decide)]; decide)), (fun h => absurd h (by rw [hL 4 (by decide)]; decide)), (fun h => absurd h (by rw [hL 5 (by decide)]; decide)), (fun h => absurd h (by rw [hL 6 (by decide)]; decide)), (fun h => absurd h (by rw [hL 7 (by decide)]; decide)), .inl ⟨hL 8 (by decide), rfl⟩⟩
      refine Steps.cons (i := 0) rfl ?_ ?_
      · rintro L a u ⟨x0, x1, x2, x3, x4, x5, x6, x7, x8, rfl, h0, h1, h2, h3, h4, h5, h6, h7, hm⟩ hi hd K hK
        simp only [putAll, Act.put, List.setIfInBounds_toArray, List.set_cons_zero, List.set_cons_succ]
        (try simp [Region.binds] at hd)
        replace h0 := Lib.hid h0
        replace h1 := Lib.hid h1
        replace h2 := Lib.hid h2
        replace h3 := Lib.hid h3
        replace h4 := Lib.hid h4
        replace h5 := Lib.hid h5
        replace h6 := Lib.hid h6
        replace h7 := Lib.hid h7
        go_simp
        exact hK.out _ _ ⟨_, _, _, _, _, _, _, _, _, by ((simp only [putAll, Act.put, List.setIfInBounds_toArray, List.set_cons_zero, List.set_cons_succ]) <;> rfl), (fun _ => rfl), h1.out, h2.out, h3.out, h4.out, h5.out, h6.out, h7.out, hm⟩
      refine Steps.cons (i := 1) rfl ?_ ?_
      · rintro L a u ⟨x0, x1, x2, x3, x4, x5, x6, x7, x8, rfl, h0, h1, h2, h3, h4, h5, h6, h7, hm⟩ hi hd K hK
        simp only [putAll, Act.put, List.setIfInBounds_toArray, List.set_cons_zero, List.set_cons_succ]
        (try simp [Region.binds] at hd)
        replace h0 := Lib.hid h0
        replace h1 := Lib.hid h1
        replace h2 := Lib.hid h2
        replace h3 := Lib.hid h3
        replace h4 := Lib.hid h4
        replace h5 := Lib.hid h5
        replace h6 := Lib.hid h6
        replace h7 := Lib.hid h7
        obtain rfl := (h0.out (by simp [hd])).symm
        go_simp
        exact hK.out _ _ ⟨_, _, _, _, _, _, _, _, _, by ((simp only [putAll, Act.put, List.setIfInBounds_toArray, List.set_cons_zero, List.set_cons_succ]) <;> rfl), h0.out, (fun _ => rfl), h2.out, h3.out, h4.out, h5.out, h6.out, h7.out, hm⟩
      refine Steps.cons (i := 2) rfl ?_ ?_
      · rintro L a u ⟨x0, x1, x2, x3, x4, x5, x6, x7, x8, rfl, h0, h1, h2, h3, h4, h5, h6, h7, hm⟩ hi hd K hK
        simp only [putAll, Act.put, List.setIfInBounds_toArray, List.set_cons_zero, List.set_cons_succ]
        (try simp [Region.binds] at hd)
        replace h0 := Lib.hid h0
        replace h1 := Lib.hid h1
        replace h2 := Lib.hid h2
        replace h3 := Lib.hid h3
        replace h4 := Lib.hid h4
        replace h5 := Lib.hid h5
        replace h6 := Lib.hid h6
        replace h7 := Lib.hid h7
        obtain rfl := (h1.out (by simp [hd])).symm
        go_simp
        exact hK.out _ _ ⟨_, _, _, _, _, _, _, _, _, by ((simp only [putAll, Act.put, List.setIfInBounds_toArray, List.set_cons_zero, List.set_cons_succ]) <;> rfl), h0.out, h1.out, (fun _ => rfl), h3.out, h4.out, h5.out, h6.out, h7.out, hm⟩
      refine Steps.cons (i := 3) rfl ?_ ?_
      · rintro L a u ⟨x0, x1, x2, x3, x4, x5, x6, x7, x8, rfl, h0, h1, h2, h3, h4, h5, h6, h7, hm⟩ hi hd K hK
        simp only [putAll, Act.put, List.setIfInBounds_toArray, List.set_cons_zero, List.set_cons_succ]
        (try simp [Region.binds] at hd)
        replace h0 := Lib.hid h0
        replace h1 := Lib.hid h1
        replace h2 := Lib.hid h2
        replace h3 := Lib.hid h3
        replace h4 := Lib.hid h4
        replace h5 := Lib.hid h5
        replace h6 := Lib.hid h6
        replace h7 := Lib.hid h7
        obtain rfl := (h2.out (by simp [hd])).symm
        have c0 : u.cell? ⟨g, 0, none⟩ = some (.slice (some ⟨bv, 0, none⟩) N N) := (HG.out.st2 hm gne).cell 0
        go_simp
        exact hK.out _ _ ⟨_, _, _, _, _, _, _, _, _, by ((simp only [putAll, Act.put, List.setIfInBounds_toArray, List.set_cons_zero, List.set_cons_succ]) <;> rfl), h0.out, h1.out, h2.out, (fun _ => rfl), h4.out, h5.out, h6.out, h7.out, hm⟩
      refine Steps.cons (i := 4) rfl ?_ ?_
      · rintro L a u ⟨x0, x1, x2, x3, x4, x5, x6, x7, x8, rfl, h0, h1, h2, h3, h4, h5, h6, h7, hm⟩ hi hd K hK
        simp only [putAll, Act.put, List.setIfInBounds_toArray, List.set_cons_zero, List.set_cons_succ]
        (try simp [Region.binds] at hd)
        replace h0 := Lib.hid h0
        replace h1 := Lib.hid h1
        replace h2 := Lib.hid h2
        replace h3 := Lib.hid h3
        replace h4 := Lib.hid h4
        replace h5 := Lib.hid h5
        replace h6 := Lib.hid h6
        replace h7 := Lib.hid h7
        go_simp
        exact hK.out _ _ ⟨_, _, _, _, _, _, _, _, _, by ((simp only [putAll, Act.put, List.setIfInBounds_toArray, List.set_cons_zero, List.set_cons_succ]) <;> rfl), h0.out, h1.out, h2.out, h3.out, (fun _ => rfl), h5.out, h6.out, h7.out, hm⟩
      refine Steps.cons (i := 5) rfl ?_ ?_
      · rintro L a u ⟨x0, x1, x2, x3, x4, x5, x6, x7, x8, rfl, h0, h1, h2, h3, h4, h5, h6, h7, hm⟩ hi hd K hK
        simp only [putAll, Act.put, List.setIfInBounds_toArray, List.set_cons_zero, List.set_cons_succ]
        (try simp [Region.binds] at hd)
        replace h0 := Lib.hid h0
        replace h1 := Lib.hid h1
        replace h2 := Lib.hid h2
        replace h3 := Lib.hid h3
        replace h4 := Lib.hid h4
        replace h5 := Lib.hid h5
        replace h6 := Lib.hid h6
        replace h7 := Lib.hid h7
        obtain rfl := (h4.out (by simp [hd])).symm
        go_simp
        exact hK.out _ _ ⟨_, _, _, _, _, _, _, _, _, by ((simp only [putAll, Act.put, List.setIfInBounds_toArray, List.set_cons_zero, List.set_cons_succ]) <;> rfl), h0.out, h1.out, h2.out, h3.out, h4.out, (fun _ => rfl), h6.out, h7.out, hm⟩
      refine Steps.cons (i := 6) rfl ?_ ?_
      · rintro L a u ⟨x0, x1, x2, x3, x4, x5, x6, x7, x8, rfl, h0, h1, h2, h3, h4, h5, h6, h7, hm⟩ hi hd K hK
        simp only [putAll, Act.put, List.setIfInBounds_toArray, List.set_cons_zero, List.set_cons_succ]
        (try simp [Region.binds] at hd)
        replace h0 := Lib.hid h0
        replace h1 := Lib.hid h1
        replace h2 := Lib.hid h2
        replace h3 := Lib.hid h3
        replace h4 := Lib.hid h4
        replace h5 := Lib.hid h5
        replace h6 := Lib.hid h6
        replace h7 := Lib.hid h7
        obtain rfl := (h5.out (by simp [hd])).symm
        go_simp
        exact hK.out _ _ ⟨_, _, _, _, _, _, _, _, _, by ((simp only [putAll, Act.put, List.setIfInBounds_toArray, List.set_cons_zero, List.set_cons_succ]) <;> rfl), h0.out, h1.out, h2.out, h3.out, h4.out, h5.out, (fun _ => rfl), h7.out, hm⟩
      refine Steps.cons (i := 7) rfl ?_ ?_
      · rintro L a u ⟨x0, x1, x2, x3, x4, x5, x6, x7, x8, rfl, h0, h1, h2, h3, h4, h5, h6, h7, hm⟩ hi hd K hK
        simp only [putAll, Act.put, List.setIfInBounds_toArray, List.set_cons_zero, List.set_cons_succ]
        (try simp [Region.binds] at hd)
        replace h0 := Lib.hid h0
        replace h1 := Lib.hid h1
        replace h2 := Lib.hid h2
        replace h3 := Lib.hid h3
        replace h4 := Lib.hid h4
        replace h5 := Lib.hid h5
        replace h6 := Lib.hid h6
        replace h7 := Lib.hid h7
        obtain rfl := (h6.out (by simp [hd])).symm
        have c1 : u.cell? ⟨g, 1, none⟩ = some (.slice (some ⟨bd, 0, none⟩) N N) := (HG.out.st2 hm gne).cell 1
        go_simp
        exact hK.out _ _ ⟨_, _, _, _, _, _, _, _, _, by ((simp only [putAll, Act.put, List.setIfInBounds_toArray, List.set_cons_zero, List.set_cons_succ]) <;> rfl), h0.out, h1.out, h2.out, h3.out, h4.out, h5.out, h6.out, (fun _ => rfl), hm⟩
      refine Steps.cons (i := 8) rfl ?_ ?_
      · rintro L a u ⟨x0, x1, x2, x3, x4, x5, x6, x7, x8, rfl, h0, h1, h2, h3, h4, h5, h6, h7, hm⟩ hi hd K hK
        simp only [putAll, Act.put, List.setIfInBounds_toArray, List.set_cons_zero, List.set_cons_succ]
        (try simp [Region.binds] at hd)
        replace h0 := Lib.hid h0
        replace h1 := Lib.hid h1
        replace h2 := Lib.hid h2
        replace h3 := Lib.hid h3
        replace h4 := Lib.hid h4
        replace h5 := Lib.hid h5
        replace h6 := Lib.hid h6
        replace h7 := Lib.hid h7
        obtain rfl := (h3.out (by simp [hd])).symm
        obtain rfl := (h7.out (by simp [hd])).symm
        have hu : u = wr.drew := by rcases hm with ⟨_, h⟩ | ⟨h, _⟩ <;> first | exact h | (rw [hi] at h; cases h)
        subst hu
        have hrun := HRUN.out
        go_simp
        exact hK.out _ _ ⟨_, _, _, _, _, _, _, _, _, by ((simp only [putAll, Act.put, List.setIfInBounds_toArray, List.set_cons_zero, List.set_cons_succ]) <;> rfl), h0.out, h1.out, h2.out, h3.out, h4.out, h5.out, h6.out, h7.out, .inr ⟨rfl, rfl⟩⟩
      · exact Steps.nil
      · rintro L a u ⟨x0, x1, x2, x3, x4, x5, x6, x7, x8, rfl, h0, h1, h2, h3, h4, h5, h6, h7, hm⟩ hall
        rcases hm with ⟨h, _⟩ | ⟨_, rfl⟩
        · rw [hall 8 (by decide)] at h; cases h
        simp only [putAll, Act.put, List.setIfInBounds_toArray, List.set_cons_zero, List.set_cons_succ]
        have h7 := A3.out.drew.seen HX.out.v HD.out (by rw [Dr.vlen]; exact HL.out.symm)
        have A7 := Lib.hid h7
        have K7 := Lib.hid (K2.out.drew.setCells bv 0 (flat DD) (.inl (.inr (.inl rfl))))
        have c2 : (wr.drew.setCells bv 0 (flat DD)).cell? ⟨g, 2, none⟩ = some (.slice ap x.P.length cap) := h7.c2
        have f2 : (wr.drew.setCells bv 0 (flat DD)).frozen? ⟨g, 2, none⟩ = false := h7.blk.frozen 2
        have c3 : (wr.drew.setCells bv 0 (flat DD)).cell? ⟨g, 3, none⟩ = some fv := h7.c3
        have f3 : (wr.drew.setCells bv 0 (flat DD)).frozen? ⟨g, 3, none⟩ = false := h7.blk.frozen 3
        generalize wr.drew.setCells bv 0 (flat DD) = W7 at *
        clear h7
        go_wp2_with fail
        go_end0
        rw [HRES.out]
        have h8 := A7.out.noP.setF (fv' := .pointer none) (F := none) (.inl ⟨rfl, rfl⟩) (by intro e; cases e)
        refine ⟨rfl, _, _, h8, (K7.out.setCell g 2 _ (.inl (.inl rfl))).setCell g 3 _ (.inl (.inl rfl)), ?_⟩
        rintro i (rfl | rfl | rfl | hi | hi)
        · exact .inl (.inl rfl)
        · exact .inl (.inr (.inl rfl))
        · exact .inl (.inr (.inr (.inl rfl)))
        · cases hi
        · cases hi
end Go.Proofs.YtjlncjabiofklaaDoor.Dv
