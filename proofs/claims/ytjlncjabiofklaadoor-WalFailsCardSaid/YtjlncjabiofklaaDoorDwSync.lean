/- Package drive: Sync. -/
import Derived.Test.YtjlncjabiofklaaDoorDwRead
namespace Go.Proofs.YtjlncjabiofklaaDoor.Dv
open Go Go.RowKit Rf
/-- A store that has come up, or not. -/
def St2 (W : World) (b o : Nat) (cs : List Value) (f : Bool) (u : World) : Prop := (f = false ∧ u = W) ∨ (f = true ∧ u = W.setCells b o cs)
theorem Rw.st2 {W u : World} {b o b' : Nat} {cs L : List Value} {t : TypeId} {f : Bool} (h : Rw W b' t L) (k : St2 W b o cs f u) (hne : b' ≠ b) : Rw u b' t L := by
  rcases k with ⟨_, rfl⟩ | ⟨_, rfl⟩
  · exact h
  · exact h.other b o cs hne
/-- A part of a sure sector, written. -/
theorem AtV.setD {w : World} {g bv bd : Nat} {pv fv : Value} {V : List Sec} {x : Dr} (h : AtV w g bv bd pv fv V x) (hD : ∀ s ∈ x.D, s.length = 64) (k : Nat) (o : Sec) (ho : x.D[k]? = some o) (s : Sec) (hs : s.length ≤ 64) :
    AtV (w.setCells bd (k * 64) (sc s)) g bv bd pv fv V ⟨x.D.set k (s ++ o.drop s.length), x.P, x.F⟩ := by
  have K : Keeps (fun j => j = bd) w (w.setCells bd (k * 64) (sc s)) := (Keeps.refl _ w).setCells bd (k * 64) _ (.inl rfl)
  have hl := flat_len hD
  have hk : k < x.D.length := (List.getElem?_eq_some_iff.1 ho).1
  have ho' : x.D[k] = o := (List.getElem?_eq_some_iff.1 ho).2
  subst ho'
  have hn : (Dr.mk (x.D.set k (s ++ x.D[k].drop s.length)) x.P x.F).n = x.n := by show (x.D.set _ _).length = x.D.length; simp
  refine ⟨by rw [hn]; exact h.blk.keeps K (h.blk.type h.d (by decide)), h.v.keeps K h.ne, ?_, own_keeps h.p K (fun j hj e => own_type h.p h.d (by decide) (e ▸ hj)), h.f.keeps K (fun j hj e => ?_), h.ne⟩
  · show Rw _ bd TS (flat (x.D.set k (s ++ x.D[k].drop s.length)))
    rw [← flat_part hD k s hs hk]
    exact h.d.setCells (sc s) (k * 64) (by rw [sc_len, hl]; omega)
  · subst e
    rcases h.f with ⟨_, rfl⟩ | ⟨b, n, _, rfl, h3⟩
    · cases hj
    · cases hj
      exact h3.type h.d (by decide) rfl
theorem AtV.setD' {w : World} {g bv bd : Nat} {pv fv : Value} {V : List Sec} {x : Dr} (h : AtV w g bv bd pv fv V x) (hD : ∀ s ∈ x.D, s.length = 64) (k : Nat) (hk : k < x.D.length) (s : Sec) (hs : s.length = 64) :
    AtV (w.setCells bd (k * 64) (sc s)) g bv bd pv fv V ⟨x.D.set k s, x.P, x.F⟩ := by
  have := h.setD hD k x.D[k] (List.getElem?_eq_getElem hk) s (by omega)
  rwa [List.drop_eq_nil_of_le (by rw [hs, hD _ (List.getElem_mem hk)]; exact Nat.le_refl _), List.append_nil] at this
/-- The open writes, none. -/
theorem AtV.noP {w : World} {g bv bd : Nat} {pv fv : Value} {V : List Sec} {x : Dr} (h : AtV w g bv bd pv fv V x) : AtV (w.setCell ⟨g, 2, none⟩ (.slice none 0 0)) g bv bd (.slice none 0 0) fv V ⟨x.D, [], x.F⟩ := by
  have K : Keeps (fun j => j = g) w (w.setCell ⟨g, 2, none⟩ (.slice none 0 0)) := (Keeps.refl _ w).setCell g 2 _ (.inl rfl)
  refine ⟨h.blk.setCell 2 _, h.v.keeps K (h.v.type h.blk (by decide)), h.d.keeps K (h.d.type h.blk (by decide)), World.ownsRow_nil _ _ _ _, h.f.keeps K (fun j hj e => ?_), h.ne⟩
  subst e
  rcases h.f with ⟨_, rfl⟩ | ⟨b, n, _, rfl, h3⟩
  · cases hj
  · cases hj
    exact h3.type h.blk (by decide) rfl
/-- An open write in memory. -/
theorem AtV.rangeP {w : World} {g bv bd gp cap : Nat} {n : Nat} {fv : Value} {V : List Sec} {x : Dr} (h : AtV w g bv bd (.slice (some ⟨gp, 0, none⟩) n cap) fv V x) (hp : ∀ q ∈ x.P, q.2.length = 64) (j : Nat) (hj : j < x.P.length) : w.rangeAt gp (j * 65) (wc x.P[j]) := by
  intro i v hv
  have hw : (wc x.P[j]).length = 65 := by simp [wc, sc_len, hp _ (List.getElem_mem hj)]
  have hi : i < 65 := by rw [← hw]; exact (List.getElem?_eq_some_iff.1 hv).1
  have h1 := flatP_at hp j hj
  have h2 : (flatP x.P)[j * 65 + i]? = some v := by
    rw [← hv, ← h1, List.getElem?_take_of_lt hi, List.getElem?_drop]
  have := h.p.cells (g := gp) rfl _ _ h2
  rwa [Addr.add_mid, Nat.zero_add] at this
theorem take_puts (P : List (Nat × Sec)) (D : List Sec) (j : Nat) (hj : j < P.length) : puts (P.take (j + 1)) D = (puts (P.take j) D).set P[j].1 P[j].2 := by
  rw [List.take_succ_eq_append_getElem hj, ← puts_snoc]
theorem puts_take_64 {x : Dr} (hx : x.Ok) (j : Nat) : ∀ s ∈ puts (x.P.take j) x.D, s.length = 64 := puts_64 _ _ hx.d fun q hq => (hx.p q (List.mem_of_mem_take hq)).2
theorem infoW' : (Tryd.prog.info? TW).map (·.size) = some 65 := by kernel_rfl
set_option maxHeartbeats 1600000 in
theorem sync_no (g bv bd : Nat) (pv fv : Value) (x : Dr) (w : World) (hA : At w g bv bd pv fv x) (hx : x.Ok) (hF : burn x.F = none) : Calls Tryd.prog 40 #[.pointer (some ⟨g, 0, Option.none⟩)] w fun e w' => e = .returned (.int .i64 30) ∧ w = w' := by
  have K := Lib.hid (is_c g bv bd pv fv x w hA hx)
  have KB := Lib.hid (burn_no g bv bd pv fv x w hA hF)
  clear hA hx hF
  go_enter Tryd.func40, Tryd.ntmps40
  go_wp2_with fail
  refine K.out.mono ?_
  rintro e w' ⟨rfl, rfl⟩
  go_wp2_with fail
  refine KB.out.mono ?_
  rintro e w' ⟨rfl, rfl⟩
  go_wp2_with fail
  go_ret
  exact ⟨rfl, rfl⟩
set_option maxRecDepth 100000 in
set_option maxHeartbeats 4000000 in
theorem sync_yes (g bv bd : Nat) (pv fv : Value) (x : Dr) (F : Option Nat) (w : World) (hA : At w g bv bd pv fv x) (hx : x.Ok) (hP : x.P.length ≤ 100000) (hF : burn x.F = some F) : Calls Tryd.prog 40 #[.pointer (some ⟨g, 0, Option.none⟩)] w (Res 0 g bv bd pv fv ⟨x.V, [], F⟩ w) := by
  have K := Lib.hid (is_c g bv bd pv fv x w hA hx)
  have KB := Lib.hid (burn_yes g bv bd pv fv x F w hA hx hF)
  have HX := Lib.hid hx
  obtain ⟨ap, cap, rfl⟩ := own_val hA.p
  have hap := Lib.hid (show 0 < x.P.length → ∃ gp, ap = some ⟨gp, 0, none⟩ from fun h => by
    obtain ⟨gp, cap', e, _⟩ := hA.p.form h
    injection e with e
    exact ⟨gp, e⟩)
  clear hA hF hx
  go_enter Tryd.func40, Tryd.ntmps40
  go_wp2_with fail
  refine K.out.mono ?_
  rintro e w' ⟨rfl, rfl⟩
  go_wp2_with fail
  refine KB.out.mono ?_
  rintro e W ⟨rfl, hA1, hK1⟩
  have A1 := Lib.hid (show AtV W g bv bd (.slice ap x.P.length cap) fv x.V ⟨x.D, x.P, F⟩ from hA1)
  have K1 := Lib.hid (hK1.mono (S := Bs g bv bd (.slice ap x.P.length cap) fv) (fun j hj => .inl (.inr (.inr (.inr (.inr hj))))))
  clear hA1 hK1 K KB
  have c2 : W.cell? ⟨g, 2, none⟩ = some (.slice ap x.P.length cap) := A1.out.c2
  obtain ⟨n, hn⟩ : ∃ n, x.P.length = n := ⟨_, rfl⟩
  go_wp2_with fail
  clear c2
  go_loopw [19] (fun i wr => ∃ j : Nat, j ≤ x.P.length ∧ i = .int .i64 j ∧ AtV wr g bv bd (.slice ap x.P.length cap) fv x.V ⟨puts (x.P.take j) x.D, x.P, F⟩ ∧ Keeps (Bs g bv bd (.slice ap x.P.length cap) fv) w wr) (fun i _ => x.P.length - (intOf i).toNat)
  case atStart => exact ⟨0, by omega, rfl, A1.out, K1.out⟩
  case round =>
    obtain ⟨j, hj, rfl, hA2, hK2⟩ := hrel
    have A2 := Lib.hid hA2
    have K2 := Lib.hid hK2
    clear hA2 hK2
    by_cases hlt : j < x.P.length
    · obtain ⟨gp, rfl⟩ := hap.out (by omega)
      obtain ⟨p, hp⟩ : ∃ p, x.P[j] = p := ⟨_, rfl⟩
      have hpk := HX.out.p x.P[j] (List.getElem_mem hlt)
      have hr := A2.out.rangeP (fun q hq => (HX.out.p q hq).2) j hlt
      have HTK := Lib.hid (take_puts x.P x.D j hlt)
      rw [hp] at hpk hr HTK
      obtain ⟨k, ps⟩ := p
      have HPS := Lib.hid hpk.2
      have HK := Lib.hid hpk.1
      have hju : (j : Int) < (x.P.length : Int) := by omega
      have hj0 : (0 : Int) ≤ (j : Int) := by omega
      have HWL := Lib.hid (show (wc (k, ps)).length = 65 by simp [wc, sc_len, HPS.out])
      have HR := Lib.hid hr
      clear hp hpk hr
      obtain ⟨ZW, hZ, hZl⟩ : ∃ ZW : List Value, (∀ u, (zeroValue TW).run Tryd.prog u = .ok (.agg ZW.toArray) u) ∧ ZW.length = 65 := ⟨_, zeroW, by decide⟩
      have HZ := Lib.hid hZl
      clear hZl
      go_wp2_with (first | (with_reducible refine wpList_load_mid rfl TW _ rfl gp (j * 65) rfl (wc (k, ps)) _ HR.out Tryd.underlying70 rfl (by rw [HWL.out]; exact infoW') ?_) | (with_reducible refine wpList_store_mid rfl TW _ _ rfl wr.heap.size 0 (wc (k, ps)).toArray rfl rfl ?t ?i ?o ?_))
      case t => rw [List.size_toArray, HWL.out]; exact (Rw.new wr ZW TW).there 0 65 (by rw [HZ.out]; exact Nat.le_refl _)
      case i => rw [HWL.out]; simpa using infoW'
      case o => exact wc_one
      have hB0 := (Rw.new wr ZW TW).setCells (wc (k, ps)) 0 (by rw [HWL.out, HZ.out]; exact Nat.le_refl _)
      rw [splice_all _ _ (by rw [HWL.out, HZ.out])] at hB0
      have hkk : Below wr.heap.size wr ((wr.alloc (.cells ZW.toArray TW)).setCells wr.heap.size 0 (wc (k, ps))) := ((Keeps.refl (fun _ => False) wr).alloc _ |>.setCells wr.heap.size 0 _ (.inr (Nat.le_refl _))).below (fun _ h => h.elim) (Nat.le_refl _)
      generalize (wr.alloc (.cells ZW.toArray TW)).setCells wr.heap.size 0 (wc (k, ps)) = W5 at *
      have A5 := Lib.hid (A2.out.later hkk)
      have K5 := Lib.hid (K2.out.trans (Keeps.of _ hkk))
      have HBX := Lib.hid hB0
      have gne : g ≠ bd := A5.out.blk.type A5.out.d (by decide)
      have bne : wr.heap.size ≠ bd := HBX.out.type A5.out.d (by decide)
      obtain ⟨B, hB⟩ : ∃ B, wr.heap.size = B := ⟨_, rfl⟩
      rw [hB] at HBX bne ⊢
      clear hB hkk hB0 hZ HZ A2 K2 HR HWL
      have HD := Lib.hid (show k < (puts (x.P.take j) x.D).length by rw [puts_len]; exact HK.out)
      have HTH := Lib.hid (show W5.drew.there bd (k * 64) 64 from A5.out.drew.d.there _ _ (by rw [flat_len (puts_take_64 HX.out j)]; have := HD.out; omega))
      obtain ⟨N, hN⟩ : ∃ N, (Dr.mk (puts (x.P.take j) x.D) x.P F).n = N := ⟨_, rfl⟩
      have hkN : (k : Int) < (N : Int) := by rw [← hN]; show (k : Int) < ((puts (x.P.take j) x.D).length : Int); have := HD.out; omega
      have hk0 : (0 : Int) ≤ (k : Int) := by omega
      have HG := Lib.hid (show Rw W5.drew g TD [.slice (some ⟨bv, 0, none⟩) N N, .slice (some ⟨bd, 0, none⟩) N N, .slice (some ⟨gp, 0, none⟩) x.P.length cap, fv] by rw [← hN]; exact A5.out.blk.drew)
      have HBX := Lib.hid HBX.out.drew
      clear hN
      go_upto_region 9 with (fail)
      refine wp_region_inv (I := (fun A0 L a u => ∃ (x0 x1 x2 x3 x4 x5 x6 x7 x8 : Value), a = putAll A0 [(23, x0), (24, x1), (25, x2), (26, x3), (27, x4), (28, x5), (29, x6), (30, x7), (31, x8)] ∧ (L 0 = true → x0 = (.pointer (some ⟨g, 0, Option.none⟩))) ∧ (L 1 = true → x1 = (.pointer (some ⟨g, 0, Option.none⟩))) ∧ (L 2 = true → x2 = (.pointer (some ⟨g, 1, Option.none⟩))) ∧ (L 3 = true → x3 = (.slice (some ⟨bd, 0, Option.none⟩) N N)) ∧ (L 4 = true → x4 = (.pointer (some ⟨B, 0, Option.none⟩))) ∧ (L 5 = true → x5 = (.int .i64 (k : Int))) ∧ (L 6 = true → x6 = (.pointer (some ⟨B, 1, Option.none⟩))) ∧ (L 7 = true → x7 = (.agg (sc ps).toArray)) ∧ (L 8 = true → x8 = (.pointer (some ⟨bd, k * 64, Option.none⟩))) ∧ St2 W5.drew bd (k * 64) (sc ps) (L 9) u)) (by kernel_rfl) (by kernel_rfl) ?_ ?_ ?_
      · intro L hL
        exact ⟨_, _, _, _, _, _, _, _, _, by (simp only [putAll, Act.put, List.setIfInBounds_toArray, List.set_cons_zero, List.set_cons_succ]; rfl), (fun h => absurd h (by rw [hL 0 (by decide)]; decide)), (fun h => absurd h (by rw [hL 1 (by decide)]; decide)), (fun h => absurd h (by rw [hL 2 (by decide)]; decide)), (fun h => absurd h (by rw [hL 3 (by decide)]; decide)), (fun h => absurd h (by rw [hL 4 (by decide)]; decide)), (fun h => absurd h (by rw [hL 5 (by decide)]; decide)), (fun h => absurd h (by rw [hL 6 (by decide)]; decide)), (fun h => absurd h (by rw [hL 7 (by decide)]; decide)), (fun h => absurd h (by rw [hL 8 (by decide)]; decide)), .inl ⟨hL 9 (by decide), rfl⟩⟩
      refine Steps.cons (i := 0) rfl ?_ ?_
      · rintro L a u ⟨x0, x1, x2, x3, x4, x5, x6, x7, x8, rfl, h0, h1, h2, h3, h4, h5, h6, h7, h8, hm⟩ hi hd K hK
        simp only [putAll, Act.put, List.setIfInBounds_toArray, List.set_cons_zero, List.set_cons_succ]
        (try simp [Region.binds] at hd)
        replace h0 := Lib.hid h0
        replace h1 := Lib.hid h1
        replace h2 := Lib.hid h2
        replace h3 := Lib.hid h3
        replace h4 := Lib.hid h4
        replace h5 := Lib.hid h5
        replace h6 := Lib.hid h6
        replace h7 := Lib.hid h7
        replace h8 := Lib.hid h8
        go_simp
        exact hK.out _ _ ⟨_, _, _, _, _, _, _, _, _, by ((simp only [putAll, Act.put, List.setIfInBounds_toArray, List.set_cons_zero, List.set_cons_succ]) <;> rfl), (fun _ => rfl), h1.out, h2.out, h3.out, h4.out, h5.out, h6.out, h7.out, h8.out, hm⟩
      refine Steps.cons (i := 1) rfl ?_ ?_
      · rintro L a u ⟨x0, x1, x2, x3, x4, x5, x6, x7, x8, rfl, h0, h1, h2, h3, h4, h5, h6, h7, h8, hm⟩ hi hd K hK
        simp only [putAll, Act.put, List.setIfInBounds_toArray, List.set_cons_zero, List.set_cons_succ]
        (try simp [Region.binds] at hd)
        replace h0 := Lib.hid h0
        replace h1 := Lib.hid h1
        replace h2 := Lib.hid h2
        replace h3 := Lib.hid h3
        replace h4 := Lib.hid h4
        replace h5 := Lib.hid h5
        replace h6 := Lib.hid h6
        replace h7 := Lib.hid h7
        replace h8 := Lib.hid h8
        obtain rfl := (h0.out (by simp [hd])).symm
        go_simp
        exact hK.out _ _ ⟨_, _, _, _, _, _, _, _, _, by ((simp only [putAll, Act.put, List.setIfInBounds_toArray, List.set_cons_zero, List.set_cons_succ]) <;> rfl), h0.out, (fun _ => rfl), h2.out, h3.out, h4.out, h5.out, h6.out, h7.out, h8.out, hm⟩
      refine Steps.cons (i := 2) rfl ?_ ?_
      · rintro L a u ⟨x0, x1, x2, x3, x4, x5, x6, x7, x8, rfl, h0, h1, h2, h3, h4, h5, h6, h7, h8, hm⟩ hi hd K hK
        simp only [putAll, Act.put, List.setIfInBounds_toArray, List.set_cons_zero, List.set_cons_succ]
        (try simp [Region.binds] at hd)
        replace h0 := Lib.hid h0
        replace h1 := Lib.hid h1
        replace h2 := Lib.hid h2
        replace h3 := Lib.hid h3
        replace h4 := Lib.hid h4
        replace h5 := Lib.hid h5
        replace h6 := Lib.hid h6
        replace h7 := Lib.hid h7
        replace h8 := Lib.hid h8
        obtain rfl := (h1.out (by simp [hd])).symm
        go_simp
        exact hK.out _ _ ⟨_, _, _, _, _, _, _, _, _, by ((simp only [putAll, Act.put, List.setIfInBounds_toArray, List.set_cons_zero, List.set_cons_succ]) <;> rfl), h0.out, h1.out, (fun _ => rfl), h3.out, h4.out, h5.out, h6.out, h7.out, h8.out, hm⟩
      refine Steps.cons (i := 3) rfl ?_ ?_
      · rintro L a u ⟨x0, x1, x2, x3, x4, x5, x6, x7, x8, rfl, h0, h1, h2, h3, h4, h5, h6, h7, h8, hm⟩ hi hd K hK
        simp only [putAll, Act.put, List.setIfInBounds_toArray, List.set_cons_zero, List.set_cons_succ]
        (try simp [Region.binds] at hd)
        replace h0 := Lib.hid h0
        replace h1 := Lib.hid h1
        replace h2 := Lib.hid h2
        replace h3 := Lib.hid h3
        replace h4 := Lib.hid h4
        replace h5 := Lib.hid h5
        replace h6 := Lib.hid h6
        replace h7 := Lib.hid h7
        replace h8 := Lib.hid h8
        obtain rfl := (h2.out (by simp [hd])).symm
        have c1 : u.cell? ⟨g, 1, none⟩ = some (.slice (some ⟨bd, 0, none⟩) N N) := (HG.out.st2 hm gne).cell 1
        go_simp
        exact hK.out _ _ ⟨_, _, _, _, _, _, _, _, _, by ((simp only [putAll, Act.put, List.setIfInBounds_toArray, List.set_cons_zero, List.set_cons_succ]) <;> rfl), h0.out, h1.out, h2.out, (fun _ => rfl), h4.out, h5.out, h6.out, h7.out, h8.out, hm⟩
      refine Steps.cons (i := 4) rfl ?_ ?_
      · rintro L a u ⟨x0, x1, x2, x3, x4, x5, x6, x7, x8, rfl, h0, h1, h2, h3, h4, h5, h6, h7, h8, hm⟩ hi hd K hK
        simp only [putAll, Act.put, List.setIfInBounds_toArray, List.set_cons_zero, List.set_cons_succ]
        (try simp [Region.binds] at hd)
        replace h0 := Lib.hid h0
        replace h1 := Lib.hid h1
        replace h2 := Lib.hid h2
        replace h3 := Lib.hid h3
        replace h4 := Lib.hid h4
        replace h5 := Lib.hid h5
        replace h6 := Lib.hid h6
        replace h7 := Lib.hid h7
        replace h8 := Lib.hid h8
        go_simp
        exact hK.out _ _ ⟨_, _, _, _, _, _, _, _, _, by ((simp only [putAll, Act.put, List.setIfInBounds_toArray, List.set_cons_zero, List.set_cons_succ]) <;> rfl), h0.out, h1.out, h2.out, h3.out, (fun _ => rfl), h5.out, h6.out, h7.out, h8.out, hm⟩
      refine Steps.cons (i := 5) rfl ?_ ?_
      · rintro L a u ⟨x0, x1, x2, x3, x4, x5, x6, x7, x8, rfl, h0, h1, h2, h3, h4, h5, h6, h7, h8, hm⟩ hi hd K hK
        simp only [putAll, Act.put, List.setIfInBounds_toArray, List.set_cons_zero, List.set_cons_succ]
        (try simp [Region.binds] at hd)
        replace h0 := Lib.hid h0
        replace h1 := Lib.hid h1
        replace h2 := Lib.hid h2
        replace h3 := Lib.hid h3
        replace h4 := Lib.hid h4
        replace h5 := Lib.hid h5
        replace h6 := Lib.hid h6
        replace h7 := Lib.hid h7
        replace h8 := Lib.hid h8
        obtain rfl := (h4.out (by simp [hd])).symm
        have b0 : u.cell? ⟨B, 0, none⟩ = some (.int .i64 (k : Int)) := (HBX.out.st2 hm bne).cell 0
        go_simp
        exact hK.out _ _ ⟨_, _, _, _, _, _, _, _, _, by ((simp only [putAll, Act.put, List.setIfInBounds_toArray, List.set_cons_zero, List.set_cons_succ]) <;> rfl), h0.out, h1.out, h2.out, h3.out, h4.out, (fun _ => rfl), h6.out, h7.out, h8.out, hm⟩
      refine Steps.cons (i := 6) rfl ?_ ?_
      · rintro L a u ⟨x0, x1, x2, x3, x4, x5, x6, x7, x8, rfl, h0, h1, h2, h3, h4, h5, h6, h7, h8, hm⟩ hi hd K hK
        simp only [putAll, Act.put, List.setIfInBounds_toArray, List.set_cons_zero, List.set_cons_succ]
        (try simp [Region.binds] at hd)
        replace h0 := Lib.hid h0
        replace h1 := Lib.hid h1
        replace h2 := Lib.hid h2
        replace h3 := Lib.hid h3
        replace h4 := Lib.hid h4
        replace h5 := Lib.hid h5
        replace h6 := Lib.hid h6
        replace h7 := Lib.hid h7
        replace h8 := Lib.hid h8
        go_simp
        exact hK.out _ _ ⟨_, _, _, _, _, _, _, _, _, by ((simp only [putAll, Act.put, List.setIfInBounds_toArray, List.set_cons_zero, List.set_cons_succ]) <;> rfl), h0.out, h1.out, h2.out, h3.out, h4.out, h5.out, (fun _ => rfl), h7.out, h8.out, hm⟩
      refine Steps.cons (i := 7) rfl ?_ ?_
      · rintro L a u ⟨x0, x1, x2, x3, x4, x5, x6, x7, x8, rfl, h0, h1, h2, h3, h4, h5, h6, h7, h8, hm⟩ hi hd K hK
        simp only [putAll, Act.put, List.setIfInBounds_toArray, List.set_cons_zero, List.set_cons_succ]
        (try simp [Region.binds] at hd)
        replace h0 := Lib.hid h0
        replace h1 := Lib.hid h1
        replace h2 := Lib.hid h2
        replace h3 := Lib.hid h3
        replace h4 := Lib.hid h4
        replace h5 := Lib.hid h5
        replace h6 := Lib.hid h6
        replace h7 := Lib.hid h7
        replace h8 := Lib.hid h8
        obtain rfl := (h6.out (by simp [hd])).symm
        have hr := (HBX.out.st2 hm bne).range 1 (sc ps) (by rw [sc_len, HPS.out]; exact List.take_of_length_le (by simp [wc, sc_len, HPS.out]))
        rw [if_pos (by rfl)]
        refine wp_load_mid TS _ rfl B 1 rfl (sc ps) _ hr Tryd.underlying68 rfl (by rw [sc_len, HPS.out]; exact infoS) ?_
        exact hK.out _ _ ⟨_, _, _, _, _, _, _, _, _, by ((simp only [putAll, Act.put, List.setIfInBounds_toArray, List.set_cons_zero, List.set_cons_succ]) <;> rfl), h0.out, h1.out, h2.out, h3.out, h4.out, h5.out, h6.out, (fun _ => rfl), h8.out, hm⟩
      refine Steps.cons (i := 8) rfl ?_ ?_
      · rintro L a u ⟨x0, x1, x2, x3, x4, x5, x6, x7, x8, rfl, h0, h1, h2, h3, h4, h5, h6, h7, h8, hm⟩ hi hd K hK
        simp only [putAll, Act.put, List.setIfInBounds_toArray, List.set_cons_zero, List.set_cons_succ]
        (try simp [Region.binds] at hd)
        replace h0 := Lib.hid h0
        replace h1 := Lib.hid h1
        replace h2 := Lib.hid h2
        replace h3 := Lib.hid h3
        replace h4 := Lib.hid h4
        replace h5 := Lib.hid h5
        replace h6 := Lib.hid h6
        replace h7 := Lib.hid h7
        replace h8 := Lib.hid h8
        obtain rfl := (h3.out (by simp [hd])).symm
        obtain rfl := (h5.out (by simp [hd])).symm
        go_simp
        exact hK.out _ _ ⟨_, _, _, _, _, _, _, _, _, by ((simp only [putAll, Act.put, List.setIfInBounds_toArray, List.set_cons_zero, List.set_cons_succ]) <;> rfl), h0.out, h1.out, h2.out, h3.out, h4.out, h5.out, h6.out, h7.out, (fun _ => rfl), hm⟩
      refine Steps.cons (i := 9) rfl ?_ ?_
      · rintro L a u ⟨x0, x1, x2, x3, x4, x5, x6, x7, x8, rfl, h0, h1, h2, h3, h4, h5, h6, h7, h8, hm⟩ hi hd K hK
        simp only [putAll, Act.put, List.setIfInBounds_toArray, List.set_cons_zero, List.set_cons_succ]
        (try simp [Region.binds] at hd)
        replace h0 := Lib.hid h0
        replace h1 := Lib.hid h1
        replace h2 := Lib.hid h2
        replace h3 := Lib.hid h3
        replace h4 := Lib.hid h4
        replace h5 := Lib.hid h5
        replace h6 := Lib.hid h6
        replace h7 := Lib.hid h7
        replace h8 := Lib.hid h8
        obtain rfl := (h7.out (by simp [hd])).symm
        obtain rfl := (h8.out (by simp [hd])).symm
        have hu : u = W5.drew := by
          rcases hm with ⟨_, h⟩ | ⟨h, _⟩
          · exact h
          · rw [hi] at h; cases h
        subst hu
        rw [if_pos (by rfl)]
        refine wp_store_mid TS _ _ rfl bd (k * 64) (sc ps).toArray rfl rfl ?_ ?_ (all_oneCell_toArray sc_one) ?_
        · (rw [List.size_toArray, sc_len, HPS.out]; exact HTH.out)
        · (rw [List.size_toArray, sc_len, HPS.out]; exact infoS)
        exact hK.out _ _ ⟨_, _, _, _, _, _, _, _, _, by ((simp only [putAll, Act.put, List.setIfInBounds_toArray, List.set_cons_zero, List.set_cons_succ]) <;> rfl), h0.out, h1.out, h2.out, h3.out, h4.out, h5.out, h6.out, h7.out, h8.out, .inr ⟨rfl, rfl⟩⟩
      · exact Steps.nil
      · rintro L a u ⟨x0, x1, x2, x3, x4, x5, x6, x7, x8, rfl, h0, h1, h2, h3, h4, h5, h6, h7, h8, hm⟩ hall
        rcases hm with ⟨h, _⟩ | ⟨_, rfl⟩
        · rw [hall 9 (by decide)] at h; cases h
        simp only [putAll, Act.put, List.setIfInBounds_toArray, List.set_cons_zero, List.set_cons_succ]
        have h6 := A5.out.drew.setD' (puts_take_64 HX.out j) k HD.out ps HPS.out
        rw [← HTK.out] at h6
        go_wp2_with fail
        go_roundw
        case rel => exact ⟨j + 1, by omega, by go_num, h6, K5.out.drew.setCells bd (k * 64) _ (.inl (.inr (.inr (.inl rfl))))⟩
        case measure => simp [intOf]; omega
    · obtain rfl : j = x.P.length := by omega
      have c2 : wr.cell? ⟨g, 2, none⟩ = some (.slice ap x.P.length cap) := A2.out.c2
      have f2 : wr.frozen? ⟨g, 2, none⟩ = false := A2.out.blk.frozen 2
      go_wp2_with fail
      go_ret
      have h5 := A2.out.noP
      rw [List.take_length] at h5
      refine ⟨rfl, _, fv, h5, K2.out.setCell g 2 _ (.inl (.inl rfl)), ?_⟩
      rintro i (rfl | rfl | rfl | hi | hi)
      · exact .inl (.inl rfl)
      · exact .inl (.inr (.inl rfl))
      · exact .inl (.inr (.inr (.inl rfl)))
      · cases hi
      · exact .inl (.inr (.inr (.inr (.inr hi))))
end Go.Proofs.YtjlncjabiofklaaDoor.Dv
