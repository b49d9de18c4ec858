/- Package chart: set, of a code that is new. -/
import Derived.Test.YtialclecoamobaaChIns
import Derived.Deep.LoopGhost
import Derived.Maps.AppendAt
namespace Go.Proofs.Ytialclecoamobaa.Ch
open Go Go.RowKit Ck Go.Maps
section
variable {w : World} {c bm n : Nat} {tv : Value} {M : Int → Option Acc} {K : List Int}
theorem own_form {base : Nat} {u : World} {v : Value} {N : Nat} {xs : List Value} (h : u.ownsRow base TInt 1 v N xs) : ∃ a cap, v = .slice a N cap := by
  rcases h.2 with ⟨rfl, rfl⟩ | ⟨g, cap, cur, rfl, _⟩
  · exact ⟨none, 0, rfl⟩
  · exact ⟨_, cap, rfl⟩
theorem own_at {base : Nat} {u : World} {v : Value} {L : List Int} (h : u.ownsRow base TInt 1 v L.length (L.map iv)) {i : Nat} (hi : i < L.length) : ∃ g cap, v = .slice (some ⟨g, 0, none⟩) L.length cap ∧ u.cell? ⟨g, i, none⟩ = some (iv L[i]) := by
  rcases h.2 with ⟨_, h0⟩ | ⟨g, cap, cur, rfl, _, hg, _, _, _, ht⟩
  · omega
  · refine ⟨g, cap, rfl, ?_⟩
    have e : cur.toList[i]? = some (iv L[i]) := by
      have := congrArg (fun l => l[i]?) ht
      simp only [Nat.mul_one] at this
      rw [List.getElem?_take_of_lt hi] at this
      rw [this]; simp [hi]
    simp only [World.cell?, hg]
    simpa using e
set_option maxRecDepth 100000 in
set_option maxHeartbeats 3200000 in
theorem set_new (h : At w c bm tv n M K) (k : Int) (x : Acc) (hk : I64 k) (hn : n < 1000000) (hK9 : K.length ≤ 1000000) (hM : (M k).isSome = false) : Calls Try.prog 28 #[.pointer (some ⟨c, 0, none⟩), .int .i64 k, x.val] w (SetRes c bm n tv M K k x w) := by
  have H := Lib.hid h
  have hkey := key_of hk
  obtain ⟨i0, hi0, hz0, hz1, hz2⟩ := info_parts infoInt
  have HNK : Hid (∀ j (hj : j < K.length), K[j] ≠ k) := fun j hj e => by
    have := (h.ks.mem k).1 (e ▸ List.getElem_mem hj)
    rw [hM] at this
    cases this
  have HUP := Lib.hid h.ks.up
  obtain ⟨D, h1, h2⟩ := h.mp
  have hown := Lib.hid h1
  have HA := Lib.hid h2
  obtain ⟨y, hy⟩ : ∃ y, y = (M k).getD Acc.zero := ⟨_, rfl⟩
  have HX : Hid (∀ v ps, accR v = some (D.atKey (.int .i64 k) Acc.zero.dat, ps) → v = y.val) := fun v ps hv => by
    rw [h2.at', ← hy] at hv
    exact accR_inv hv
  have HQ : Hid (Maps.has D (.int .i64 k) = false) := by show _ = _; rw [h2.has, hM]
  have c0 : w.cell? ⟨c, 0, none⟩ = some (.map (some bm)) := h.blk.cell 0
  have hlt := h.blk.lt
  have HK := Lib.hid hk
  clear h h1 h2 hy hM hk
  obtain ⟨ya, yb, yc, ys, yd, ye, yf⟩ := y
  obtain ⟨xa, xb, xc, xs, xd, xe, xf⟩ := x
  unfold Acc.val at HX ⊢
  simp only at HX ⊢
  go_enter Try.func28, Try.ntmps28
  go_upto_region 3 with (at_lookup; refine wpList_lookup_own_ok _ rfl _ _ TMap rfl TInt TAcc law Try.underlying48 accR (zeroA _) Acc.zero.dat [] (accR_val Acc.zero) bm n D rfl (hown.out.alloc _) _ _ rfl hkey ?_; intro v ps hv; obtain rfl := HX.out v ps hv; rw [HQ.out])
  have HB2 : Hid (Below w.heap.size w ((w.alloc (.cells #[.int .i64 xa, .int .i64 xb, .int .u8 xc, .string xs, .bool xd, .int .i64 xe, .int .i64 xf] TAcc)).alloc (.cells #[.int .i64 ya, .int .i64 yb, .int .u8 yc, .string ys, .bool yd, .int .i64 ye, .int .i64 yf] TAcc))) := ((Below.refl _ w).alloc (Nat.le_refl _) _).alloc (by simp) _
  have RX : Hid (Rw ((w.alloc (.cells #[.int .i64 xa, .int .i64 xb, .int .u8 xc, .string xs, .bool xd, .int .i64 xe, .int .i64 xf] TAcc)).alloc (.cells #[.int .i64 ya, .int .i64 yb, .int .u8 yc, .string ys, .bool yd, .int .i64 ye, .int .i64 yf] TAcc)) w.heap.size TAcc [.int .i64 xa, .int .i64 xb, .int .u8 xc, .string xs, .bool xd, .int .i64 xe, .int .i64 xf]) := (Rw.new w [.int .i64 xa, .int .i64 xb, .int .u8 xc, .string xs, .bool xd, .int .i64 xe, .int .i64 xf] TAcc).later ((Below.refl _ _).alloc (Nat.le_refl _) _)
  have H2 := Lib.hid (H.out.later HB2.out)
  have hown2 : Hid (((w.alloc (.cells #[.int .i64 xa, .int .i64 xb, .int .u8 xc, .string xs, .bool xd, .int .i64 xe, .int .i64 xf] TAcc)).alloc (.cells #[.int .i64 ya, .int .i64 yb, .int .u8 yc, .string ys, .bool yd, .int .i64 ye, .int .i64 yf] TAcc)).ownsMap Try.prog TInt accR bm n D) := (hown.out.alloc _).alloc _
  clear c0 hlt
  generalize ((w.alloc (.cells #[.int .i64 xa, .int .i64 xb, .int .u8 xc, .string xs, .bool xd, .int .i64 xe, .int .i64 xf] TAcc)).alloc (.cells #[.int .i64 ya, .int .i64 yb, .int .u8 yc, .string ys, .bool yd, .int .i64 ye, .int .i64 yf] TAcc)) = W2 at HB2 RX H2 hown2 ⊢
  have e1 : W2.cell? ⟨c, 1, none⟩ = some tv := H2.out.blk.cell 1
  obtain ⟨ta, tc, rfl⟩ := own_form H2.out.own
  go_cut [8] (fun s8 wx => s8 = .int .i64 (K.length : Int) ∧ W2 = wx)
  case first =>
    go_wp2_with fail
    go_meet
    exact ⟨rfl, rfl⟩
  obtain ⟨rfl, rfl⟩ := hcut
  rename_i hKK
  apply hKK
  refine wp_seq_k (fun K2 hK2 => ?_)
  go_cut [8] (fun s8 wx => ∃ a : Nat, s8 = .int .i64 (a : Int) ∧ a ≤ K.length ∧ Hid ((∀ j (h : j < K.length), j < a → K[j] < k) ∧ ∀ j (h : j < K.length), a ≤ j → k < K[j]) ∧ W2 = wx)
  case rest =>
    obtain ⟨a, rfl, ha, HAA, rfl⟩ := hcut
    apply hK2
    have f1 : W2.frozen? ⟨c, 1, none⟩ = false := H2.out.blk.frozen 1
    obtain ⟨n1, n2, n3⟩ := H2.out.ne
    have N1 := Lib.hid n1
    have N2 := Lib.hid n2
    have N3 := Lib.hid n3
    clear n1 n2 n3
    go_wp2_with (at_builtin; refine wpList_append_own_at _ rfl _ _ TInts rfl 0 TInt i0 (.int .i64 0) 1 8 Try.underlying41 hi0 hz0 hz1 hz2 rfl (by decide) _ _ _ rfl (own_later H2.out.own ((Below.refl _ W2).alloc (Nat.le_refl _) _)) ⟨W2.heap.size, 0, none⟩ 1 1 [iv k] rfl rfl (cell_one_new _ _ _) (by simp [Value.oneCell']) (by unfold maxLen; omega) (by omega) (Nat.zero_le _) ?_)
    intro v' w3 hown3 hgrow hnil hat
    have KG3 : Keeps (fun j => (Value.slice ta K.length tc).ownBlock = some j) W2 w3 := ((Keeps.refl (fun j => (Value.slice ta K.length tc).ownBlock = some j) W2).alloc _).grown hgrow fun j hj => .inl hj
    have RC3 := Lib.hid (H2.out.blk.keeps KG3 N2.out)
    have RX3 := Lib.hid (RX.out.keeps KG3 (own_type H2.out.own RX.out (by decide)))
    have OM3 := Lib.hid (map_keeps hown2.out KG3 N3.out)
    have HLT : Hid (c < w.heap.size) := H.out.blk.lt
    obtain ⟨g, cap, cur, hv', hg0, hN, hcap, hsz, htk⟩ : ∃ g cap cur, v' = (.slice (some ⟨g, 0, none⟩) (K.length + 1) cap) ∧ w3.heap[g]? = some (.cells cur TInt (0, 0)) ∧ K.length + 1 ≤ cap ∧ cap ≤ maxLen ∧ cur.size = cap ∧ cur.toList.take (K.length + 1) = (K ++ [k]).map iv := by
      rcases hown3.2 with ⟨_, h0⟩ | ⟨g, cap, cur, h1, _, h2, h3, h4, h5, h6⟩
      · omega
      · exact ⟨g, cap, cur, h1, h2, h3, h4, by omega, by rw [List.map_append]; simpa using h6⟩
    subst hv'
    have RG3 : Hid (Rw w3 g TInt cur.toList) := by show w3.heap[g]? = _; rw [hg0]
    have NGC : Hid (g ≠ c) := fun e => by
      have h1 : w3.heap[c]? = some (.cells [Value.map (some bm), Value.slice ta K.length tc].toArray TCh (0, 0)) := RC3.out
      rw [e] at hg0
      have := h1.symm.trans hg0
      injection this with this
      injection this with _ h2
      exact absurd h2 (by decide)
    have NGX : Hid (g ≠ w.heap.size) := fun e => by
      have h1 : w3.heap[w.heap.size]? = _ := RX3.out
      rw [e] at hg0
      have := h1.symm.trans hg0
      injection this with this
      injection this with _ h2
      exact absurd h2 (by decide)
    have NGM : Hid (g ≠ bm) := fun e => by
      obtain ⟨es, clock, hb, _⟩ := OM3.out
      rw [e] at hg0
      have := hb.symm.trans hg0
      injection this with this
      cases this
    have HAT : Hid (Bs c bm (Value.slice ta K.length tc) g ∨ w.heap.size ≤ g) := by
      rcases hat with ha | ha
      · exact .inl (.inr (.inr (by rw [← ha]; rfl)))
      · have e2 : g = (W2.alloc (.cells #[iv k] TInt)).heap.size := by simpa [Value.ownBlock] using ha
        have := HB2.out.size
        exact .inr (by rw [e2]; simp; omega)
    have e3 : w3.cell? ⟨c, 1, none⟩ = some (.slice ta K.length tc) := RC3.out.cell 1
    have f3 : w3.frozen? ⟨c, 1, none⟩ = false := RC3.out.frozen 1
    have RC4 : Hid (Rw (w3.setCell ⟨c, 1, none⟩ (.slice (some ⟨g, 0, none⟩) (K.length + 1) cap)) c TCh [.map (some bm), (.slice (some ⟨g, 0, none⟩) (K.length + 1) cap)]) := RC3.out.setCell 1 _
    have RX4 : Hid (Rw (w3.setCell ⟨c, 1, none⟩ (.slice (some ⟨g, 0, none⟩) (K.length + 1) cap)) w.heap.size TAcc [.int .i64 xa, .int .i64 xb, .int .u8 xc, .string xs, .bool xd, .int .i64 xe, .int .i64 xf]) := RX3.out.otherCell c 1 _ (by have := HLT.out; omega)
    have RG4 : Hid (Rw (w3.setCell ⟨c, 1, none⟩ (.slice (some ⟨g, 0, none⟩) (K.length + 1) cap)) g TInt cur.toList) := RG3.out.otherCell c 1 _ NGC.out
    have OM4 : Hid ((w3.setCell ⟨c, 1, none⟩ (.slice (some ⟨g, 0, none⟩) (K.length + 1) cap)).ownsMap Try.prog TInt accR bm n D) := OM3.out.setCell (fun e => N1.out e.symm) _
    have KB4 : Hid (Keeps (Bs c bm (Value.slice ta K.length tc)) W2 (w3.setCell ⟨c, 1, none⟩ (.slice (some ⟨g, 0, none⟩) (K.length + 1) cap))) := (KG3.mono fun j hj => .inl (.inr (.inr hj))).setCell c 1 _ (.inl (.inl rfl))
    have HTK := Lib.hid htk
    have HSZ := Lib.hid hsz
    clear KG3 hown3 hgrow hnil hat hg0 hsz htk e1 f1
    go_upto_region 7 with (fail)
    clear e3 f3 RC3 RX3 OM3 RG3
    generalize w3.setCell ⟨c, 1, none⟩ (.slice (some ⟨g, 0, none⟩) (K.length + 1) cap) = W4 at RC4 RX4 RG4 OM4 KB4 ⊢
    go_cut [8] (fun s8 wx => s8 = .int .i64 (a : Int) ∧ ∃ L5 : List Value, L5.length = cap ∧ Hid (Rw wx g TInt L5) ∧ Hid ((L5.set a (iv k)).take (K.length + 1) = (ins K a k).map iv) ∧ Hid (Keeps (fun j => j = g) W4 wx))
    case first =>
      have q1 : W4.cell? ⟨c, 1, none⟩ = some (.slice (some ⟨g, 0, none⟩) (K.length + 1) cap) := RC4.out.cell 1
      have hs1 := fun u => slice_ints g (K.length + 1) cap (a + 1) (by omega) hN u
      have hs2 := fun u => slice_ints g (K.length + 1) cap a (by omega) hN u
      rw [show ((a + 1 : Nat) : Int) = (a : Int) + 1 by omega] at hs1
      have hw : IntKind.i64.wrap ((a : Int) + 1) = (a : Int) + 1 := IntWalk.i64_in _ ⟨by omega, by omega⟩
      by_cases hlt : a < K.length
      · rw [if_neg (by omega)] at hs1 hs2
        have HGG : Hid (W4.drew.heap[g]? = some (.cells cur TInt (0, 0))) := by
          have : W4.heap[g]? = some (.cells cur.toList.toArray TInt (0, 0)) := RG4.out
          show W4.heap[g]? = _
          rw [this]
        have HLEN : Hid (((K.drop a).map iv).length = Nat.min (K.length + 1 - a) (K.length - a)) := by
          show _ = _
          rw [List.length_map, List.length_drop]
          show _ = min _ _
          omega
        have HLEN2 : Hid (((K.drop a).map iv).length = Nat.min (K.length + 1 - a) (K.length + 1 - (a + 1))) := by
          show _ = _
          rw [List.length_map, List.length_drop]
          show _ = min _ _
          omega
        have HSRC : Hid (∀ (j : Nat) (v : Value), ((K.drop a).map iv)[j]? = some v → W4.drew.cell? ((⟨g, a, none⟩ : Addr).add j) = some v) := fun j v hv => by
          have hj : j < K.length - a := by
            have := (List.getElem?_eq_some_iff.1 hv).1
            simpa using this
          rw [Go.WideShapes.add_plain]
          show W4.cell? ⟨g, a + j, none⟩ = some v
          rw [RG4.out.cell, ← hv]
          have e : cur.toList[a + j]? = ((K ++ [k]).map iv)[a + j]? := by rw [← HTK.out, List.getElem?_take_of_lt (by omega)]
          rw [e, List.getElem?_map, List.getElem?_map, List.getElem?_drop, List.getElem?_append_left (by omega)]
        have HFIT : Hid (a + 1 + ((K.drop a).map iv).length ≤ cur.size) := by
          show _ ≤ _
          rw [List.length_map, List.length_drop, HSZ.out]
          omega
        have HONE : Hid (∀ v ∈ (K.drop a).map iv, v.oneCell' = true) := fun v hv => by
          obtain ⟨q, _, rfl⟩ := List.mem_map.1 hv
          rfl
        have HFIN : Hid (∃ L5 : List Value, L5.length = cap ∧ Hid (Rw (W4.drew.setRow g (cur.toList.take (a + 1) ++ ((K.drop a).map iv ++ cur.toList.drop (a + 1 + ((K.drop a).map iv).length))).toArray) g TInt L5) ∧ Hid ((L5.set a (iv k)).take (K.length + 1) = (ins K a k).map iv) ∧ Hid (Keeps (fun j => j = g) W4 (W4.drew.setRow g (cur.toList.take (a + 1) ++ ((K.drop a).map iv ++ cur.toList.drop (a + 1 + ((K.drop a).map iv).length))).toArray))) := by
          refine ⟨splice cur.toList (a + 1) ((K.drop a).map iv), ?_, setRow_heap W4.drew g cur _ TInt (0, 0) HGG.out, ins_take ha (by simp [HSZ.out]; omega) HTK.out, ?_⟩
          · rw [length_splice _ _ _ (by have := HFIT.out; simpa using this)]
            simp [HSZ.out]
          · exact (Keeps.refl (fun j => j = g) W4).drew.then (S := fun j => j = g) ⟨rfl, rfl, rfl, by simp [World.setRow], fun q hq hne => setRow_other _ _ _ _ hne⟩ fun j hj => .inl hj
        clear hlt
        go_still_tail 13, (by kernel_rfl)
        change wpList _ _ _ _ _ W4.drew
        refine wpList_copy_own rfl _ _ TInts TInts rfl TInt Try.underlying41 (by kernel_rfl) g (a + 1) _ _ ⟨g, a, none⟩ _ _ rfl rfl cur TInt HGG.out ((K.drop a).map iv) (by first | exact HLEN.out | exact HLEN2.out) HSRC.out HFIT.out HONE.out ?_
        go_wp2_with fail
        go_meet
        exact ⟨rfl, HFIN.out⟩
      · obtain rfl : a = K.length := by omega
        rw [if_neg (by omega)] at hs2
        obtain ⟨dp, hdp⟩ : ∃ dp, dp = (if cap = K.length + 1 then some (⟨g, 0, none⟩ : Addr) else some ⟨g, K.length + 1, none⟩) := ⟨_, rfl⟩
        rw [← hdp] at hs1
        have HFIN : Hid (∃ L5 : List Value, L5.length = cap ∧ Hid (Rw W4.drew g TInt L5) ∧ Hid ((L5.set K.length (iv k)).take (K.length + 1) = (ins K K.length k).map iv) ∧ Hid (Keeps (fun j => j = g) W4 W4.drew)) := by
          refine ⟨cur.toList, by simp [HSZ.out], RG4.out, ?_, (Keeps.refl (fun j => j = g) W4).drew⟩
          have := ins_take (a := K.length) (Nat.le_refl _) (by simp [HSZ.out]; omega) HTK.out
          rw [List.drop_length, List.map_nil, splice_nil] at this
          exact this
        clear hdp hlt
        go_still_tail 13, (by kernel_rfl)
        change wpList _ _ _ _ _ W4.drew
        refine wpList_copy_nothing rfl _ _ TInts TInts rfl TInt Try.underlying41 (by kernel_rfl) _ _ _ _ _ _ rfl rfl (by first | rfl | simp | omega) ?_
        go_wp2_with fail
        go_meet
        exact ⟨rfl, HFIN.out⟩
    obtain ⟨rfl, L5, hL5, RG5, HT5, KG5⟩ := hcut
    rename_i hK7
    apply hK7
    have RC5 := Lib.hid (RC4.out.keeps KG5.out NGC.out.symm)
    have RX5 := Lib.hid (RX4.out.keeps KG5.out NGX.out.symm)
    have OM5 := Lib.hid (map_keeps OM4.out KG5.out NGM.out.symm)
    have q1 : wc.cell? ⟨c, 1, none⟩ = some (.slice (some ⟨g, 0, none⟩) (K.length + 1) cap) := RC5.out.cell 1
    have q2 : wc.cell? ⟨g, a, none⟩ = some (L5[a]'(by omega)) := by rw [RG5.out.cell]; simp
    have q3 := RG5.out.frozen a
    have a1 : (0 : Int) ≤ (a : Int) := by omega
    have a2 : (a : Int) < (K.length : Int) + 1 := by omega
    have RG6 : Hid (Rw (wc.setCell ⟨g, a, none⟩ (iv k)) g TInt (L5.set a (iv k))) := RG5.out.setCell a _
    have RC6 : Hid (Rw (wc.setCell ⟨g, a, none⟩ (iv k)) c TCh [.map (some bm), (.slice (some ⟨g, 0, none⟩) (K.length + 1) cap)]) := RC5.out.otherCell g a _ NGC.out.symm
    have RX6 : Hid (Rw (wc.setCell ⟨g, a, none⟩ (iv k)) w.heap.size TAcc [.int .i64 xa, .int .i64 xb, .int .u8 xc, .string xs, .bool xd, .int .i64 xe, .int .i64 xf]) := RX5.out.otherCell g a _ NGX.out.symm
    have OM6 : Hid ((wc.setCell ⟨g, a, none⟩ (iv k)).ownsMap Try.prog TInt accR bm n D) := OM5.out.setCell NGM.out.symm _
    have KG6 : Hid (Keeps (fun j => j = g) W4 (wc.setCell ⟨g, a, none⟩ (iv k))) := KG5.out.setCell g a _ (.inl rfl)
    go_upto_region 9 with (fail)
    clear q1 q2 q3 RC5 RX5 OM5 RG5
    generalize wc.setCell ⟨g, a, none⟩ (iv k) = W6 at RG6 RC6 RX6 OM6 KG6 ⊢
    have d0 : W6.cell? ⟨w.heap.size, 0, none⟩ = some (.int .i64 xa) := RX6.out.cell 0
    have d1 : W6.cell? ⟨w.heap.size, 1, none⟩ = some (.int .i64 xb) := RX6.out.cell 1
    have d2 : W6.cell? ⟨w.heap.size, 2, none⟩ = some (.int .u8 xc) := RX6.out.cell 2
    have d3 : W6.cell? ⟨w.heap.size, 3, none⟩ = some (.string xs) := RX6.out.cell 3
    have d4 : W6.cell? ⟨w.heap.size, 4, none⟩ = some (.bool xd) := RX6.out.cell 4
    have d5 : W6.cell? ⟨w.heap.size, 5, none⟩ = some (.int .i64 xe) := RX6.out.cell 5
    have d6 : W6.cell? ⟨w.heap.size, 6, none⟩ = some (.int .i64 xf) := RX6.out.cell 6
    have e0 : W6.cell? ⟨c, 0, none⟩ = some (.map (some bm)) := RC6.out.cell 0
    go_still_tail 6, (by kernel_rfl)
    change wpList _ _ _ _ _ W6.drew
    clear d0 d1 d2 d3 d4 d5 d6 e0
    go_wp2_with (at_mapUpdate; refine wpList_mapUpdate_in _ rfl _ _ _ TMap rfl TInt TAcc law Try.underlying48 accR bm n D rfl (OM6.out.drew) (by unfold maxLen; omega) _ _ _ rfl rfl hkey (Acc.dat ⟨xa, xb, xc, xs, xd, xe, xf⟩) [] rfl ?_; intro w1 hown1 hturn1)
    refine bodyPost_ret (results_none rfl _ _ _) rfl ?_
    have hg := hturn1.grown
    have KB : Keeps (fun j => j = bm) W6 w1 := ((Keeps.refl (fun j => j = bm) W6).drew).grown hg fun j hj => by cases hj; exact .inl rfl
    have HOWN : w1.ownsRow 0 TInt 1 (.slice (some ⟨g, 0, none⟩) (K.length + 1) cap) (K.length + 1) ((ins K a k).map iv) := by
      refine ⟨by rw [List.length_map, ins_len, Nat.mul_one], .inr ⟨g, cap, (L5.set a (iv k)).toArray, rfl, Nat.zero_le _, RG6.out.keeps KB NGM.out, hN, hcap, by simp [hL5], ?_⟩⟩
      rw [Nat.mul_one]
      simpa using HT5.out
    have HKS : Ks (upd M k ⟨xa, xb, xc, xs, xd, xe, xf⟩) (ins K a k) := by
      refine H.out.ks.new _ (fun q hq => ?_) (fun q hq => ?_)
      · obtain ⟨j, hj, rfl⟩ := List.getElem_of_mem hq
        rw [List.length_take] at hj
        rw [List.getElem_take]
        exact HAA.out.1 j (by omega) (by omega)
      · obtain ⟨j, hj, rfl⟩ := List.getElem_of_mem hq
        rw [List.length_drop] at hj
        rw [List.getElem_drop]
        exact HAA.out.2 (a + j) (by omega) (by omega)
    have KALL : Keeps (Bs c bm (Value.slice ta K.length tc)) w w1 := by
      have e1 := (Keeps.of (Bs c bm (Value.slice ta K.length tc)) HB2.out).then KB4.out fun j hj => .inl hj
      have e2 := e1.then KG6.out fun j hj => by rw [hj]; exact HAT.out
      exact e2.then KB fun j hj => by rw [hj]; exact .inl (.inr (.inl rfl))
    refine ⟨rfl, .slice (some ⟨g, 0, none⟩) (K.length + 1) cap, ins K a k, ⟨RC6.out.keeps KB N1.out, ⟨_, hown1, HA.out.put k ⟨xa, xb, xc, xs, xd, xe, xf⟩⟩, ?_, HKS⟩, Nat.le_of_eq (ins_len K a k), KALL, fun j hj => ?_⟩
    · rw [ins_len]; exact HOWN
    · rcases hj with hj | hj | hj
      · exact .inl (.inl hj)
      · exact .inl (.inr (.inl hj))
      · obtain rfl : g = j := by simpa [Value.ownBlock] using hj
        exact HAT.out
  go_wp2_with fail
  go_loopg [8] K.length (fun kx s8 wr => ∃ i : Nat, s8 = .int .i64 (i : Int) ∧ i ≤ K.length ∧ Hid (∀ j (h : j < K.length), i ≤ j → k < K[j]) ∧ Hid (W2 = wr) ∧ i ≤ kx)
  case atStart => exact ⟨K.length, rfl, Nat.le_refl _, fun j h hj => absurd hj (by omega), rfl, Nat.le_refl _⟩
  case round =>
    obtain ⟨i, rfl, hi, HJ, HW, hkx⟩ := hrel
    obtain rfl := HW.out
    by_cases hp : 0 < i
    · obtain ⟨m, rfl⟩ : ∃ m, i = m + 1 := ⟨i - 1, by omega⟩
      have hm : m < K.length := by omega
      obtain ⟨g, cap, ev, hc⟩ := own_at H2.out.own hm
      obtain ⟨rfl, rfl⟩ : ta = some ⟨g, 0, none⟩ ∧ tc = cap := by simpa using ev
      have hw1 : IntKind.i64.wrap (((m + 1 : Nat) : Int) - 1) = (m : Int) := by rw [show ((m + 1 : Nat) : Int) - 1 = (m : Int) by omega]; exact IntWalk.i64_in _ ⟨by omega, by omega⟩
      obtain ⟨z, hz⟩ : ∃ z, z = K[m] := ⟨_, rfl⟩
      rw [← hz] at hc
      have HZ := Lib.hid hz
      have i0' : (0 : Int) < ((m + 1 : Nat) : Int) := by omega
      have m0 : (0 : Int) ≤ (m : Int) := by omega
      have m1 : (m : Int) < (K.length : Int) := by omega
      clear hz ev hp
      by_cases hgt : k < z
      · have HJ2 : Hid (∀ j (h : j < K.length), m ≤ j → k < K[j]) := fun j h hj => by
          by_cases e : m + 1 ≤ j
          · exact HJ.out j h e
          · obtain rfl : j = m := by omega
            rw [← HZ.out]; exact hgt
        go_wp2_with fail
        go_roundg m
        case measure => omega
        case rel => exact ⟨m, rfl, by omega, HJ2, rfl, Nat.le_refl _⟩
      · have HF : Hid ((∀ j (h : j < K.length), j < m + 1 → K[j] < k) ∧ ∀ j (h : j < K.length), m + 1 ≤ j → k < K[j]) := by
          refine ⟨fun j h hj => ?_, HJ.out⟩
          have hzk : z < k := by
            have := HNK.out m hm
            rw [← HZ.out] at this
            omega
          by_cases e : j = m
          · subst e; rw [← HZ.out]; exact hzk
          · have := up_le HUP.out (show j < m by omega) hm
            rw [← HZ.out] at this
            omega
        go_wp2_with fail
        go_meet
        exact ⟨m + 1, rfl, hi, HF, rfl⟩
    · obtain rfl : i = 0 := by omega
      have HF : Hid ((∀ j (h : j < K.length), j < 0 → K[j] < k) ∧ ∀ j (h : j < K.length), 0 ≤ j → k < K[j]) := ⟨fun j _ hj => absurd hj (by omega), HJ.out⟩
      clear hp
      go_wp2_with fail
      go_meet
      exact ⟨0, rfl, Nat.zero_le _, HF, rfl⟩
end
end Go.Proofs.Ytialclecoamobaa.Ch
