/- Package journal: slices.Clone of lines; Reverse. -/
import Derived.Test.YtnblilonjpfdnaaJnTot
import Derived.Test.YtnblilonjpfdnaaJcF
import Derived.BigQuiet
namespace Go.Proofs.Ytnblilonjpfdnaa.Jn
open Go Go.RowKit Ck
theorem flatL_get {L : List Ln} : ∀ {j : Nat} (hj : j < L.length) (o : Nat) (_ : o < 4), (flatL L)[j * 4 + o]? = L[j].cells[o]? := by
  induction L with
  | nil => intro j hj; exact absurd hj (by simp)
  | cons x L ih =>
    intro j hj o ho
    have e : flatL (x :: L) = .int .i64 x.acc :: .int .u64 x.cus :: .int .u64 x.con :: .int .i64 x.amt :: flatL L := rfl
    rw [e]
    cases j with
    | zero =>
      match o, ho with
      | 0, _ => rfl
      | 1, _ => rfl
      | 2, _ => rfl
      | 3, _ => rfl
    | succ j =>
      rw [show (j + 1) * 4 + o = (j * 4 + o) + 1 + 1 + 1 + 1 by omega, List.getElem?_cons_succ, List.getElem?_cons_succ, List.getElem?_cons_succ, List.getElem?_cons_succ, List.getElem_cons_succ]
      exact ih (by simpa using hj) o ho
theorem flatL_len (K : List Ln) : (flatL K).length = K.length * 4 := by
  unfold flatL
  induction K with
  | nil => rfl
  | cons x K ih => rw [List.flatMap_cons, List.length_append, ih]; simp [Ln.cells]; omega
theorem lns_news {w : World} {ab ao : Nat} {L : List Ln} (h : Lns w (some ⟨ab, ao, none⟩) L) : ∀ j u, (flatL L)[j]? = some u → w.cell? ((⟨ab, ao, none⟩ : Addr).add j) = some u := by
  intro j u hu
  have hj : j < L.length * 4 := by rw [← flatL_len]; exact (List.getElem?_eq_some_iff.1 hu).1
  obtain ⟨b, off, hb, _, hc⟩ := h (j / 4) (by omega)
  injection hb with hb
  injection hb with h1 h2 _
  subst h1 h2
  have h3 := flatL_get (L := L) (j := j / 4) (by omega) (j % 4) (by omega)
  rw [show j / 4 * 4 + j % 4 = j by omega, hu] at h3
  rw [Addr.add_lit, show ao + j = ao + j / 4 * 4 + j % 4 by omega]
  exact hc (j % 4) u h3.symm
theorem flatL_one (L : List Ln) : ∀ u ∈ flatL L, u.oneCell' = true := by
  intro u hu
  unfold flatL at hu
  obtain ⟨x, _, hx⟩ := List.mem_flatMap.1 hu
  simp [Ln.cells] at hx
  rcases hx with rfl | rfl | rfl | rfl <;> rfl
/-- Lines of one's own. -/
theorem lns_own {w : World} {base : Nat} {v : Value} {L : List Ln} (h : w.ownsRow base TLine 4 v L.length (flatL L)) : ∃ a cap, v = .slice a L.length cap ∧ Lns w a L ∧ L.length ≤ cap := by
  rcases h.2 with ⟨rfl, h0⟩ | ⟨g, cap, cur, rfl, _, hg, hc, _, _, ht⟩
  · exact ⟨none, 0, by rw [h0], fun j hj => absurd hj (by omega), by omega⟩
  · refine ⟨_, cap, rfl, fun j hj => ⟨g, 0, rfl, (Array.getElem?_eq_some_iff.1 hg).1, fun k u hu => ?_⟩, hc⟩
    have hk : k < 4 := (List.getElem?_eq_some_iff.1 hu).1
    have h1 := flatL_get hj k hk
    have h2 := congrArg (fun l => l[j * 4 + k]?) ht
    rw [List.getElem?_take_of_lt (by omega), h1, hu] at h2
    simp only [World.cell?, hg, Nat.zero_add]
    simpa using h2
def negTo (L : List Ln) (i : Nat) : List Ln := (L.take i).map Ln.neg ++ L.drop i
theorem negTo_len (L : List Ln) (i : Nat) : (negTo L i).length = L.length := by
  unfold negTo
  simp
  omega
theorem negTo_set : ∀ {L : List Ln} {i : Nat} (hi : i < L.length), (flatL (negTo L i)).set (i * 4 + 3) (.int .i64 (-L[i].amt)) = flatL (negTo L (i + 1))
  | x :: L, 0, _ => rfl
  | x :: L, i + 1, hi => by
    have e1 : flatL (negTo (x :: L) (i + 1)) = x.neg.cells ++ flatL (negTo L i) := rfl
    have e2 : flatL (negTo (x :: L) (i + 1 + 1)) = x.neg.cells ++ flatL (negTo L (i + 1)) := rfl
    rw [e1, e2, List.set_append_right _ _ (by simp [Ln.cells]; omega), show (i + 1) * 4 + 3 - x.neg.cells.length = i * 4 + 3 by simp [Ln.cells]; omega]
    congr 1
    exact negTo_set (by simpa using hi)
theorem negTo_get {L : List Ln} {i : Nat} (hi : i < L.length) : (flatL (negTo L i))[i * 4 + 3]? = some (.int .i64 L[i].amt) := by
  rw [flatL_get (by rw [negTo_len]; exact hi) 3 (by decide)]
  unfold negTo
  rw [List.getElem_append_right (by simp; omega)]
  simp [Nat.min_eq_left (Nat.le_of_lt hi), Ln.cells]
theorem negTo_done (L : List Ln) : negTo L L.length = L.map Ln.neg := by unfold negTo; simp
section
set_option maxRecDepth 100000
set_option maxHeartbeats 1600000
theorem clone_c (L : List Ln) (a : Option Addr) (cap : Nat) (w : World) (h : Lns w a L) (hl : L.length ≤ 1000000) (h0 : 0 < L.length) : Calls Try.prog 47 #[.slice a L.length cap] w fun e w' => ∃ v, e = .returned v ∧ w'.ownsRow w.heap.size TLine 4 v L.length (flatL L) ∧ Below w.heap.size w w' := by
  obtain ⟨ab, ao, rfl⟩ : ∃ ab ao, a = some ⟨ab, ao, none⟩ := by obtain ⟨b, o, h1, _⟩ := h 0 h0; exact ⟨b, o, h1⟩
  have H := Lib.hid h
  obtain ⟨i4, z4, hk0, hk1, hk2, hk3, hk4⟩ := info_ln
  have hbn : (binOp .eql TLines (.slice (some ⟨ab, ao, none⟩) L.length cap) (.slice none 0 0)).run Try.prog w = .ok (.bool false) w := by kernel_rfl
  have HL := Lib.hid hl
  have HFL : Hid ((flatL L).length = L.length * 4) := flatL_len L
  have HW1 : Hid (∀ j u, (flatL L)[j]? = some u → (w.alloc (.cells #[] TLine)).cell? ((⟨ab, ao, none⟩ : Addr).add j) = some u) := lns_news (h.later ((Below.refl _ w).alloc (Nat.le_refl _) _))
  have HO1 : Hid ((w.alloc (.cells #[] TLine)).ownsRow w.heap.size TLine 4 (.slice (some ⟨w.heap.size, 0, none⟩) 0 0) 0 []) := Ch.own_zero w TLine w.heap.size 4 (Nat.le_refl _)
  clear h h0 hl
  go_enter Try.func47, Try.ntmps47
  go_wp2_with (at_builtin; refine wpList_append_own_at _ rfl _ _ TLines rfl w.heap.size TLine i4 z4 4 32 Try.underlying23 hk0 hk1 hk2 hk3 hk4 (by decide) _ _ _ rfl HO1.out ⟨ab, ao, none⟩ L.length cap (flatL L) rfl HFL.out HW1.out (flatL_one L) (by have := HL.out; unfold maxLen; omega) (by have := HL.out; omega) (by simp) ?_)
  intro v2 W2 hown2 hg2 hnil2 hat2
  have hb1 : Below w.heap.size w (w.alloc (.cells #[] TLine)) := (Below.refl _ _).alloc (Nat.le_refl _) _
  have HB2 : Hid (Below w.heap.size w W2) := hb1.grown hg2 (by simp) (fun j hj => (HO1.out.lt j hj).1)
  have HO2 := Lib.hid hown2
  clear hown2 hg2 hnil2 hat2 hb1 hbn
  go_wp2_with fail
  go_ret
  exact ⟨_, rfl, HO2.out, HB2.out⟩
def zeroEn : Value := .agg #[.int .i64 0, .int .u8 0, .int .u64 0, .slice none 0 0]
/-- What Reverse leaves. -/
def RevRes (d k s : Int) (L : List Ln) (day : Int) (w : World) (e : Ending) (w' : World) : Prop := Below w.heap.size w w' ∧ ((chkM d k L ≠ 0 ∧ e = .returned (.tuple #[zeroEn, .int .i64 (chkM d k L)])) ∨ (chkM d k L = 0 ∧ dayB day = false ∧ e = .returned (.tuple #[zeroEn, .int .i64 2])) ∨ (chkM d k L = 0 ∧ dayB day = true ∧ ∃ v, e = .returned (.tuple #[.agg #[.int .i64 day, .int .u8 k, .int .u64 s, v], .int .i64 0]) ∧ w'.ownsRow w.heap.size TLine 4 v L.length (flatL (L.map Ln.neg))))
theorem infoEn : (Try.prog.info? TEn).map (·.size) = some 4 := by kernel_rfl
theorem reverse_c (d k s : Int) (L : List Ln) (a : Option Addr) (cap : Nat) (day : Int) (w : World) (h : Lns w a L) (hl : L.length ≤ 1000000) : Calls Try.prog 14 #[(.agg #[.int .i64 d, .int .u8 k, .int .u64 s, .slice a L.length cap]), .int .i64 day] w (RevRes d k s L day w) := by
  have H := Lib.hid h
  have HL := Lib.hid hl
  have HINF := Lib.hid infoEn
  have KD : Hid (∀ u, Calls Try.prog 46 #[.int .i64 day] u fun e w' => e = .returned (.bool (dayB day)) ∧ u = w') := fun u => day_c day u
  have HB0 : Hid (Below w.heap.size w ((w.alloc (.cells #[.int .i64 d, .int .u8 k, .int .u64 s, .slice a L.length cap] TEn)).alloc (.cells #[.int .i64 0, .int .u8 0, .int .u64 0, .slice none 0 0] TEn))) := ((Below.refl _ w).alloc (Nat.le_refl _) _).alloc (by simp) _
  have RE0 : Hid (Rw ((w.alloc (.cells #[.int .i64 d, .int .u8 k, .int .u64 s, .slice a L.length cap] TEn)).alloc (.cells #[.int .i64 0, .int .u8 0, .int .u64 0, .slice none 0 0] TEn)) w.heap.size TEn [.int .i64 d, .int .u8 k, .int .u64 s, .slice a L.length cap]) := (Rw.new w [.int .i64 d, .int .u8 k, .int .u64 s, .slice a L.length cap] TEn).later ((Below.refl _ _).alloc (Nat.le_refl _) _)
  have RZ0 : Hid (Rw ((w.alloc (.cells #[.int .i64 d, .int .u8 k, .int .u64 s, .slice a L.length cap] TEn)).alloc (.cells #[.int .i64 0, .int .u8 0, .int .u64 0, .slice none 0 0] TEn)) (w.heap.size + 1) TEn [.int .i64 0, .int .u8 0, .int .u64 0, .slice none 0 0]) := by
    have := Rw.new (w.alloc (.cells #[.int .i64 d, .int .u8 k, .int .u64 s, .slice a L.length cap] TEn)) [.int .i64 0, .int .u8 0, .int .u64 0, .slice none 0 0] TEn
    rwa [show (w.alloc (.cells #[.int .i64 d, .int .u8 k, .int .u64 s, .slice a L.length cap] TEn)).heap.size = w.heap.size + 1 by simp] at this
  clear h hl
  go_enter Try.func14, Try.ntmps14
  go_upto_region 1 with (fail)
  obtain ⟨lo, hlo⟩ : ∃ lo, lo = w.heap.size := ⟨_, rfl⟩
  have HLO := Lib.hid hlo
  rw [← hlo] at RE0 RZ0 HB0 ⊢
  clear hlo
  obtain ⟨bz, hbz⟩ : ∃ bz, bz = lo + 1 := ⟨_, rfl⟩
  rw [← hbz] at RZ0 ⊢
  have HBZ := Lib.hid hbz
  have HZL : Hid (lo ≤ bz) := by show _ ≤ _; omega
  clear hbz
  generalize (w.alloc (.cells #[.int .i64 d, .int .u8 k, .int .u64 s, .slice a L.length cap] TEn)).alloc (.cells #[.int .i64 0, .int .u8 0, .int .u64 0, .slice none 0 0] TEn) = W2 at HB0 RE0 RZ0 ⊢
  have KC := Lib.hid (check_c d k s L a cap W2 (H.out.later (by rw [← HLO.out]; exact HB0.out)) HL.out)
  obtain ⟨ch, hch⟩ : ∃ ch, ch = chkM d k L := ⟨_, rfl⟩
  rw [← hch] at KC
  have HCH := Lib.hid hch
  have e0 : W2.cell? ⟨lo, 0, none⟩ = some (.int .i64 d) := RE0.out.cell 0
  have e1 : W2.cell? ⟨lo, 1, none⟩ = some (.int .u8 k) := RE0.out.cell 1
  have e2 : W2.cell? ⟨lo, 2, none⟩ = some (.int .u64 s) := RE0.out.cell 2
  have e3 : W2.cell? ⟨lo, 3, none⟩ = some (.slice a L.length cap) := RE0.out.cell 3
  clear hch
  go_wp2_with fail
  refine KC.out.mono ?_
  rintro _ W3 ⟨rfl, hb3⟩
  have HB3 : Hid (Below lo w W3) := HB0.out.trans (hb3.mono (by rw [HLO.out]; exact HB0.out.size))
  have RE3 := Lib.hid (RE0.out.later hb3)
  have RZ3 := Lib.hid (RZ0.out.later hb3)
  clear e0 e1 e2 e3 hb3 HB0 RE0 RZ0 KC
  by_cases hc0 : ch = 0
  · subst hc0
    have HCK := Lib.hid (chk_ok' HCH.out.symm)
    have HLEN : Hid (2 ≤ L.length ∧ L.length ≤ 64) := by
      have := HCK.out.1
      unfold badB at this
      simp at this
      show _ ∧ _
      omega
    obtain ⟨dy, hdy⟩ : ∃ dy, dy = dayB day := ⟨_, rfl⟩
    rw [← hdy] at KD
    have HDY := Lib.hid hdy
    clear hdy
    go_wp2_with fail
    refine (KD.out _).mono ?_
    rintro _ _ ⟨rfl, rfl⟩
    clear KD
    cases dy with
    | false =>
      have R9 : Rw (W3.setCells bz 0 #[.int .i64 0, .int .u8 0, .int .u64 0, .slice none 0 0].toList) bz TEn [.int .i64 0, .int .u8 0, .int .u64 0, .slice none 0 0] := RZ3.out.setCells (cs := [.int .i64 0, .int .u8 0, .int .u64 0, .slice none 0 0]) 0 (by simp)
      have kp9 : Keeps (fun j => j = bz) W3 (W3.setCells bz 0 #[.int .i64 0, .int .u8 0, .int .u64 0, .slice none 0 0].toList) := (Keeps.refl (fun j => j = bz) _).setCells bz 0 _ (.inl rfl)
      have B9 : Below lo w (W3.setCells bz 0 #[.int .i64 0, .int .u8 0, .int .u64 0, .slice none 0 0].toList) := Keeps.belowT HB3.out kp9 (fun j hj => by rw [hj]; exact HZL.out) (by rw [HLO.out]; exact HB3.out.size)
      have RZ9 := Lib.hid R9
      have HB9 := Lib.hid B9
      have KP9 := Lib.hid kp9
      clear R9 B9 kp9
      go_wp2_with (with_reducible refine wpList_store_mid rfl TEn _ _ rfl bz 0 #[.int .i64 0, .int .u8 0, .int .u64 0, .slice none 0 0] rfl rfl ?thr ?inf ?one ?_)
      case thr => exact RZ3.out.there 0 4 (by simp)
      case inf => simpa using HINF.out
      case one => simp [Value.oneCell']
      generalize W3.setCells bz 0 #[.int .i64 0, .int .u8 0, .int .u64 0, .slice none 0 0].toList = W9 at RZ9 HB9 KP9 ⊢
      go_wp2_with fail
      have r0 : W9.cell? ⟨bz, 0, none⟩ = some (.int .i64 0) := RZ9.out.cell 0
      have r1 : W9.cell? ⟨bz, 1, none⟩ = some (.int .u8 0) := RZ9.out.cell 1
      have r2 : W9.cell? ⟨bz, 2, none⟩ = some (.int .u64 0) := RZ9.out.cell 2
      have r3 : W9.cell? ⟨bz, 3, none⟩ = some (.slice none 0 0) := RZ9.out.cell 3
      refine bodyPost_ret (v := .tuple #[.agg #[.int .i64 0, .int .u8 0, .int .u64 0, .slice none 0 0], .int .i64 2]) (by simp [results, Try.results14, go_sem, r0, r1, r2, r3]) rfl ?_
      exact ⟨by rw [← HLO.out]; exact HB9.out, .inr (.inl ⟨HCH.out.symm, HDY.out.symm, rfl⟩)⟩
    | true =>
      have e3 : W3.cell? ⟨lo, 3, none⟩ = some (.slice a L.length cap) := RE3.out.cell 3
      have f0 : W3.frozen? ⟨lo, 0, none⟩ = false := RE3.out.frozen 0
      have e0 : W3.cell? ⟨lo, 0, none⟩ = some (.int .i64 d) := RE3.out.cell 0
      go_upto_region 7 with (fail)
      have kp4 : Keeps (fun j => j = lo) W3 (W3.setCell ⟨lo, 0, none⟩ (.int .i64 day)) := (Keeps.refl (fun j => j = lo) _).setCell lo 0 _ (.inl rfl)
      have HB4 : Hid (Below lo w (W3.setCell ⟨lo, 0, none⟩ (.int .i64 day))) := Keeps.belowT HB3.out kp4 (fun j hj => by rw [hj]; exact Nat.le_refl _) (by rw [HLO.out]; exact HB3.out.size)
      have RE4 : Hid (Rw (W3.setCell ⟨lo, 0, none⟩ (.int .i64 day)) lo TEn [.int .i64 day, .int .u8 k, .int .u64 s, .slice a L.length cap]) := RE3.out.setCell 0 _
      have RZ4 := Lib.hid (RZ3.out.keeps kp4 (by have := HBZ.out; omega))
      generalize W3.setCell ⟨lo, 0, none⟩ (.int .i64 day) = W4 at HB4 RE4 RZ4 ⊢
      clear e3 f0 e0 kp4 HB3 RE3 RZ3
      have KL := Lib.hid (clone_c L a cap W4 (H.out.later (by rw [← HLO.out]; exact HB4.out)) HL.out (by have := HLEN.out; omega))
      have e3 : W4.cell? ⟨lo, 3, none⟩ = some (.slice a L.length cap) := RE4.out.cell 3
      go_wp2_with fail
      refine KL.out.mono ?_
      rintro _ W5 ⟨v, rfl, hown, hb5⟩
      have hown2 := own_low hown (by show lo + 2 ≤ _; have h1 := RZ4.out.lt; have h2 := HBZ.out; omega)
      have HB5 : Hid (Below lo w W5) := HB4.out.trans (hb5.mono (by rw [HLO.out]; exact HB4.out.size))
      have RE5 := Lib.hid (RE4.out.later hb5)
      have RZ5 := Lib.hid (RZ4.out.later hb5)
      obtain ⟨g, gc, hv⟩ : ∃ g gc, v = .slice (some ⟨g, 0, none⟩) L.length gc := by
        rcases hown.2 with ⟨_, h0⟩ | ⟨g, gc, cur, hv, _⟩
        · have := HLEN.out; omega
        · exact ⟨g, gc, hv⟩
      subst hv
      have HO5 := Lib.hid hown2
      have HG : Hid (lo + 2 ≤ g) := (HO5.out.lt g rfl).1
      clear e3 hb5 hown hown2 HB4 RE4 RZ4 KL
      have e3 : W5.cell? ⟨lo, 3, none⟩ = some (.slice a L.length cap) := RE5.out.cell 3
      have f3 : W5.frozen? ⟨lo, 3, none⟩ = false := RE5.out.frozen 3
      go_upto_region 8 with (fail)
      have kp6 : Keeps (fun j => j = lo) W5 (W5.setCell ⟨lo, 3, none⟩ (.slice (some ⟨g, 0, none⟩) L.length gc)) := (Keeps.refl (fun j => j = lo) _).setCell lo 3 _ (.inl rfl)
      have HB6 : Hid (Below lo w (W5.setCell ⟨lo, 3, none⟩ (.slice (some ⟨g, 0, none⟩) L.length gc))) := Keeps.belowT HB5.out kp6 (fun j hj => by rw [hj]; exact Nat.le_refl _) (by rw [HLO.out]; exact HB5.out.size)
      have RE6 : Hid (Rw (W5.setCell ⟨lo, 3, none⟩ (.slice (some ⟨g, 0, none⟩) L.length gc)) lo TEn [.int .i64 day, .int .u8 k, .int .u64 s, .slice (some ⟨g, 0, none⟩) L.length gc]) := RE5.out.setCell 3 _
      have RZ6 := Lib.hid (RZ5.out.keeps kp6 (by have := HBZ.out; omega))
      have HO6 := Lib.hid (own_keeps HO5.out kp6 (fun j hj e => by have e1 : j = lo := e; have e2 : g = j := Option.some.inj hj; have := HG.out; omega))
      generalize W5.setCell ⟨lo, 3, none⟩ (.slice (some ⟨g, 0, none⟩) L.length gc) = W6 at HB6 RE6 RZ6 HO6 ⊢
      clear e3 f3 kp6 HB5 RE5 RZ5 HO5
      have e3 : W6.cell? ⟨lo, 3, none⟩ = some (.slice (some ⟨g, 0, none⟩) L.length gc) := RE6.out.cell 3
      go_upto_region 9 with (fail)
      clear e3
      go_loopg [27] L.length (fun kx s27 wr => ∃ i : Nat, s27 = .int .i64 (i : Int) ∧ i ≤ L.length ∧ Hid (wr.ownsRow (lo + 2) TLine 4 (.slice (some ⟨g, 0, none⟩) L.length gc) L.length (flatL (negTo L i))) ∧ Hid (Rw wr lo TEn [.int .i64 day, .int .u8 k, .int .u64 s, .slice (some ⟨g, 0, none⟩) L.length gc]) ∧ Hid (Rw wr bz TEn [.int .i64 0, .int .u8 0, .int .u64 0, .slice none 0 0]) ∧ Hid (Below lo w wr) ∧ L.length ≤ i + kx)
      case atStart => exact ⟨0, rfl, Nat.zero_le _, HO6.out, RE6.out, RZ6.out, HB6.out, by omega⟩
      case round =>
        obtain ⟨i, rfl, hi9, HO, RE, RZ, HB, hkx⟩ := hrel
        by_cases hlt : i < L.length
        · have HGET : Hid ((flatL (negTo L i))[i * 4 + 3]? = some (.int .i64 L[i].amt)) := negTo_get hlt
          have HSET : Hid ((flatL (negTo L i)).set (i * 4 + 3) (.int .i64 (-L[i].amt)) = flatL (negTo L (i + 1))) := negTo_set hlt
          have HRG : Hid (-4611686018427387904 ≤ L[i].amt ∧ L[i].amt ≤ 4611686018427387904) := by
            have := okB_amt (List.all_eq_true.1 HCK.out.2.1 _ (List.getElem_mem hlt))
            exact ⟨this.2.1, this.2.2.1⟩
          obtain ⟨am, ham⟩ : ∃ am, am = L[i].amt := ⟨_, rfl⟩
          rw [← ham] at HGET HSET HRG
          have j0 : (0 : Int) ≤ (i : Int) := by omega
          have j1 : (i : Int) < (L.length : Int) := by omega
          have j2 : L.length ≤ 64 := HLEN.out.2
          have hw : IntKind.i64.wrap (-am) = -am := IntWalk.i64_in _ (by have := HRG.out; exact ⟨by omega, by omega⟩)
          have HLT := Lib.hid hlt
          have HKX := Lib.hid hkx
          clear ham hlt hkx
          have HGC : Hid (wr.cell? ⟨g, i * 4 + 3, none⟩ = some (.int .i64 am)) := by
            rcases HO.out.2 with ⟨h0, _⟩ | ⟨g', cap', cur, hv, _, hg, hc, _, _, ht⟩
            · cases h0
            · injection hv with h1 _ _
              injection h1 with h1
              injection h1 with h1 _ _
              subst h1
              have h2 := congrArg (fun l => l[i * 4 + 3]?) ht
              rw [List.getElem?_take_of_lt (by have := HLT.out; omega), HGET.out] at h2
              show World.cell? _ _ = _
              simp only [World.cell?, hg]
              simpa using h2
          have HGF : Hid (wr.frozen? ⟨g, i * 4 + 3, none⟩ = false) := by
            rcases HO.out.2 with ⟨h0, _⟩ | ⟨g', cap', cur, hv, _, hg, _⟩
            · cases h0
            · injection hv with h1 _ _
              injection h1 with h1
              injection h1 with h1 _ _
              subst h1
              show World.frozen? _ _ = _
              simp [World.frozen?, hg]
          have HNEX : Hid (∀ v : Value, Hid ((wr.drew.setCell ⟨g, i * 4 + 3, none⟩ v).cell? ⟨lo, 3, none⟩ = some (.slice (some ⟨g, 0, none⟩) L.length gc))) := fun v => by
            show _ = _
            rw [World.cell?_setCell_other _ _ _ _ (by simp; have := HG.out; omega)]
            exact RE.out.cell 3
          have HO2 : Hid ((wr.drew.setCell ⟨g, i * 4 + 3, none⟩ (.int .i64 (-am))).ownsRow (lo + 2) TLine 4 (.slice (some ⟨g, 0, none⟩) L.length gc) L.length (flatL (negTo L (i + 1)))) := by
            show World.ownsRow _ _ _ _ _ _ _
            rw [← HSET.out]
            exact Ch.own_set (w := wr.drew) HO.out (by rw [flatL_len, negTo_len]; have := HLT.out; omega) _
          have kp : Keeps (fun j => j = g) wr (wr.drew.setCell ⟨g, i * 4 + 3, none⟩ (.int .i64 (-am))) := (Keeps.refl (fun j => j = g) wr).drew.setCell g (i * 4 + 3) _ (.inl rfl)
          have RE2 := Lib.hid (RE.out.keeps kp (by have := HG.out; omega))
          have RZ2 := Lib.hid (RZ.out.keeps kp (by have h1 := HG.out; have h2 := HBZ.out; omega))
          have HB2 : Hid (Below lo w (wr.drew.setCell ⟨g, i * 4 + 3, none⟩ (.int .i64 (-am)))) := Keeps.belowT HB.out kp (fun j hj => by rw [hj]; have := HG.out; omega) (by rw [HLO.out]; exact HB.out.size)
          clear kp HO RZ HB HGET HSET
          go_upto_region 11 with (fail)
          refine wp_region_held_drew (S := (fun u => u.cell? ⟨lo, 3, none⟩ = some (.slice (some ⟨g, 0, none⟩) L.length gc))) (by kernel_rfl) ?_ (fun hHeld => ?_)
          · exact RE.out.cell 3
          refine wpAnyH_take (i := 0) (oi := { dst := some 30, op := Op.fieldAddr 25 (Operand.tmp 2) 3, type := 0, pos := "journal.go:132", after := #[], guard := none }) (v := (.pointer (some ⟨lo, 3, none⟩))) rfl (by kernel_rfl) (by kernel_rfl) (by kernel_rfl) (fun _ _ _ h => h) (Or.inl ⟨by rfl, ?_⟩) hHeld ?_
          · rintro u p0
            go_simp <;> first | rfl | kernel_rfl
          try simp only [Act.put, List.setIfInBounds_toArray, List.set_cons_zero, List.set_cons_succ]
          refine wpAnyH_take (i := 1) (oi := { dst := some 31, op := Op.load 23 (Operand.tmp 30), type := 23, pos := "journal.go:132", after := #[{ on := 0, ground := Ground.data }], guard := none }) (v := (.slice (some ⟨g, 0, none⟩) L.length gc)) rfl (by kernel_rfl) (by kernel_rfl) (by kernel_rfl) (fun _ _ _ h => h) (Or.inl ⟨by rfl, ?_⟩) hHeld ?_
          · rintro u p0
            go_simp <;> first | rfl | kernel_rfl
          try simp only [Act.put, List.setIfInBounds_toArray, List.set_cons_zero, List.set_cons_succ]
          refine wpAnyH_take (i := 2) (oi := { dst := some 32, op := Op.move (Operand.tmp 7), type := 3, pos := "journal.go:132", after := #[], guard := none }) (v := (.int .i64 (i : Int))) rfl (by kernel_rfl) (by kernel_rfl) (by kernel_rfl) (fun _ _ _ h => h) (Or.inl ⟨by rfl, ?_⟩) hHeld ?_
          · rintro u p0
            go_simp <;> first | rfl | kernel_rfl
          try simp only [Act.put, List.setIfInBounds_toArray, List.set_cons_zero, List.set_cons_succ]
          refine wpAnyH_take (i := 3) (oi := { dst := some 33, op := Op.fieldAddr 25 (Operand.tmp 2) 3, type := 0, pos := "journal.go:132", after := #[], guard := none }) (v := (.pointer (some ⟨lo, 3, none⟩))) rfl (by kernel_rfl) (by kernel_rfl) (by kernel_rfl) (fun _ _ _ h => h) (Or.inl ⟨by rfl, ?_⟩) hHeld ?_
          · rintro u p0
            go_simp <;> first | rfl | kernel_rfl
          try simp only [Act.put, List.setIfInBounds_toArray, List.set_cons_zero, List.set_cons_succ]
          refine wpAnyH_take (i := 4) (oi := { dst := some 34, op := Op.load 23 (Operand.tmp 33), type := 23, pos := "journal.go:132", after := #[{ on := 3, ground := Ground.data }], guard := none }) (v := (.slice (some ⟨g, 0, none⟩) L.length gc)) rfl (by kernel_rfl) (by kernel_rfl) (by kernel_rfl) (fun _ _ _ h => h) (Or.inl ⟨by rfl, ?_⟩) hHeld ?_
          · rintro u p0
            go_simp <;> first | rfl | kernel_rfl
          try simp only [Act.put, List.setIfInBounds_toArray, List.set_cons_zero, List.set_cons_succ]
          refine wpAnyH_take (i := 5) (oi := { dst := some 35, op := Op.move (Operand.tmp 7), type := 3, pos := "journal.go:132", after := #[], guard := none }) (v := (.int .i64 (i : Int))) rfl (by kernel_rfl) (by kernel_rfl) (by kernel_rfl) (fun _ _ _ h => h) (Or.inl ⟨by rfl, ?_⟩) hHeld ?_
          · rintro u p0
            go_simp <;> first | rfl | kernel_rfl
          try simp only [Act.put, List.setIfInBounds_toArray, List.set_cons_zero, List.set_cons_succ]
          refine wpAnyH_take (i := 6) (oi := { dst := some 36, op := Op.indexAddr 23 (Operand.tmp 34) (Operand.tmp 35), type := 0, pos := "journal.go:132", after := #[{ on := 4, ground := Ground.data }, { on := 5, ground := Ground.data }], guard := none }) (v := (.pointer (some ⟨g, 0 + i * 4, none⟩))) rfl (by kernel_rfl) (by kernel_rfl) (by kernel_rfl) (fun _ _ _ h => h) (Or.inl ⟨by rfl, ?_⟩) hHeld ?_
          · rintro u p0
            go_simp <;> first | rfl | kernel_rfl
          try simp only [Act.put, List.setIfInBounds_toArray, List.set_cons_zero, List.set_cons_succ]
          refine wpAnyH_take (i := 7) (oi := { dst := some 37, op := Op.fieldAddr 67 (Operand.tmp 36) 3, type := 0, pos := "journal.go:132", after := #[{ on := 6, ground := Ground.data }], guard := none }) (v := (.pointer (some ⟨g, 0 + i * 4 + 3, none⟩))) rfl (by kernel_rfl) (by kernel_rfl) (by kernel_rfl) (fun _ _ _ h => h) (Or.inl ⟨by rfl, ?_⟩) hHeld ?_
          · rintro u p0
            go_simp <;> first | rfl | kernel_rfl
          try simp only [Act.put, List.setIfInBounds_toArray, List.set_cons_zero, List.set_cons_succ]
          have q3 : wr.drew.cell? ⟨g, i * 4 + 3, none⟩ = some (.int .i64 am) := HGC.out
          have f3 : wr.drew.frozen? ⟨g, i * 4 + 3, none⟩ = false := HGF.out
          refine wpAnyH_ready (rs := [8]) (by kernel_rfl) (by simp) ?_
          refine AllReadyH.cons (o := { dst := some 38, op := Op.load 2 (Operand.tmp 37), type := 2, pos := "journal.go:132", after := #[{ on := 7, ground := Ground.data }], guard := none }) rfl (fun Kq hKq => ?_) AllReadyH.nil
          go_simp
          refine hKq.out _ _ (hHeld) (fun hHeld8 => ?_)
          clear hKq Kq
          try simp only [Act.put, List.setIfInBounds_toArray, List.set_cons_zero, List.set_cons_succ]
          refine wpAnyH_take (i := 9) (oi := { dst := some 39, op := Op.unOp UnOp.neg 2 (Operand.tmp 38), type := 2, pos := "journal.go:132", after := #[{ on := 8, ground := Ground.data }], guard := none }) (v := (.int .i64 (-am))) rfl (by kernel_rfl) (by kernel_rfl) (by kernel_rfl) (fun _ _ _ h => h) (Or.inl ⟨by rfl, ?_⟩) hHeld8 ?_
          · rintro u p0
            go_simp <;> exact hw
          try simp only [Act.put, List.setIfInBounds_toArray, List.set_cons_zero, List.set_cons_succ]
          refine wpAnyH_take (i := 10) (oi := { dst := some 40, op := Op.indexAddr 23 (Operand.tmp 31) (Operand.tmp 32), type := 0, pos := "journal.go:132", after := #[{ on := 1, ground := Ground.data }, { on := 2, ground := Ground.data }, { on := 0, ground := Ground.phase }, { on := 1, ground := Ground.phase }, { on := 2, ground := Ground.phase }, { on := 3, ground := Ground.phase }, { on := 4, ground := Ground.phase }, { on := 5, ground := Ground.phase }, { on := 6, ground := Ground.phase }, { on := 7, ground := Ground.phase }, { on := 8, ground := Ground.phase }, { on := 9, ground := Ground.phase }], guard := none }) (v := (.pointer (some ⟨g, 0 + i * 4, none⟩))) rfl (by kernel_rfl) (by kernel_rfl) (by kernel_rfl) (fun _ _ _ h => h) (Or.inl ⟨by rfl, ?_⟩) hHeld8 ?_
          · rintro u p0
            go_simp <;> first | rfl | kernel_rfl
          try simp only [Act.put, List.setIfInBounds_toArray, List.set_cons_zero, List.set_cons_succ]
          refine wpAnyH_take (i := 11) (oi := { dst := some 41, op := Op.fieldAddr 67 (Operand.tmp 40) 3, type := 0, pos := "journal.go:132", after := #[{ on := 10, ground := Ground.data }, { on := 0, ground := Ground.phase }, { on := 1, ground := Ground.phase }, { on := 2, ground := Ground.phase }, { on := 3, ground := Ground.phase }, { on := 4, ground := Ground.phase }, { on := 5, ground := Ground.phase }, { on := 6, ground := Ground.phase }, { on := 7, ground := Ground.phase }, { on := 8, ground := Ground.phase }, { on := 9, ground := Ground.phase }], guard := none }) (v := (.pointer (some ⟨g, 0 + i * 4 + 3, none⟩))) rfl (by kernel_rfl) (by kernel_rfl) (by kernel_rfl) (fun _ _ _ h => h) (Or.inl ⟨by rfl, ?_⟩) hHeld8 ?_
          · rintro u p0
            go_simp <;> first | rfl | kernel_rfl
          try simp only [Act.put, List.setIfInBounds_toArray, List.set_cons_zero, List.set_cons_succ]
          refine wpAnyH_ready (rs := [12]) (by kernel_rfl) (by simp) ?_
          refine AllReadyH.cons (o := { dst := none, op := Op.store 2 (Operand.tmp 41) (Operand.tmp 39), type := 0, pos := "journal.go:132", after := #[{ on := 11, ground := Ground.data }, { on := 9, ground := Ground.data }, { on := 0, ground := Ground.phase }, { on := 1, ground := Ground.phase }, { on := 2, ground := Ground.phase }, { on := 3, ground := Ground.phase }, { on := 4, ground := Ground.phase }, { on := 5, ground := Ground.phase }, { on := 6, ground := Ground.phase }, { on := 7, ground := Ground.phase }, { on := 8, ground := Ground.phase }, { on := 9, ground := Ground.phase }], guard := none }) rfl (fun Kq hKq => ?_) AllReadyH.nil
          go_simp
          refine hKq.out _ _ ((HNEX.out _).out) (fun hHeld12 => ?_)
          clear hKq Kq
          try simp only [Act.put, List.setIfInBounds_toArray, List.set_cons_zero, List.set_cons_succ]
          refine wpAnyH_done (by kernel_rfl) ?_ _
          go_wp2_with fail
          have hlt := HLT.out
          have hkx := HKX.out
          go_roundg (L.length - (i + 1))
          case measure => omega
          case rel => exact ⟨i + 1, by simp, by omega, HO2, RE2, RZ2, HB2, by omega⟩
        · obtain rfl : i = L.length := by omega
          rw [negTo_done] at HO
          clear hkx hlt hi9
          have e0 : wr.cell? ⟨lo, 0, none⟩ = some (.int .i64 day) := RE.out.cell 0
          have e1 : wr.cell? ⟨lo, 1, none⟩ = some (.int .u8 k) := RE.out.cell 1
          have e2 : wr.cell? ⟨lo, 2, none⟩ = some (.int .u64 s) := RE.out.cell 2
          have e3 : wr.cell? ⟨lo, 3, none⟩ = some (.slice (some ⟨g, 0, none⟩) L.length gc) := RE.out.cell 3
          have R9 : Rw (wr.setCells bz 0 #[.int .i64 day, .int .u8 k, .int .u64 s, .slice (some ⟨g, 0, none⟩) L.length gc].toList) bz TEn [.int .i64 day, .int .u8 k, .int .u64 s, .slice (some ⟨g, 0, none⟩) L.length gc] := RZ.out.setCells (cs := [.int .i64 day, .int .u8 k, .int .u64 s, .slice (some ⟨g, 0, none⟩) L.length gc]) 0 (by simp)
          have kp9 : Keeps (fun j => j = bz) wr (wr.setCells bz 0 #[.int .i64 day, .int .u8 k, .int .u64 s, .slice (some ⟨g, 0, none⟩) L.length gc].toList) := (Keeps.refl (fun j => j = bz) _).setCells bz 0 _ (.inl rfl)
          have B9 : Below lo w (wr.setCells bz 0 #[.int .i64 day, .int .u8 k, .int .u64 s, .slice (some ⟨g, 0, none⟩) L.length gc].toList) := Keeps.belowT HB.out kp9 (fun j hj => by rw [hj]; exact HZL.out) (by rw [HLO.out]; exact HB.out.size)
          have RZ9 := Lib.hid R9
          have HB9 := Lib.hid B9
          have KP9 := Lib.hid kp9
          clear R9 B9 kp9
          go_wp2_with (with_reducible refine wpList_store_mid rfl TEn _ _ rfl bz 0 #[.int .i64 day, .int .u8 k, .int .u64 s, .slice (some ⟨g, 0, none⟩) L.length gc] rfl rfl ?thr ?inf ?one ?_)
          case thr => exact RZ.out.there 0 4 (by simp)
          case inf => simpa using HINF.out
          case one => simp [Value.oneCell']
          generalize wr.setCells bz 0 #[.int .i64 day, .int .u8 k, .int .u64 s, .slice (some ⟨g, 0, none⟩) L.length gc].toList = W9 at RZ9 HB9 KP9 ⊢
          go_wp2_with fail
          have HO9 := Lib.hid (own_keeps HO.out KP9.out (fun j hj e => by have e1 : j = bz := e; have e2 : g = j := Option.some.inj hj; have h1 := HG.out; have h2 := HBZ.out; omega))
          have r0 : W9.cell? ⟨bz, 0, none⟩ = some (.int .i64 day) := RZ9.out.cell 0
          have r1 : W9.cell? ⟨bz, 1, none⟩ = some (.int .u8 k) := RZ9.out.cell 1
          have r2 : W9.cell? ⟨bz, 2, none⟩ = some (.int .u64 s) := RZ9.out.cell 2
          have r3 : W9.cell? ⟨bz, 3, none⟩ = some (.slice (some ⟨g, 0, none⟩) L.length gc) := RZ9.out.cell 3
          refine bodyPost_ret (v := .tuple #[.agg #[.int .i64 day, .int .u8 k, .int .u64 s, .slice (some ⟨g, 0, none⟩) L.length gc], .int .i64 0]) (by simp [results, Try.results14, go_sem, r0, r1, r2, r3]) rfl ?_
          exact ⟨by rw [← HLO.out]; exact HB9.out, .inr (.inr ⟨HCH.out.symm, HDY.out.symm, _, rfl, own_low HO9.out (by rw [← HLO.out]; omega)⟩)⟩
  · have n1 : (ch == 0) = false := beq_eq_false_iff_ne.2 hc0
    have n2 : (ch != 0) = true := by simpa using hc0
    have HNE := Lib.hid hc0
    clear hc0
    have R9 : Rw (W3.setCells bz 0 #[.int .i64 0, .int .u8 0, .int .u64 0, .slice none 0 0].toList) bz TEn [.int .i64 0, .int .u8 0, .int .u64 0, .slice none 0 0] := RZ3.out.setCells (cs := [.int .i64 0, .int .u8 0, .int .u64 0, .slice none 0 0]) 0 (by simp)
    have kp9 : Keeps (fun j => j = bz) W3 (W3.setCells bz 0 #[.int .i64 0, .int .u8 0, .int .u64 0, .slice none 0 0].toList) := (Keeps.refl (fun j => j = bz) _).setCells bz 0 _ (.inl rfl)
    have B9 : Below lo w (W3.setCells bz 0 #[.int .i64 0, .int .u8 0, .int .u64 0, .slice none 0 0].toList) := Keeps.belowT HB3.out kp9 (fun j hj => by rw [hj]; exact HZL.out) (by rw [HLO.out]; exact HB3.out.size)
    have RZ9 := Lib.hid R9
    have HB9 := Lib.hid B9
    have KP9 := Lib.hid kp9
    clear R9 B9 kp9
    go_wp2_with (with_reducible refine wpList_store_mid rfl TEn _ _ rfl bz 0 #[.int .i64 0, .int .u8 0, .int .u64 0, .slice none 0 0] rfl rfl ?thr ?inf ?one ?_)
    case thr => exact RZ3.out.there 0 4 (by simp)
    case inf => simpa using HINF.out
    case one => simp [Value.oneCell']
    generalize W3.setCells bz 0 #[.int .i64 0, .int .u8 0, .int .u64 0, .slice none 0 0].toList = W9 at RZ9 HB9 KP9 ⊢
    go_wp2_with fail
    have r0 : W9.cell? ⟨bz, 0, none⟩ = some (.int .i64 0) := RZ9.out.cell 0
    have r1 : W9.cell? ⟨bz, 1, none⟩ = some (.int .u8 0) := RZ9.out.cell 1
    have r2 : W9.cell? ⟨bz, 2, none⟩ = some (.int .u64 0) := RZ9.out.cell 2
    have r3 : W9.cell? ⟨bz, 3, none⟩ = some (.slice none 0 0) := RZ9.out.cell 3
    refine bodyPost_ret (v := .tuple #[.agg #[.int .i64 0, .int .u8 0, .int .u64 0, .slice none 0 0], .int .i64 ch]) (by simp [results, Try.results14, go_sem, r0, r1, r2, r3]) rfl ?_
    exact ⟨by rw [← HLO.out]; exact HB9.out, .inl ⟨by rw [← HCH.out]; exact HNE.out, by rw [← HCH.out]; rfl⟩⟩
end
end Go.Proofs.Ytnblilonjpfdnaa.Jn
