/- Package plans: Sold, Get. -/
import Derived.Test.YtakpoabpgdmneaaPlPrice
namespace Go.Proofs.Ytakpoabpgdmneaa.Pl
open Go Go.RowKit Ck Go.Maps
section
variable {w : World} {c bm n : Nat} {tv : Value} {V : Int → Option Pv} {K : List Int}
theorem findM_rng (valid : Bool) (V : Int → Option Pv) (k : Int) : 0 ≤ (findM valid V k).2 ∧ (findM valid V k).2 ≤ 20 := by
  unfold findM
  cases valid
  · rw [if_neg (by decide)]; decide
  · rw [if_pos rfl]
    cases V k with
    | none => show (0 : Int) ≤ 7 ∧ (7 : Int) ≤ 20; decide
    | some p => show (0 : Int) ≤ 0 ∧ (0 : Int) ≤ 20; decide
theorem findM_ok {valid : Bool} {V : Int → Option Pv} {k : Int} (h : (findM valid V k).2 = 0) : valid = true ∧ V k = some (findM valid V k).1 := by
  unfold findM at h ⊢
  cases valid
  · rw [if_neg (by decide)] at h; cases h
  · rw [if_pos rfl] at h ⊢
    cases hv : V k with
    | none => rw [hv] at h; cases h
    | some p => exact ⟨rfl, rfl⟩
theorem findM_some {V : Int → Option Pv} {k : Int} {p : Pv} (h : V k = some p) : findM true V k = (p, 0) := by
  unfold findM
  rw [if_pos rfl, h]
def priceM (V : Int → Option Pv) (k day : Int) : Int × Int := priceR (findM (dayB day) V k) day
theorem pricec_c (h : At w c bm tv n V K) (k : Int) (hk : U64 k) (day : Int) : Calls Try.prog 15 #[.pointer (some ⟨c, 0, none⟩), .int .u64 k, .int .i64 day] w (PriceRes (priceM V k day) w) :=
  price_any (fun u hu => find_c (h.later hu) k hk _) (fun h0 => by
    obtain ⟨_, hp⟩ := findM_ok h0
    exact ⟨(okB_len (h.ok _ _ hp).1).2, h.prs hp⟩) (findM_rng _ _ _)
def zeroIs (w : World) (cv : Value) : Prop := ∀ u, Below w.heap.size w u → Calls Try.prog 26 #[cv] u fun e w' => e = .returned (.bool false) ∧ u = w'
theorem price_no (cv : Value) (k day : Int) (his : zeroIs w cv) : Calls Try.prog 15 #[cv, .int .u64 k, .int .i64 day] w (PriceRes (0, 1) w) :=
  price_any (r := (Pv.zero, 1)) (fun u hu => find_no cv k _ fun u2 hu2 => his u2 (hu.trans (hu2.mono hu.size))) (fun h0 => by cases h0) (by decide)
set_option maxRecDepth 100000 in
theorem sold_no (cv : Value) (k day : Int) (his : zeroIs w cv) : Calls Try.prog 17 #[cv, .int .u64 k, .int .i64 day] w fun e w' => e = .returned (.bool false) ∧ Below w.heap.size w w' := by
  have KP := Lib.hid (price_no cv k day his)
  unfold PriceRes at KP
  clear his
  go_enter Try.func17, Try.ntmps17
  go_wp2_with fail
  refine KP.out.mono ?_
  rintro _ w1 ⟨rfl, hb⟩
  go_wp2_with fail
  go_ret
  exact ⟨rfl, hb⟩
def soldV (V : Int → Option Pv) (k day : Int) : Bool := decide ((priceM V k day).2 = 0) && (decide (((V k).getD Pv.zero).x.ret = 0) || decide (day < ((V k).getD Pv.zero).x.ret))
set_option maxRecDepth 100000 in
theorem sold_c (h : At w c bm tv n V K) (k : Int) (hk : U64 k) (day : Int) : Calls Try.prog 17 #[.pointer (some ⟨c, 0, none⟩), .int .u64 k, .int .i64 day] w fun e w' => e = .returned (.bool (soldV V k day)) ∧ Below w.heap.size w w' := by
  have H := Lib.hid h
  have KP := Lib.hid (pricec_c h k hk day)
  have hkey := key_of hk
  clear h
  obtain ⟨R, hR⟩ : ∃ R, R = soldV V k day := ⟨_, rfl⟩
  rw [← hR]
  have HR := Lib.hid hR
  clear hR
  unfold PriceRes at KP
  unfold soldV at HR
  obtain ⟨r, hr⟩ : ∃ r, r = priceM V k day := ⟨_, rfl⟩
  rw [← hr] at KP HR
  clear hr
  obtain ⟨ra, re⟩ := r
  simp only at KP HR
  go_enter Try.func17, Try.ntmps17
  go_wp2_with fail
  refine KP.out.mono ?_
  rintro _ w1 ⟨rfl, hb⟩
  have HB := Lib.hid hb
  have H1 := Lib.hid (H.out.later hb)
  clear hb KP
  by_cases he : re = 0
  · subst he
    obtain ⟨y, hy⟩ : ∃ y, y = (V k).getD Pv.zero := ⟨_, rfl⟩
    have hrun := H1.out.look hk
    rw [← hy] at hrun
    have HRR : Hid (R = (decide (y.x.ret = 0) || decide (day < y.x.ret))) := by
      show _ = _
      rw [HR.out, ← hy]
      simp
    have c0 : w1.cell? ⟨c, 0, none⟩ = some (.map (some bm)) := H1.out.blk.cell 0
    clear hy HR
    obtain ⟨⟨ya, ys, yv, yl, yr⟩, yg, yc⟩ := y
    unfold Pv.val Pn.val at hrun
    simp only at hrun HRR
    have hfd := field_ret ya yv yr ys (adr yg) yl.length yc w1
    by_cases hz : yr = 0
    · subst hz
      have HF : Hid (R = true) := by show _ = _; rw [HRR.out]; simp
      go_wp2_with fail
      go_ret
      exact ⟨by rw [HF.out]; rfl, HB.out⟩
    · have hne : (yr == 0) = false := beq_eq_false_iff_ne.2 hz
      have HF : Hid (R = decide (day < yr)) := by show _ = _; rw [HRR.out]; simp [hz]
      go_wp2_with fail
      go_ret
      exact ⟨by rw [HF.out]; rfl, HB.out⟩
  · have hne : (re == 0) = false := beq_eq_false_iff_ne.2 he
    have HF : Hid (R = false) := by
      show _ = _
      rw [HR.out]
      simp [he]
    clear HR
    go_wp2_with fail
    go_ret
    exact ⟨by rw [HF.out]; rfl, HB.out⟩
def GetRes (r : Pv × Int) (w : World) (e : Ending) (w' : World) : Prop := ∃ p : Pv, p.x = r.1.x ∧ e = .returned (.tuple #[p.val, .int .i64 r.2]) ∧ w'.ownsRow w.heap.size TPrice 2 p.sl p.x.ps.length (flatP p.x.ps) ∧ Below w.heap.size w w'
set_option maxRecDepth 100000 in
theorem get_any {cv : Value} {k : Int} {r : Pv × Int} (hf : ∀ u, Below w.heap.size w u → Calls Try.prog 29 #[cv, .int .u64 k, .bool true] u (FindRes r u)) (h0 : r.1.x.ps.length ≤ 100 ∧ Prs w (adr r.1.g) r.1.x.ps ∧ (adr r.1.g = none → r.1.cap = 0)) : Calls Try.prog 23 #[cv, .int .u64 k] w (GetRes r w) := by
  obtain ⟨p, e⟩ := r
  have HF := Lib.hid hf
  obtain ⟨g1, g2, g3⟩ := h0
  simp only at g1 g2 g3
  have KD : Hid (∀ u, Below w.heap.size w u → Calls Try.prog 27 #[p.val] u (DupP p.x u)) := fun u hu => dup_p p.x (adr p.g) p.cap u (g2.later hu) g3 adr_spot (by omega)
  have HINF : Hid ((Try.prog.info? TPlan).map (·.size) = some 5) := by show _ = _; kernel_rfl
  clear hf g1 g2 g3
  unfold GetRes
  unfold FindRes at HF
  simp only at HF ⊢
  obtain ⟨px, hpx⟩ : ∃ px, px = p.x := ⟨_, rfl⟩
  rw [← hpx] at KD ⊢
  clear hpx
  obtain ⟨⟨id, name, every, L, ret⟩, g, cap⟩ := p
  unfold Pv.val Pn.val at HF KD
  simp only at HF KD
  obtain ⟨ad, had⟩ : ∃ ad, ad = adr g := ⟨_, rfl⟩
  rw [← had] at HF KD
  clear had
  have HB0 : Hid (Below w.heap.size w (w.alloc (.cells zcells TPlan))) := (Below.refl _ w).alloc (Nat.le_refl _) _
  have R0 : Hid (Rw (w.alloc (.cells zcells TPlan)) w.heap.size TPlan zcells.toList) := Rw.new w zcells.toList TPlan
  go_enter Try.func23, Try.ntmps23
  go_wp2_with fail
  generalize w.alloc (.cells #[.int .u64 0, .string ⟨#[]⟩, .int .i64 0, .slice none 0 0, .int .i64 0] TPlan) = W0 at HB0 R0 ⊢
  refine (HF.out _ HB0.out).mono ?_
  rintro _ w1 ⟨rfl, hb1⟩
  go_upto_region 2 with (fail)
  have R1 := Lib.hid (R0.out.later hb1)
  have HB1 : Hid (Below w.heap.size w (w1.alloc (.cells #[.int .u64 id, .string name, .int .i64 every, .slice ad L.length cap, .int .i64 ret] TPlan))) := (HB0.out.trans (hb1.mono HB0.out.size)).alloc (by have := HB0.out.size; have := hb1.size; omega) _
  have hb2 : Below w1.heap.size w1 (w1.alloc (.cells #[.int .u64 id, .string name, .int .i64 every, .slice ad L.length cap, .int .i64 ret] TPlan)) := (Below.refl _ _).alloc (Nat.le_refl _) _
  have R2 := Lib.hid (R1.out.later hb2)
  have RX : Hid (Rw (w1.alloc (.cells #[.int .u64 id, .string name, .int .i64 every, .slice ad L.length cap, .int .i64 ret] TPlan)) w1.heap.size TPlan [.int .u64 id, .string name, .int .i64 every, .slice ad L.length cap, .int .i64 ret]) := Rw.new w1 [.int .u64 id, .string name, .int .i64 every, .slice ad L.length cap, .int .i64 ret] TPlan
  obtain ⟨bx, hbx⟩ : ∃ bx, bx = w1.heap.size := ⟨_, rfl⟩
  rw [← hbx] at RX ⊢
  generalize w1.alloc (.cells #[.int .u64 id, .string name, .int .i64 every, .slice ad L.length cap, .int .i64 ret] TPlan) = W at HB1 R2 RX ⊢
  clear hb1 hbx hb2 R1 HB0 R0 HF
  have q0 : W.cell? ⟨bx, 0, none⟩ = some (.int .u64 id) := RX.out.cell 0
  have q1 : W.cell? ⟨bx, 1, none⟩ = some (.string name) := RX.out.cell 1
  have q2 : W.cell? ⟨bx, 2, none⟩ = some (.int .i64 every) := RX.out.cell 2
  have q3 : W.cell? ⟨bx, 3, none⟩ = some (.slice ad L.length cap) := RX.out.cell 3
  have q4 : W.cell? ⟨bx, 4, none⟩ = some (.int .i64 ret) := RX.out.cell 4
  go_wp2_with fail
  refine (KD.out _ HB1.out).mono ?_
  rintro _ w2 ⟨p2, hp2, rfl, ho, hb2⟩
  have R3 := Lib.hid (R2.out.later hb2)
  have HB2 : Hid (Below w.heap.size w w2) := HB1.out.trans (hb2.mono HB1.out.size)
  have HO := Lib.hid (own_lower ho HB1.out.size)
  have HON : Hid (∀ j, p2.sl.ownBlock = some j → j ≠ w.heap.size) := fun j hj e => by
    have h1 := (ho.lt j hj).1
    have h2 := R2.out.lt
    omega
  clear ho hb2 KD R2 RX HB1 q0 q1 q2 q3 q4
  subst hp2
  obtain ⟨⟨id2, name2, every2, L2, ret2⟩, g2, cap2⟩ := p2
  unfold Pv.val Pn.val Pv.sl at *
  simp only at HO HON ⊢
  obtain ⟨ad2, had2⟩ : ∃ ad2, ad2 = adr g2 := ⟨_, rfl⟩
  have HAD2 := Lib.hid had2
  rw [← had2] at HO HON ⊢
  clear had2
  have R4 : Hid (Rw (w2.setCells w.heap.size 0 #[.int .u64 id2, .string name2, .int .i64 every2, .slice ad2 L2.length cap2, .int .i64 ret2].toList) w.heap.size TPlan [.int .u64 id2, .string name2, .int .i64 every2, .slice ad2 L2.length cap2, .int .i64 ret2]) := by
    have := R3.out.setCells (cs := [.int .u64 id2, .string name2, .int .i64 every2, .slice ad2 L2.length cap2, .int .i64 ret2]) 0 (by simp)
    exact this
  have KS : Keeps (fun j => j = w.heap.size) w2 (w2.setCells w.heap.size 0 #[.int .u64 id2, .string name2, .int .i64 every2, .slice ad2 L2.length cap2, .int .i64 ret2].toList) := (Keeps.refl (fun j => j = w.heap.size) w2).setCells w.heap.size 0 _ (.inl rfl)
  have HB4 : Hid (Below w.heap.size w (w2.setCells w.heap.size 0 #[.int .u64 id2, .string name2, .int .i64 every2, .slice ad2 L2.length cap2, .int .i64 ret2].toList)) := Keeps.belowT HB2.out KS (fun j hj => Nat.le_of_eq hj.symm) HB2.out.size
  have HO4 := Lib.hid (own_keeps HO.out KS HON.out)
  clear KS
  go_wp2_with (with_reducible refine wpList_store_mid rfl TPlan _ _ rfl w.heap.size 0 #[.int .u64 id2, .string name2, .int .i64 every2, .slice ad2 L2.length cap2, .int .i64 ret2] rfl rfl ?thr ?inf ?one ?_)
  case thr => exact R3.out.there 0 5 (by simp)
  case inf => simpa using HINF.out
  case one => simp [Value.oneCell']
  generalize w2.setCells w.heap.size 0 #[.int .u64 id2, .string name2, .int .i64 every2, .slice ad2 L2.length cap2, .int .i64 ret2].toList = W4 at R4 HB4 HO4 ⊢
  go_wp2_with fail
  have r0 : W4.cell? ⟨w.heap.size, 0, none⟩ = some (.int .u64 id2) := R4.out.cell 0
  have r1 : W4.cell? ⟨w.heap.size, 1, none⟩ = some (.string name2) := R4.out.cell 1
  have r2 : W4.cell? ⟨w.heap.size, 2, none⟩ = some (.int .i64 every2) := R4.out.cell 2
  have r3 : W4.cell? ⟨w.heap.size, 3, none⟩ = some (.slice ad2 L2.length cap2) := R4.out.cell 3
  have r4 : W4.cell? ⟨w.heap.size, 4, none⟩ = some (.int .i64 ret2) := R4.out.cell 4
  refine bodyPost_ret (v := .tuple #[.agg #[.int .u64 id2, .string name2, .int .i64 every2, .slice ad2 L2.length cap2, .int .i64 ret2], .int .i64 e]) (by simp [results, Try.results23, go_sem, r0, r1, r2, r3, r4]) rfl ?_
  refine ⟨⟨⟨id2, name2, every2, L2, ret2⟩, g2, cap2⟩, rfl, ?_, ?_, HB4.out⟩
  · rw [HAD2.out]
    rfl
  · have := HO4.out
    rw [HAD2.out] at this
    exact this
def getM (V : Int → Option Pv) (k : Int) : Pv × Int := findM true V k
theorem get_c (h : At w c bm tv n V K) (k : Int) (hk : U64 k) : Calls Try.prog 23 #[.pointer (some ⟨c, 0, none⟩), .int .u64 k] w (GetRes (findM true V k) w) :=
  get_any (fun u hu => find_c (h.later hu) k hk _) (by
    cases hv : V k with
    | none =>
      have e : findM true V k = (Pv.zero, 7) := by unfold findM; rw [if_pos rfl, hv]
      rw [e]
      exact ⟨Nat.zero_le _, fun j hj => absurd hj (by simp [Pv.zero, Pn.zero]), fun _ => rfl⟩
    | some p =>
      rw [findM_some hv]
      exact ⟨(okB_len (h.ok _ _ hv).1).2, h.prs hv, own_nil (h.row _ _ hv)⟩)
theorem get_no (cv : Value) (k : Int) (his : zeroIs w cv) : Calls Try.prog 23 #[cv, .int .u64 k] w (GetRes (Pv.zero, 1) w) :=
  get_any (fun u hu => find_no cv k _ fun u2 hu2 => his u2 (hu.trans (hu2.mono hu.size))) ⟨Nat.zero_le _, fun j hj => absurd hj (by simp [Pv.zero, Pn.zero]), fun _ => rfl⟩
end
end Go.Proofs.Ytakpoabpgdmneaa.Pl
