/- Package journal: Tidy. -/
import Derived.Test.YtnblilonjpfdnaaJnSort
import Derived.Deep.LoopGhost
import Derived.Tactics
import Derived.Deep.DeepCutAuto
namespace Go.Proofs.Ytnblilonjpfdnaa.Jn
open Go Go.RowKit Ck
abbrev TLines : TypeId := 23
abbrev TOws : TypeId := 101
theorem info_of {t : TypeId} {s b : Nat} (h : (Try.prog.info? t).map (fun i => (i.size, i.bytes)) = some (s, b)) (h2 : ((Try.prog.info? t).bind (·.zero)).map (fun z => z.cells.size) = some s) : ∃ i z, Try.prog.info? t = some i ∧ i.zero = some z ∧ i.size = s ∧ i.bytes = b ∧ z.cells.size = s := by
  cases hi : Try.prog.info? t with
  | none => rw [hi] at h; cases h
  | some i =>
    rw [hi] at h h2
    simp only [Option.map_some, Option.some.injEq, Prod.mk.injEq, Option.bind_some] at h h2
    cases hz : i.zero with
    | none => rw [hz] at h2; cases h2
    | some z =>
      rw [hz] at h2
      simp only [Option.map_some, Option.some.injEq] at h2
      exact ⟨i, z, rfl, hz, h.1, h.2, h2⟩
theorem info_ln : ∃ i z, Try.prog.info? TLine = some i ∧ i.zero = some z ∧ i.size = 4 ∧ i.bytes = 32 ∧ z.cells.size = 4 := info_of (by kernel_rfl) (by kernel_rfl)
theorem info_ow : ∃ i z, Try.prog.info? TOw = some i ∧ i.zero = some z ∧ i.size = 3 ∧ i.bytes = 24 ∧ z.cells.size = 3 := info_of (by kernel_rfl) (by kernel_rfl)
def flatL (T : List Ln) : List Value := T.flatMap Ln.cells
theorem flatL_snoc (T : List Ln) (x : Ln) : flatL (T ++ [x]) = flatL T ++ x.cells := by unfold flatL; rw [List.flatMap_append]; simp
theorem rw_news {u : World} {b : Nat} {t : TypeId} {L : List Value} (h : Rw u b t L) : ∀ j v, L[j]? = some v → u.cell? ((⟨b, 0, none⟩ : Addr).add j) = some v := fun j v hv => by rw [Addr.add_lit, Nat.zero_add, h.cell]; exact hv
theorem own_any {base e s : Nat} {u : World} {v : Value} {N : Nat} {xs : List Value} (h : u.ownsRow base e s v N xs) : ∃ a cap, v = .slice a N cap := by
  rcases h.2 with ⟨rfl, rfl⟩ | ⟨g, cap, cur, rfl, _⟩
  · exact ⟨none, 0, rfl⟩
  · exact ⟨_, cap, rfl⟩
theorem own_low {w : World} {base base' e size n : Nat} {v : Value} {xs : List Value} (h : w.ownsRow base e size v n xs) (hb : base' ≤ base) : w.ownsRow base' e size v n xs := by
  rcases h.2 with h0 | ⟨g, cap, cur, hv, hg, r⟩
  · exact ⟨h.1, .inl h0⟩
  · exact ⟨h.1, .inr ⟨g, cap, cur, hv, Nat.le_trans hb hg, r⟩⟩
theorem fits_yes {n : Int} (h : Ar.Fits n) : Ar.ok n = true ∧ Ar.val n = n := ⟨decide_eq_true h, if_pos h⟩
theorem fits_no {n : Int} (h : ¬ Ar.Fits n) : Ar.ok n = false ∧ fitB n = false := by
  refine ⟨decide_eq_false h, ?_⟩
  unfold Ar.Fits at h
  unfold fitB
  by_cases h1 : -4611686018427387904 ≤ n
  · by_cases h2 : n ≤ 4611686018427387904
    · exact absurd ⟨by omega, by omega⟩ h
    · simp [h2]
  · simp [h1]
/-- The map stays while a block of another type is written. -/
theorem Mp.other {w w' : World} {b base n : Nat} {V : Key → Option Sl} {L : List Ln} (h : Mp w b base n V L) {v : Value} {base' e s N : Nat} {xs : List Value} (ho : w.ownsRow base' e s v N xs) (he : e ≠ TI64) (k : Keeps (fun j => v.ownBlock = some j) w w') : Mp w' b base n V L := by
  have key : ∀ j, v.ownBlock = some j → j ≠ b ∧ ∀ c p, V c = some p → p.g ≠ some j := fun _ hj => by
    rcases ho.2 with ⟨rfl, _⟩ | ⟨g, cap, cur, rfl, _, hg, _⟩
    · cases hj
    · injection hj with hj
      simp only at hj
      subst hj
      exact h.ne_type hg he
  exact h.keeps k (fun hb => (key b hb).1 rfl) fun c p j hp hg hj => (key j hj).2 c p hp hg
theorem own_keep {w w' : World} {row : Option Nat} {base e size n : Nat} {v : Value} {xs : List Value} (h : w.ownsRow base e size v n xs) (hg : w.grownBy w' row) (hne : ∀ j, v.ownBlock = some j → row ≠ some j) : w'.ownsRow base e size v n xs :=
  own_keeps h ((Keeps.refl (fun j => row = some j) w).grown hg fun _ hj => .inl hj) fun j hj e => hne j hj e
theorem Rw.grown {w w' : World} {b : Nat} {t : TypeId} {L : List Value} {row : Option Nat} (h : Rw w b t L) (hg : w.grownBy w' row) (hne : row ≠ some b) : Rw w' b t L := h.of (hg.block b h.lt fun e => hne e.symm)
theorem ne_own {u : World} {base e e' s s' N N' base' : Nat} {v v' : Value} {xs xs' : List Value} (h : u.ownsRow base e s v N xs) (h' : u.ownsRow base' e' s' v' N' xs') (hne : e ≠ e') : ∀ j, v.ownBlock = some j → v'.ownBlock ≠ some j := by
  intro j hj hj'
  rcases h.2 with ⟨rfl, _⟩ | ⟨g, cap, cur, rfl, _, hg, _⟩
  · cases hj
  · rcases h'.2 with ⟨rfl, _⟩ | ⟨g', cap', cur', rfl, _, hg', _⟩
    · cases hj'
    · injection hj with hj
      injection hj' with hj'
      simp only at hj hj'
      subst hj hj'
      have := hg.symm.trans hg'
      injection this with this
      injection this with _ h2
      exact hne h2
theorem tok_bad {L : List Ln} {i : Nat} (hi : i < L.length) (h : L[i].okB = false) : tokB L = false := by
  unfold tokB
  rw [List.all_eq_false.2 ⟨_, List.getElem_mem hi, by simp [h]⟩]; rfl
theorem tok_bad2 {L : List Ln} {k : Key} (hk : ∃ x ∈ L, x.key = k) (h : fitB (ksum L k) = false) : tokB L = false := by
  obtain ⟨x, hx, rfl⟩ := hk
  unfold tokB
  rw [show L.all (fun x => fitB (ksum L x.key)) = false from List.all_eq_false.2 ⟨x, hx, by simp [h]⟩, Bool.and_false]
theorem tok_good {L : List Ln} (h : L.all Ln.okB = true) {K : List Key} (hm : ∀ x ∈ L, x.key ∈ K) (hf : ∀ k ∈ K, fitB (ksum L k) = true) : tokB L = true := by
  unfold tokB
  rw [h, List.all_eq_true.2 fun x hx => hf _ (hm x hx)]; rfl
/-- What Tidy leaves. -/
def TidyRes (L : List Ln) (w : World) (e : Ending) (w' : World) : Prop := Below w.heap.size w w' ∧ ((tokB L = true ∧ ∃ T v, Tidied L T ∧ e = .returned (.tuple #[v, .int .i64 0]) ∧ w'.ownsRow w.heap.size TLine 4 v T.length (flatL T) ∧ T.length ≤ L.length) ∨ (tokB L = false ∧ e = .returned (.tuple #[.slice none 0 0, .int .i64 2])))
set_option maxRecDepth 100000
set_option maxHeartbeats 800000
theorem tidy_c (L : List Ln) (a : Option Addr) (cap : Nat) (w : World) (h : Lns w a L) (hr : ∀ x ∈ L, InR x.key) (hl : L.length ≤ 1000) : Calls Try.prog 22 #[.slice a L.length cap] w (TidyRes L w) := by
  have H := Lib.hid h
  have HR := Lib.hid hr
  have HL := Lib.hid hl
  obtain ⟨i0, hi0, hz0, hz1, hz2⟩ := info_parts infoI64
  obtain ⟨i3, z3, hj0, hj1, hj2, hj3, hj4⟩ := info_ow
  obtain ⟨i4, z4, hk0, hk1, hk2, hk3, hk4⟩ := info_ln
  obtain ⟨lo, hlo⟩ : ∃ lo, lo = w.heap.size := ⟨_, rfl⟩
  have HLO := Lib.hid hlo
  have M0 : Hid (Mp (w.alloc (.map #[] 0)) lo (lo + 1) 0 (fun _ => none) []) := by rw [hlo]; exact Mp.made w
  have B0 : Hid (Below lo w (w.alloc (.map #[] 0))) := by rw [hlo]; exact (Below.refl _ w).alloc (Nat.le_refl _) _
  have hmm := @run_makeMap Try.prog
  clear h hr hl
  go_enter Try.func22, Try.ntmps22
  go_upto_region 4 with (fail)
  rw [← hlo]
  clear hlo hmm
  generalize w.alloc (.map #[] 0) = W0 at M0 B0 ⊢
  go_loopg [5, 17] L.length (fun kx s5 s17 wr => ∃ (i : Nat) (vv : Value) (V : Key → Option Sl), s17 = .int .i64 (i : Int) ∧ vv = s5 ∧ i ≤ L.length ∧ Hid (wr.ownsRow (lo + 1) TOw 3 vv (owners (L.take i)).length (flatO (owners (L.take i)))) ∧ Hid (Mp wr lo (lo + 1) i V (L.take i)) ∧ Hid ((L.take i).all Ln.okB = true) ∧ Hid (Below lo w wr) ∧ L.length ≤ i + kx)
  case atStart => exact ⟨0, _, _, rfl, rfl, Nat.zero_le _, World.ownsRow_nil _ _ _ _, M0.out, rfl, B0.out, by omega⟩
  case round =>
    obtain ⟨i, vv, V, rfl, hvv, hi9, HO, HM, HA, HB, hkx⟩ := hrel
    obtain ⟨a9, c9, rfl⟩ := own_any HO.out
    subst hvv
    by_cases hlt : i < L.length
    · obtain ⟨ab, ao, rfl, _, hc⟩ := (H.out.later (by rw [← HLO.out]; exact HB.out)) i hlt
      have c0 := hc 0 _ rfl
      have c1 := hc 1 _ rfl
      have c2 := hc 2 _ rfl
      have c3 := hc 3 _ rfl
      have HRX : Hid (InR L[i].key) := HR.out _ (List.getElem_mem hlt)
      have HS : Hid (L.take (i + 1) = L.take i ++ [L[i]]) := by show _ = _; rw [List.take_succ_eq_append_getElem hlt]
      have HBAD : Hid (L[i].okB = false → tokB L = false) := fun h => tok_bad hlt h
      have hn : (owners (L.take i)).length ≤ L.length := Nat.le_trans (owners_len _) (by simp; omega)
      obtain ⟨P, hP⟩ : ∃ P, P = L.take i := ⟨_, rfl⟩
      rw [← hP] at HO HM HA HS hn ⊢
      obtain ⟨x, hx⟩ : ∃ x, x = L[i] := ⟨_, rfl⟩
      rw [← hx] at c0 c1 c2 c3 HRX HS HBAD
      obtain ⟨K, hK⟩ : ∃ K, K = owners P := ⟨_, rfl⟩
      rw [← hK] at HO hn ⊢
      have HK := Lib.hid hK
      have j0 : (0 : Int) ≤ (i : Int) := by omega
      have j1 : (i : Int) < (L.length : Int) := by omega
      have j2 : L.length ≤ 1000 := HL.out
      have HLT := Lib.hid hlt
      have HKX := Lib.hid hkx
      have HN := Lib.hid hn
      have HPL : Hid (P.length ≤ 1000) := by show _ ≤ _; rw [hP]; have := HL.out; simp; omega
      rw [Nat.add_zero] at c0
      clear hc hP hx hlt hkx hK hn
      obtain ⟨xa, xb, xc, xd⟩ := x
      simp only at c0 c1 c2 c3
      have KL : Hid (∀ u, Calls Try.prog 48 #[.agg #[.int .i64 xa, .int .u64 xb, .int .u64 xc, .int .i64 xd]] u fun e w' => e = .returned (.bool (Ln.mk xa xb xc xd).okB) ∧ Below u.heap.size u w') := fun u => line_c ⟨xa, xb, xc, xd⟩ u
      obtain ⟨q, hq⟩ : ∃ q, q = (Ln.mk xa xb xc xd).okB := ⟨_, rfl⟩
      rw [← hq] at KL HBAD
      have HQ := Lib.hid hq
      clear hq
      go_upto_region 6 with (fail)
      have hb1 : Below wr.heap.size wr (wr.alloc (.cells #[.int .i64 xa, .int .u64 xb, .int .u64 xc, .int .i64 xd] TLine)) := (Below.refl _ _).alloc (Nat.le_refl _) _
      have HB1 : Hid (Below lo w (wr.alloc (.cells #[.int .i64 xa, .int .u64 xb, .int .u64 xc, .int .i64 xd] TLine))) := HB.out.trans (hb1.mono (by rw [HLO.out]; exact HB.out.size))
      have HO1 := Lib.hid (own_later HO.out hb1)
      have HM1 := Lib.hid (HM.out.later hb1)
      have RX1 : Hid (Rw (wr.alloc (.cells #[.int .i64 xa, .int .u64 xb, .int .u64 xc, .int .i64 xd] TLine)) wr.heap.size TLine [.int .i64 xa, .int .u64 xb, .int .u64 xc, .int .i64 xd]) := Rw.new wr [.int .i64 xa, .int .u64 xb, .int .u64 xc, .int .i64 xd] TLine
      obtain ⟨bx, hbx⟩ : ∃ bx, bx = wr.heap.size := ⟨_, rfl⟩
      rw [← hbx] at RX1 ⊢
      generalize wr.alloc (.cells #[.int .i64 xa, .int .u64 xb, .int .u64 xc, .int .i64 xd] TLine) = W1 at HB1 HO1 HM1 RX1 ⊢
      clear c0 c1 c2 c3 hb1 hbx HO HM HB
      have d0 : W1.cell? ⟨bx, 0, none⟩ = some (.int .i64 xa) := RX1.out.cell 0
      have d1 : W1.cell? ⟨bx, 1, none⟩ = some (.int .u64 xb) := RX1.out.cell 1
      have d2 : W1.cell? ⟨bx, 2, none⟩ = some (.int .u64 xc) := RX1.out.cell 2
      have d3 : W1.cell? ⟨bx, 3, none⟩ = some (.int .i64 xd) := RX1.out.cell 3
      go_wp2_with fail
      refine (KL.out _).mono ?_
      rintro _ W2 ⟨rfl, hb2⟩
      have HB2 : Hid (Below lo w W2) := HB1.out.trans (hb2.mono (by rw [HLO.out]; exact HB1.out.size))
      have HO2 := Lib.hid (own_later HO1.out hb2)
      have HM2 := Lib.hid (HM1.out.later hb2)
      have RX2 := Lib.hid (RX1.out.later hb2)
      clear d0 d1 d2 d3 KL hb2 HB1 HO1 HM1 RX1
      cases q with
      | false =>
        have HT : Hid (tokB L = false) := HBAD.out rfl
        clear HBAD
        go_wp2_with fail
        refine bodyPost_ret (v := .tuple #[.slice none 0 0, .int .i64 2]) (by simp [results, Try.results22, go_sem]) rfl ?_
        exact ⟨by rw [← HLO.out]; exact HB2.out, .inr ⟨HT.out, rfl⟩⟩
      | true =>
        clear HBAD
        have d0 : W2.cell? ⟨bx, 0, none⟩ = some (.int .i64 xa) := RX2.out.cell 0
        have d1 : W2.cell? ⟨bx, 1, none⟩ = some (.int .u64 xb) := RX2.out.cell 1
        have d2 : W2.cell? ⟨bx, 2, none⟩ = some (.int .u64 xc) := RX2.out.cell 2
        go_upto_region 9 with (fail)
        have hb1 : Below W2.heap.size W2 (W2.alloc (.cells #[.int .i64 xa, .int .u64 xb, .int .u64 xc] TOw)) := (Below.refl _ _).alloc (Nat.le_refl _) _
        have HB3 : Hid (Below lo w (W2.alloc (.cells #[.int .i64 xa, .int .u64 xb, .int .u64 xc] TOw))) := HB2.out.trans (hb1.mono (by rw [HLO.out]; exact HB2.out.size))
        have HO3 := Lib.hid (own_later HO2.out hb1)
        have HM3 := Lib.hid (HM2.out.later hb1)
        have RX3 := Lib.hid (RX2.out.later hb1)
        have HX3 : Hid (bx < W2.heap.size) := RX2.out.lt
        have HG3 : Hid (∀ j, (Value.slice a9 K.length c9).ownBlock = some j → j < W2.heap.size) := fun j hj => (HO2.out.lt j hj).2
        have RO3 : Hid (Rw (W2.alloc (.cells #[.int .i64 xa, .int .u64 xb, .int .u64 xc] TOw)) W2.heap.size TOw [.int .i64 xa, .int .u64 xb, .int .u64 xc]) := Rw.new W2 [.int .i64 xa, .int .u64 xb, .int .u64 xc] TOw
        obtain ⟨bo, hbo⟩ : ∃ bo, bo = W2.heap.size := ⟨_, rfl⟩
        rw [← hbo] at RO3 HX3 HG3 ⊢
        generalize W2.alloc (.cells #[.int .i64 xa, .int .u64 xb, .int .u64 xc] TOw) = W3 at HB3 HO3 HM3 RX3 RO3 ⊢
        clear d0 d1 d2 hb1 hbo HO2 HM2 RX2 HB2
        have q0 : W3.cell? ⟨bo, 0, none⟩ = some (.int .i64 xa) := RO3.out.cell 0
        have q1 : W3.cell? ⟨bo, 1, none⟩ = some (.int .u64 xb) := RO3.out.cell 1
        have q2 : W3.cell? ⟨bo, 2, none⟩ = some (.int .u64 xc) := RO3.out.cell 2
        have HLK := Lib.hid (HM3.out.look HRX.out)
        have hrun := HLK.out.1
        unfold kv Ln.key at hrun
        simp only at hrun
        have HMEM : Hid (ofKey P (xa, xb, xc) = [] ↔ (xa, xb, xc) ∉ owners P) := by
          show _ ↔ _
          rw [ofKey_ne, owners_mem]
          constructor
          · rintro h ⟨x, hx, e⟩; exact h x hx e
          · intro h x hx e; exact h ⟨x, hx, e⟩
        have HOS : Hid (owners (P ++ [Ln.mk xa xb xc xd]) = if (xa, xb, xc) ∈ owners P then owners P else owners P ++ [(xa, xb, xc)]) := owners_snoc P ⟨xa, xb, xc, xd⟩
        have HAS : Hid ((P ++ [Ln.mk xa xb xc xd]).all Ln.okB = true) := by
          show _ = _
          rw [List.all_append, HA.out]
          simpa using HQ.out.symm
        obtain ⟨v0, hv0⟩ : ∃ v0, v0 = ((V (xa, xb, xc)).getD Sl.zero).val := ⟨_, rfl⟩
        rw [← hv0] at hrun
        have HLK2 := Lib.hid HLK.out.2
        unfold Ln.key at HLK2
        simp only at HLK2
        rw [← hv0] at HLK2
        have HV0 := Lib.hid hv0
        clear hv0 HLK
        rcases HLK2.out.2 with ⟨he, hnil⟩ | ⟨⟨g0, k0, he⟩, hnil⟩
        · have hnew : (xa, xb, xc) ∉ owners P := HMEM.out.1 hnil
          have HK2 : Hid (owners (P ++ [Ln.mk xa xb xc xd]) = K ++ [(xa, xb, xc)]) := by show _ = _; rw [HOS.out, if_neg hnew, ← HK.out]
          have HNIL := Lib.hid hnil
          clear HOS hnew hnil
          rw [he] at hrun HLK2 HV0
          clear he v0
          have hbn : (binOp .eql TI64s (.slice none 0 0) (.slice none 0 0)).run Try.prog W3 = .ok (.bool true) W3 := by kernel_rfl
          have hs := HB3.out.size
          go_wp2_with (at_builtin; refine wpList_append_own_at _ rfl _ _ TOws rfl (lo + 1) TOw i3 z3 3 24 Try.underlying101 hj0 hj1 hj2 hj3 hj4 (by decide) _ _ _ rfl (own_later HO3.out ((Below.refl _ W3).alloc (Nat.le_refl _) _)) ⟨W3.heap.size, 0, none⟩ 1 1 [.int .i64 xa, .int .u64 xb, .int .u64 xc] rfl rfl (rw_news (Rw.new W3 [.int .i64 xa, .int .u64 xb, .int .u64 xc] TOw)) (by simp [Value.oneCell']) (by have := HN.out; have := HL.out; unfold maxLen; omega) (by have := HN.out; have := HL.out; omega) (by have := HM3.out.blt; simp; omega) ?_)
          intro v2 W4 hown2 hg2 hnil2 hat2
          have hb1 : Below W3.heap.size W3 (W3.alloc (.cells #[.int .i64 xa, .int .u64 xb, .int .u64 xc] TOw)) := (Below.refl _ _).alloc (Nat.le_refl _) _
          have HB4 : Hid (Below lo w W4) := (HB3.out.trans (hb1.mono (by rw [HLO.out]; exact HB3.out.size))).grown hg2 (by have := HM3.out.blt; simp; omega) (fun j hj => Nat.le_of_succ_le (HO3.out.lt j hj).1)
          have kp4 : Keeps (fun j => (Value.slice a9 K.length c9).ownBlock = some j) W3 W4 := (Keeps.of _ hb1).grown hg2 fun j hj => .inl hj
          have HM4 := Lib.hid (HM3.out.other HO3.out (by decide) kp4)
          have RX4 := Lib.hid (RX3.out.keeps kp4 (own_type HO3.out RX3.out (by decide)))
          have RO4 := Lib.hid (RO3.out.keeps kp4 (fun hj => by have := HG3.out _ hj; omega))
          have HO4 : Hid (W4.ownsRow (lo + 1) TOw 3 v2 (owners (P ++ [Ln.mk xa xb xc xd])).length (flatO (owners (P ++ [Ln.mk xa xb xc xd])))) := by
            show W4.ownsRow _ _ _ _ _ _
            rw [HK2.out, flatO_snoc, List.length_append]
            exact hown2
          clear hown2 hg2 hnil2 hat2 hb1 kp4 HM3 RX3 RO3 HO3 HB3 q0 q1 q2 hrun HG3 hs hbn
          obtain ⟨v0, hv0⟩ : ∃ v0, v0 = Value.slice none 0 0 := ⟨_, rfl⟩
          rw [← hv0] at HV0
          clear hv0
          have q0 : W4.cell? ⟨bo, 0, none⟩ = some (.int .i64 xa) := RO4.out.cell 0
          have q1 : W4.cell? ⟨bo, 1, none⟩ = some (.int .u64 xb) := RO4.out.cell 1
          have q2 : W4.cell? ⟨bo, 2, none⟩ = some (.int .u64 xc) := RO4.out.cell 2
          have q3 : W4.cell? ⟨bx, 3, none⟩ = some (.int .i64 xd) := RX4.out.cell 3
          have hb1 : Below W4.heap.size W4 (W4.alloc (.cells #[.int .i64 xd] TI64)) := (Below.refl _ _).alloc (Nat.le_refl _) _
          obtain ⟨st, W6, hmrun, hmg, hms, hmo, hmk⟩ := (HM4.out.later hb1).entry ⟨xa, xb, xc, xd⟩ HRX.out (by have := HLT.out; have := HL.out; unfold maxLen; omega)
          have HMK := Lib.hid hmk
          have HMO := Lib.hid hmo
          have HMG := Lib.hid hmg
          have HMS := Lib.hid hms
          clear hmk hmo hmg hms
          unfold kv Ln.key goInt at hmrun
          unfold Ln.key at HMO HMK
          unfold goInt at HMK
          simp only at hmrun HMO HMK
          rw [← HV0.out] at hmrun HMO HMK
          have HB5 : Hid (Below lo w (W4.alloc (.cells #[.int .i64 xd] TI64))) := HB4.out.trans (hb1.mono (by rw [HLO.out]; exact HB4.out.size))
          have HO5 := Lib.hid (own_later HO4.out hb1)
          have RN5 : Hid (Rw (W4.alloc (.cells #[.int .i64 xd] TI64)) W4.heap.size TI64 [.int .i64 xd]) := Rw.new W4 [.int .i64 xd] TI64
          have HBLT : Hid (lo < W4.heap.size) := HM4.out.blt
          have RN6 : Hid (Rw W6 W4.heap.size TI64 [.int .i64 xd]) := Rw.grown RN5.out HMG.out (fun e => by injection e with e; have := HBLT.out; omega)
          have HLEN : Hid ((ofKey P (xa, xb, xc)).length ≤ 1000) := by
            have h1 := ofKey_len P (xa, xb, xc)
            have h2 := HPL.out
            show _ ≤ _
            omega
          have HS6 : Hid (lo + 1 ≤ W6.heap.size) := by
            show _ ≤ _
            have h1 := HBLT.out
            rw [HMS.out]
            simp
            omega
          go_wp2_with (at_builtin; refine wpList_append_own_at _ rfl _ _ TI64s rfl (lo + 1) TI64 i0 (.int .i64 0) 1 8 Try.underlying91 hi0 hz0 hz1 hz2 rfl (by decide) _ _ _ rfl HMO.out ⟨W4.heap.size, 0, none⟩ 1 1 [iv xd] rfl rfl (rw_news RN6.out) (by simp [Value.oneCell']) (by have := HLEN.out; unfold maxLen; omega) (by have := HLEN.out; omega) HS6.out ?_)
          intro v7 W7 hown7 hg7 hnil7 hat7
          obtain ⟨W8, V8, hrun8, hg8, hM8⟩ := HMK.out W7 v7 hg7 hown7 hat7
          have HM8 := Lib.hid hM8
          have HG7 := Lib.hid hg7
          have HG8 := Lib.hid hg8
          clear hmrun q0 q1 q2 q3 hown7 hg7 hnil7 hat7 hM8 hg8 hb1
          go_wp2_with fail
          have HB8 : Hid (Below lo w W8) := by
            have b6 : Below lo w W6 := HB5.out.grown HMG.out (by have := HBLT.out; simp; omega) (fun j hj => by cases hj; exact Nat.le_refl _)
            have b7 : Below lo w W7 := b6.grown HG7.out (by have := HS6.out; omega) (fun j hj => Nat.le_of_succ_le (HMO.out.lt j hj).1)
            exact b7.grown HG8.out (by have := HS6.out; have := HG7.out.size; omega) (fun j hj => by cases hj; exact Nat.le_refl _)
          have HO8 : Hid (W8.ownsRow (lo + 1) TOw 3 v2 (owners (P ++ [Ln.mk xa xb xc xd])).length (flatO (owners (P ++ [Ln.mk xa xb xc xd])))) := by
            have o6 := own_keep HO5.out HMG.out (fun j hj e => by cases e; have := (HO5.out.lt _ hj).1; omega)
            have o7 := own_keep o6 HG7.out (fun j hj e => ne_own HMO.out o6 (by decide) j e hj)
            exact own_keep o7 HG8.out (fun j hj e => by cases e; have := (o7.lt _ hj).1; omega)
          clear HMK HMO HMG HMS HB5 HO5 RN5 RN6 HBLT HLEN HS6 HG7 HG8 hrun8
          have hlt := HLT.out
          have hkx := HKX.out
          go_roundg (L.length - (i + 1))
          case measure => omega
          case rel => exact ⟨i + 1, _, V8, by simp, rfl, by omega, by rw [HS.out]; exact HO8, by rw [HS.out]; exact HM8, by rw [HS.out]; exact HAS, HB8, by omega⟩
        · have hold : (xa, xb, xc) ∈ owners P := Classical.byContradiction fun hh => hnil (HMEM.out.2 hh)
          have HK2 : Hid (owners (P ++ [Ln.mk xa xb xc xd]) = K) := by show _ = _; rw [HOS.out, if_pos hold, ← HK.out]
          clear HOS hold hnil
          rw [he] at hrun
          have hbn : (binOp .eql TI64s (.slice (some ⟨g0, 0, none⟩) (ofKey P (xa, xb, xc)).length k0) (.slice none 0 0)).run Try.prog W3 = .ok (.bool false) W3 := by kernel_rfl
          go_upto_region 11 with (fail)
          rw [← HK2.out] at HO3 ⊢
          obtain ⟨v2, hv2⟩ : ∃ v2, v2 = Value.slice a9 (owners (P ++ [Ln.mk xa xb xc xd])).length c9 := ⟨_, rfl⟩
          rw [← hv2] at HO3 ⊢
          clear hv2 he HG3 q0 q1 q2 hrun hbn
          have HO4 := HO3
          have HM4 := HM3
          have RX4 := RX3
          have RO4 := RO3
          have HB4 := HB3
          clear HO3 HM3 RX3 RO3 HB3
          generalize W3 = W4 at HO4 HM4 RX4 RO4 HB4 HLK2 ⊢
          have q0 : W4.cell? ⟨bo, 0, none⟩ = some (.int .i64 xa) := RO4.out.cell 0
          have q1 : W4.cell? ⟨bo, 1, none⟩ = some (.int .u64 xb) := RO4.out.cell 1
          have q2 : W4.cell? ⟨bo, 2, none⟩ = some (.int .u64 xc) := RO4.out.cell 2
          have q3 : W4.cell? ⟨bx, 3, none⟩ = some (.int .i64 xd) := RX4.out.cell 3
          have hb1 : Below W4.heap.size W4 (W4.alloc (.cells #[.int .i64 xd] TI64)) := (Below.refl _ _).alloc (Nat.le_refl _) _
          obtain ⟨st, W6, hmrun, hmg, hms, hmo, hmk⟩ := (HM4.out.later hb1).entry ⟨xa, xb, xc, xd⟩ HRX.out (by have := HLT.out; have := HL.out; unfold maxLen; omega)
          have HMK := Lib.hid hmk
          have HMO := Lib.hid hmo
          have HMG := Lib.hid hmg
          have HMS := Lib.hid hms
          clear hmk hmo hmg hms
          unfold kv Ln.key goInt at hmrun
          unfold Ln.key at HMO HMK
          unfold goInt at HMK
          simp only at hmrun HMO HMK
          rw [← HV0.out] at hmrun HMO HMK
          have HB5 : Hid (Below lo w (W4.alloc (.cells #[.int .i64 xd] TI64))) := HB4.out.trans (hb1.mono (by rw [HLO.out]; exact HB4.out.size))
          have HO5 := Lib.hid (own_later HO4.out hb1)
          have RN5 : Hid (Rw (W4.alloc (.cells #[.int .i64 xd] TI64)) W4.heap.size TI64 [.int .i64 xd]) := Rw.new W4 [.int .i64 xd] TI64
          have HBLT : Hid (lo < W4.heap.size) := HM4.out.blt
          have RN6 : Hid (Rw W6 W4.heap.size TI64 [.int .i64 xd]) := Rw.grown RN5.out HMG.out (fun e => by injection e with e; have := HBLT.out; omega)
          have HLEN : Hid ((ofKey P (xa, xb, xc)).length ≤ 1000) := by
            have h1 := ofKey_len P (xa, xb, xc)
            have h2 := HPL.out
            show _ ≤ _
            omega
          have HS6 : Hid (lo + 1 ≤ W6.heap.size) := by
            show _ ≤ _
            have h1 := HBLT.out
            rw [HMS.out]
            simp
            omega
          go_wp2_with (at_builtin; refine wpList_append_own_at _ rfl _ _ TI64s rfl (lo + 1) TI64 i0 (.int .i64 0) 1 8 Try.underlying91 hi0 hz0 hz1 hz2 rfl (by decide) _ _ _ rfl HMO.out ⟨W4.heap.size, 0, none⟩ 1 1 [iv xd] rfl rfl (rw_news RN6.out) (by simp [Value.oneCell']) (by have := HLEN.out; unfold maxLen; omega) (by have := HLEN.out; omega) HS6.out ?_)
          intro v7 W7 hown7 hg7 hnil7 hat7
          obtain ⟨W8, V8, hrun8, hg8, hM8⟩ := HMK.out W7 v7 hg7 hown7 hat7
          have HM8 := Lib.hid hM8
          have HG7 := Lib.hid hg7
          have HG8 := Lib.hid hg8
          clear hmrun q0 q1 q2 q3 hown7 hg7 hnil7 hat7 hM8 hg8 hb1
          go_wp2_with fail
          have HB8 : Hid (Below lo w W8) := by
            have b6 : Below lo w W6 := HB5.out.grown HMG.out (by have := HBLT.out; simp; omega) (fun j hj => by cases hj; exact Nat.le_refl _)
            have b7 : Below lo w W7 := b6.grown HG7.out (by have := HS6.out; omega) (fun j hj => Nat.le_of_succ_le (HMO.out.lt j hj).1)
            exact b7.grown HG8.out (by have := HS6.out; have := HG7.out.size; omega) (fun j hj => by cases hj; exact Nat.le_refl _)
          have HO8 : Hid (W8.ownsRow (lo + 1) TOw 3 v2 (owners (P ++ [Ln.mk xa xb xc xd])).length (flatO (owners (P ++ [Ln.mk xa xb xc xd])))) := by
            have o6 := own_keep HO5.out HMG.out (fun j hj e => by cases e; have := (HO5.out.lt _ hj).1; omega)
            have o7 := own_keep o6 HG7.out (fun j hj e => ne_own HMO.out o6 (by decide) j e hj)
            exact own_keep o7 HG8.out (fun j hj e => by cases e; have := (o7.lt _ hj).1; omega)
          clear HMK HMO HMG HMS HB5 HO5 RN5 RN6 HBLT HLEN HS6 HG7 HG8 hrun8
          have hlt := HLT.out
          have hkx := HKX.out
          go_roundg (L.length - (i + 1))
          case measure => omega
          case rel => exact ⟨i + 1, _, V8, by simp, rfl, by omega, by rw [HS.out]; exact HO8, by rw [HS.out]; exact HM8, by rw [HS.out]; exact HAS, HB8, by omega⟩
    · obtain rfl : i = L.length := by omega
      rw [List.take_length] at HO HM HA ⊢
      clear hkx hlt hi9
      have HMEM : Hid (∀ x ∈ L, x.key ∈ owners L) := fun x hx => (owners_mem L _).2 ⟨x, hx, rfl⟩
      have HMEM2 : Hid (∀ k ∈ owners L, ∃ x ∈ L, x.key = k) := fun k hk => (owners_mem L _).1 hk
      have HKL : Hid ((owners L).length ≤ L.length) := owners_len L
      have KS := Lib.hid (sort_c (owners L) (owners_nodup L) _ _ wr (by have := HKL.out; have := HL.out; omega) HO.out)
      generalize owners L = K at HO HMEM HMEM2 HKL KS ⊢
      go_wp2_with fail
      refine KS.out.mono ?_
      rintro _ W2 ⟨rfl, K2, a2, c2, hv2, hperm, hpw, hows, hkp⟩
      have HM2 := Lib.hid (HM.out.other HO.out (by decide) hkp)
      have HB2 : Hid (Below lo w W2) := Keeps.belowT HB.out hkp (fun j hj => Nat.le_of_succ_le (HO.out.lt j hj).1) (by rw [HLO.out]; exact HB.out.size)
      have HOW := Lib.hid hows
      have HPW := Lib.hid hpw
      have HK2 : Hid (∀ x ∈ L, x.key ∈ K2) := fun x hx => hperm.mem_iff.2 (HMEM.out x hx)
      have HK3 : Hid (∀ k ∈ K2, ∃ x ∈ L, x.key = k) := fun k hk => HMEM2.out k (hperm.mem_iff.1 hk)
      have HKL2 : Hid (K2.length ≤ L.length) := by show _ ≤ _; rw [hperm.length_eq]; exact HKL.out
      rw [hv2]
      clear hv2 hperm hpw hows hkp KS HO HM HB HMEM HMEM2 HKL
      have HLO2 : Hid (lo ≤ W2.heap.size) := by show _ ≤ _; rw [HLO.out]; exact HB2.out.size
      go_upto_region 16 with (fail)
      go_loopg [9, 53] K2.length (fun kx s9 s53 wr => ∃ (i : Nat) (vv : Value), s53 = .int .i64 (i : Int) ∧ vv = s9 ∧ i ≤ K2.length ∧ Hid (wr.ownsRow W2.heap.size TLine 4 vv (tidyK L (K2.take i)).length (flatL (tidyK L (K2.take i)))) ∧ Hid (∀ j (h : j < K2.length), j < i → fitB (ksum L K2[j]) = true) ∧ Hid (Below W2.heap.size W2 wr) ∧ K2.length ≤ i + kx)
      case atStart => exact ⟨0, _, rfl, rfl, Nat.zero_le _, World.ownsRow_nil _ _ _ _, fun j _ hj => by omega, Below.refl _ _, by omega⟩
      case round =>
        obtain ⟨i, vv, rfl, hvv, hi9, HT, HF, HB3, hkx⟩ := hrel
        obtain ⟨a9, c9, rfl⟩ := own_any HT.out
        subst hvv
        by_cases hlt : i < K2.length
        · obtain ⟨ab2, ao2, rfl, _, hc⟩ := (HOW.out.later HB3.out) i hlt
          have c0 := hc 0 _ rfl
          have c1 := hc 1 _ rfl
          have c2 := hc 2 _ rfl
          obtain ⟨k, hk⟩ : ∃ k, k = K2[i] := ⟨_, rfl⟩
          rw [← hk] at c0 c1 c2
          obtain ⟨ka, kb, kc⟩ := k
          simp only at c0 c1 c2
          have HKM : Hid (∃ x ∈ L, x.key = (ka, kb, kc)) := HK3.out _ (by rw [hk]; exact List.getElem_mem hlt)
          have HIN : Hid (InR (ka, kb, kc)) := by
            obtain ⟨x, hx, e⟩ := HKM.out
            show InR _
            rw [← e]; exact HR.out x hx
          have HNX : Hid (tidyK L (K2.take (i + 1)) = if ksum L (ka, kb, kc) = 0 then tidyK L (K2.take i) else tidyK L (K2.take i) ++ [Ln.of (ka, kb, kc) (ksum L (ka, kb, kc))]) := by
            show _ = _
            rw [List.take_succ_eq_append_getElem hlt, tidyK_snoc, ← hk]
          have HFN : Hid (fitB (ksum L (ka, kb, kc)) = true → ∀ j (h : j < K2.length), j < i + 1 → fitB (ksum L K2[j]) = true) := fun hf j hj hji => by
            by_cases e : j = i
            · subst e; rw [← hk]; exact hf
            · exact HF.out j hj (by omega)
          have HTL : Hid ((tidyK L (K2.take i)).length ≤ 1000) := by
            have h1 := tidyK_len L (K2.take i)
            have h2 := HKL2.out
            have h3 := HL.out
            rw [List.length_take] at h1
            show _ ≤ _
            omega
          have HBADK : Hid (fitB (ksum L (ka, kb, kc)) = false → tokB L = false) := fun hf => tok_bad2 HKM.out hf
          have j0 : (0 : Int) ≤ (i : Int) := by omega
          have j1 : (i : Int) < (K2.length : Int) := by omega
          have j2 : K2.length ≤ 1000 := Nat.le_trans HKL2.out HL.out
          have HLT := Lib.hid hlt
          have HKX := Lib.hid hkx
          rw [Nat.add_zero] at c0
          clear hc hk hlt hkx
          generalize tidyK L (K2.take i) = T at HT HNX HTL ⊢
          go_upto_region 18 with (fail)
          have hb1 : Below wr.heap.size wr (wr.alloc (.cells #[.int .i64 ka, .int .u64 kb, .int .u64 kc] TOw)) := (Below.refl _ _).alloc (Nat.le_refl _) _
          have HB4 : Hid (Below W2.heap.size W2 (wr.alloc (.cells #[.int .i64 ka, .int .u64 kb, .int .u64 kc] TOw))) := HB3.out.trans (hb1.mono HB3.out.size)
          have HT4 := Lib.hid (own_later HT.out hb1)
          have RO4 : Hid (Rw (wr.alloc (.cells #[.int .i64 ka, .int .u64 kb, .int .u64 kc] TOw)) wr.heap.size TOw [.int .i64 ka, .int .u64 kb, .int .u64 kc]) := Rw.new wr [.int .i64 ka, .int .u64 kb, .int .u64 kc] TOw
          obtain ⟨bo, hbo⟩ : ∃ bo, bo = wr.heap.size := ⟨_, rfl⟩
          rw [← hbo] at RO4 ⊢
          generalize wr.alloc (.cells #[.int .i64 ka, .int .u64 kb, .int .u64 kc] TOw) = W4 at HB4 HT4 RO4 ⊢
          clear c0 c1 c2 hb1 hbo HT HB3
          have HM4 := Lib.hid (HM2.out.later HB4.out)
          have q0 : W4.cell? ⟨bo, 0, none⟩ = some (.int .i64 ka) := RO4.out.cell 0
          have q1 : W4.cell? ⟨bo, 1, none⟩ = some (.int .u64 kb) := RO4.out.cell 1
          have q2 : W4.cell? ⟨bo, 2, none⟩ = some (.int .u64 kc) := RO4.out.cell 2
          have HLK := Lib.hid (HM4.out.look HIN.out)
          have hrun := HLK.out.1
          unfold kv at hrun
          simp only at hrun
          obtain ⟨v0, hv0⟩ : ∃ v0, v0 = ((V (ka, kb, kc)).getD Sl.zero).val := ⟨_, rfl⟩
          rw [← hv0] at hrun HLK
          clear hv0
          have KS := Lib.hid (sum_any (ofKey L (ka, kb, kc)) v0 _ W4 HLK.out.2.1 (fun n hn => by
            obtain ⟨x, hx, _, rfl⟩ := ofKey_mem hn
            have := okB_amt (List.all_eq_true.1 HA.out x hx)
            unfold I64
            omega) (by have := ofKey_len L (ka, kb, kc); have := HL.out; omega))
          have hsum : (ofKey L (ka, kb, kc)).sum = ksum L (ka, kb, kc) := rfl
          rw [hsum] at KS
          clear hsum HLK
          generalize ksum L (ka, kb, kc) = n at KS HNX HFN HBADK ⊢
          go_wp2_with fail
          refine KS.out.mono ?_
          rintro _ W5 ⟨rfl, hb5⟩
          have HB5 : Hid (Below W2.heap.size W2 W5) := HB4.out.trans (hb5.mono HB4.out.size)
          have HT5 := Lib.hid (own_later HT4.out hb5)
          have RO5 := Lib.hid (RO4.out.later hb5)
          clear q0 q1 q2 hrun KS hb5 HB4 HT4 HM4 RO4
          have KF : Hid (∀ u, Calls Try.prog 59 #[.int .i64 n] u fun e w' => e = .returned (.bool (fitB n)) ∧ u = w') := fun u => fits_c n u
          obtain ⟨f, hf⟩ : ∃ f, f = fitB n := ⟨_, rfl⟩
          rw [← hf] at KF HFN HBADK
          by_cases hfit : Ar.Fits n
          · obtain ⟨z1, z2⟩ := fits_yes hfit
            rw [z1, z2]
            clear z1 z2 hfit hf
            go_wp2_with fail
            refine (KF.out _).mono ?_
            rintro _ _ ⟨rfl, rfl⟩
            cases f with
            | false =>
              have HTT : Hid (tokB L = false) := HBADK.out rfl
              clear HBADK HFN KF
              go_wp2_with fail
              refine bodyPost_ret (v := .tuple #[.slice none 0 0, .int .i64 2]) (by simp [results, Try.results22, go_sem]) rfl ?_
              exact ⟨by rw [← HLO.out]; exact HB2.out.trans (HB5.out.mono HLO2.out), .inr ⟨HTT.out, rfl⟩⟩
            | true =>
              have HF2 := Lib.hid (HFN.out rfl)
              clear HBADK HFN KF
              by_cases hn0 : n = 0
              · have HN2 : Hid (tidyK L (K2.take (i + 1)) = T) := by show _ = _; rw [HNX.out, if_pos hn0]
                subst hn0
                clear HNX
                go_wp2_with fail
                have hlt := HLT.out
                have hkx := HKX.out
                go_roundg (K2.length - (i + 1))
                case measure => omega
                case rel => exact ⟨i + 1, _, by simp, rfl, by omega, by rw [HN2.out]; exact HT5, HF2, HB5, by omega⟩
              · have HN2 : Hid (tidyK L (K2.take (i + 1)) = T ++ [Ln.of (ka, kb, kc) n]) := by show _ = _; rw [HNX.out, if_neg hn0]
                have hn1 : (n == 0) = false := beq_eq_false_iff_ne.2 hn0
                have hn2 : (n != 0) = true := by simpa using hn0
                clear HNX hn0
                have q0 : W5.cell? ⟨bo, 0, none⟩ = some (.int .i64 ka) := RO5.out.cell 0
                have q1 : W5.cell? ⟨bo, 1, none⟩ = some (.int .u64 kb) := RO5.out.cell 1
                have q2 : W5.cell? ⟨bo, 2, none⟩ = some (.int .u64 kc) := RO5.out.cell 2
                have hs : W2.heap.size ≤ W5.heap.size := HB5.out.size
                go_wp2_with (at_builtin; refine wpList_append_own_at _ rfl _ _ TLines rfl W2.heap.size TLine i4 z4 4 32 Try.underlying23 hk0 hk1 hk2 hk3 hk4 (by decide) _ _ _ rfl (own_later HT5.out ((Below.refl _ W5).alloc (Nat.le_refl _) _)) ⟨W5.heap.size, 0, none⟩ 1 1 [.int .i64 ka, .int .u64 kb, .int .u64 kc, .int .i64 n] rfl rfl (rw_news (Rw.new W5 [.int .i64 ka, .int .u64 kb, .int .u64 kc, .int .i64 n] TLine)) (by simp [Value.oneCell']) (by have := HTL.out; unfold maxLen; omega) (by have := HTL.out; omega) (by simp; omega) ?_)
                intro v6 W6 hown6 hg6 hnil6 hat6
                have hb1 : Below W5.heap.size W5 (W5.alloc (.cells #[.int .i64 ka, .int .u64 kb, .int .u64 kc, .int .i64 n] TLine)) := (Below.refl _ _).alloc (Nat.le_refl _) _
                have kp6 : Keeps (fun j => (Value.slice a9 T.length c9).ownBlock = some j) W5 W6 := (Keeps.of _ hb1).grown hg6 fun j hj => .inl hj
                have HB6 : Hid (Below W2.heap.size W2 W6) := Keeps.belowT HB5.out kp6 (fun j hj => (HT5.out.lt j hj).1) hs
                have HT6 : Hid (W6.ownsRow W2.heap.size TLine 4 v6 (tidyK L (K2.take (i + 1))).length (flatL (tidyK L (K2.take (i + 1))))) := by
                  show W6.ownsRow _ _ _ _ _ _
                  rw [HN2.out, flatL_snoc, List.length_append]
                  exact hown6
                clear hown6 hg6 hnil6 hat6 hb1 kp6 HT5 HB5 RO5 q0 q1 q2 hs
                go_wp2_with fail
                have hlt := HLT.out
                have hkx := HKX.out
                go_roundg (K2.length - (i + 1))
                case measure => omega
                case rel => exact ⟨i + 1, _, by simp, rfl, by omega, HT6, HF2, HB6, by omega⟩
          · obtain ⟨z1, z2⟩ := fits_no hfit
            rw [z1]
            generalize Ar.val n = m
            have HTT : Hid (tokB L = false) := HBADK.out (hf.trans z2)
            clear z1 z2 hfit hf HBADK HFN KF
            go_wp2_with fail
            refine bodyPost_ret (v := .tuple #[.slice none 0 0, .int .i64 2]) (by simp [results, Try.results22, go_sem]) rfl ?_
            exact ⟨by rw [← HLO.out]; exact HB2.out.trans (HB5.out.mono HLO2.out), .inr ⟨HTT.out, rfl⟩⟩
        · obtain rfl : i = K2.length := by omega
          rw [List.take_length] at HT ⊢
          clear hkx hlt hi9
          have HTOK : Hid (tokB L = true) := tok_good HA.out HK2.out fun k hk => by
            obtain ⟨j, hj, rfl⟩ := List.getElem_of_mem hk
            exact HF.out j hj hj
          have HTD : Hid (Tidied L (tidyK L K2)) := tidied_of HPW.out HK2.out
          have HTL : Hid ((tidyK L K2).length ≤ L.length) := Nat.le_trans (tidyK_len L K2) HKL2.out
          go_wp2_with fail
          refine bodyPost_ret (v := .tuple #[.slice a9 (tidyK L K2).length c9, .int .i64 0]) (by simp [results, Try.results22, go_sem]) rfl ?_
          exact ⟨by rw [← HLO.out]; exact HB2.out.trans (HB3.out.mono HLO2.out), .inl ⟨HTOK.out, _, _, HTD.out, rfl, by rw [← HLO.out]; exact own_low HT.out HLO2.out, HTL.out⟩⟩
end Go.Proofs.Ytnblilonjpfdnaa.Jn
