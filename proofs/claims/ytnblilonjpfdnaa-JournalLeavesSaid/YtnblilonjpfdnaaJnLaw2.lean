/- The statement of journal on leaves. -/
import Derived.Test.YtnblilonjpfdnaaJnLaw1
namespace Go.Proofs.Ytnblilonjpfdnaa.Jn
open Go Go.RowKit Ck Ch
/-- Each account has a class that debits or credits increase. -/
def Sd (M : Int → Option Acc) : Prop := ∀ k p, M k = some p → sideM p.cls ≠ 0
theorem upd_some {M : Int → Option Acc} {k0 k : Int} {x p : Acc} (h : Ch.upd M k0 x k = some p) : x = p ∨ M k = some p := by
  unfold Ch.upd at h
  by_cases e : k = k0
  · rw [if_pos e] at h; injection h with h; exact .inl h
  · rw [if_neg e] at h; exact .inr h
theorem sd_add {M : Int → Option Acc} (h : Sd M) (x : A5) : Sd (addM M x).1 := by
  unfold addM
  split
  · exact h
  · rename_i hv
    have hs : sideM x.cls ≠ 0 := by
      cases hb : x.validB with
      | false => exact absurd hb hv
      | true =>
        unfold A5.validB at hb
        simp at hb
        exact hb.1.1.1.2
    split
    · exact h
    · split
      · intro k p hp
        rcases upd_some hp with rfl | hp
        · exact hs
        · exact h k p hp
      · split
        · exact h
        · rename_i q hq
          split
          · exact h
          · intro k p hp
            rcases upd_some hp with rfl | hp
            · exact hs
            · rcases upd_some hp with rfl | hp
              · exact h _ q hq
              · exact h k p hp
theorem sd_all {A : List A5} : ∀ {M : Int → Option Acc}, Sd M → Sd (addAll M A) := by
  induction A with
  | nil => intro M h; exact h
  | cons x A ih => intro M h; exact ih (sd_add h x)
theorem sd_std (A : List A5) : Sd (stdM A) := sd_all (sd_all fun k p h => by cases h)
theorem lineOn_zero {M : Int → Option Acc} {x : Ln} : lineOn M x = 0 ↔ (getM M x.acc).2 = 0 ∧ (getM M x.acc).1.shut = false ∧ leafM M x.acc = true := by
  unfold lineOn
  by_cases h1 : (getM M x.acc).2 = 0
  · rw [if_neg (by simp [h1])]
    cases hs : (getM M x.acc).1.shut <;> cases hl : leafM M x.acc <;> simp [h1]
  · rw [if_pos h1]
    simp [h1]
theorem lineOn_is (M : Int → Option Acc) (x : Ln) : lineOn M x = 0 ∨ lineOn M x = 7 ∨ lineOn M x = 9 := by
  unfold lineOn getM
  by_cases h : (M x.acc).isSome = true
  · rw [if_pos h]
    simp only
    split
    · simp
    · split <;> simp
  · rw [if_neg h]
    simp
theorem onL_is (M : Int → Option Acc) (L : List Ln) : (onL M L = 0 ↔ ∀ j (h : j < L.length), lineOn M L[j] = 0) ∧ (onL M L = 0 ∨ onL M L = 7 ∨ onL M L = 9) := by
  induction L with
  | nil => exact ⟨⟨fun _ j h => absurd h (by simp), fun _ => rfl⟩, .inl rfl⟩
  | cons x L ih =>
    by_cases h : lineOn M x = 0
    · have e : onL M (x :: L) = onL M L := if_neg (by simp [h])
      rw [e]
      refine ⟨⟨fun h0 j hj => ?_, fun h0 => ih.1.2 fun j hj => by have := h0 (j + 1) (by simpa using hj); simpa using this⟩, ih.2⟩
      cases j with
      | zero => exact h
      | succ j => exact ih.1.1 h0 j (by simpa using hj)
    · have e : onL M (x :: L) = lineOn M x := if_pos h
      rw [e]
      exact ⟨⟨fun h0 => absurd h0 h, fun h0 => h0 0 (by simp)⟩, lineOn_is M x⟩
section
set_option maxRecDepth 100000
set_option maxHeartbeats 3200000
theorem leaves_law (d k s : Int) (L : List Ln) (a : Option Addr) (cap : Nat) (A : List A5) (ma : Option Addr) (mc : Nat) (w : World) (h : Lns w a L) (hl : L.length ≤ maxLen) (hA : Acs w ma A) (hf : ∀ x ∈ A, x.Fits) (hm : A.length ≤ maxLen) : Calls Try.prog 8 #[.agg #[.int .i64 d, .int .u8 k, .int .u64 s, .slice a L.length cap], .slice ma A.length mc] w fun e w' => e = .returned (.bool true) ∧ Below w.heap.size w w' := by
  have KH := Lib.hid head_c
  have HB0 : Hid (Below w.heap.size w (w.alloc (.cells #[.int .i64 d, .int .u8 k, .int .u64 s, .slice a L.length cap] TEn))) := (Below.refl _ w).alloc (Nat.le_refl _) _
  have RE0 : Hid (Rw (w.alloc (.cells #[.int .i64 d, .int .u8 k, .int .u64 s, .slice a L.length cap] TEn)) w.heap.size TEn [.int .i64 d, .int .u8 k, .int .u64 s, .slice a L.length cap]) := Rw.new w [.int .i64 d, .int .u8 k, .int .u64 s, .slice a L.length cap] TEn
  have H := Lib.hid h
  have HA := Lib.hid hA
  have HF := Lib.hid hf
  have hl9 : (L.length : Int) ≤ 9223372036854775807 := by unfold maxLen at hl; omega
  have hm9 : (A.length : Int) ≤ 9223372036854775807 := by unfold maxLen at hm; omega
  clear h hA hf hl hm
  go_enter Try.func8, Try.ntmps8
  go_upto_region 1 with (fail)
  obtain ⟨be, hbe⟩ : ∃ be, be = w.heap.size := ⟨_, rfl⟩
  rw [← hbe] at RE0 ⊢
  clear hbe
  generalize w.alloc (.cells #[.int .i64 d, .int .u8 k, .int .u64 s, .slice a L.length cap] TEn) = W2 at HB0 RE0 ⊢
  have e3 : W2.cell? ⟨be, 3, none⟩ = some (.slice a L.length cap) := RE0.out.cell 3
  by_cases hb1 : 100 < (L.length : Int)
  · go_wp2_with fail
    refine (KH.out _).mono ?_
    rintro _ w1 ⟨rfl, hb2⟩
    have HB1 : Hid (Below w.heap.size w w1) := HB0.out.trans (hb2.mono HB0.out.size)
    clear hb2 e3
    go_wp2_with fail
    go_ret
    exact ⟨rfl, HB1.out⟩
  by_cases hb2 : 10 < (A.length : Int)
  · go_wp2_with fail
    refine (KH.out _).mono ?_
    rintro _ w1 ⟨rfl, hb2⟩
    have HB1 : Hid (Below w.heap.size w w1) := HB0.out.trans (hb2.mono HB0.out.size)
    clear hb2 e3
    go_wp2_with fail
    go_ret
    exact ⟨rfl, HB1.out⟩
  have HSM : Hid (L.length ≤ 100 ∧ A.length ≤ 10) := by show _ ∧ _; omega
  have hs1 : (L.length : Int) ≤ 100 := by omega
  have hs2 : (A.length : Int) ≤ 10 := by omega
  clear hb1 hb2 hl9 hm9
  have KS := Lib.hid (standard_c A ma mc W2 (HA.out.later HB0.out) HF.out (by have := HSM.out; omega))
  go_wp2_with fail
  refine KS.out.mono ?_
  rintro _ W3 ⟨c, K, N, rfl, hct, _, hlf⟩
  have HB3 : Hid (Below w.heap.size w W3) := HB0.out.trans (hlf.b.mono HB0.out.size)
  have RE3 := Lib.hid (RE0.out.later hlf.b)
  have HCT := Lib.hid hct
  have SD := Lib.hid (sd_std A)
  clear hct hlf KS e3 HB0 RE0 HA HF
  generalize stdM A = M at HCT SD
  have HGM := Lib.hid HCT.out.gm
  have KG : Hid (∀ code u, Ch.I64 code → Below W3.heap.size W3 u → Calls Try.prog 31 #[.pointer (some ⟨c, 0, none⟩), .int .i64 code] u fun e w' => e = .returned (.tuple #[(getM M code).1.val, .int .i64 (getM M code).2]) ∧ Below u.heap.size u w') := fun code u hc hb => ct_get (HCT.out.later hb) code hc
  have KF : Hid (∀ code u, Ch.I64 code → Below W3.heap.size W3 u → Calls Try.prog 33 #[.pointer (some ⟨c, 0, none⟩), .int .i64 code] u fun e w' => e = .returned (.bool (leafM M code)) ∧ Below u.heap.size u w') := fun code u hc hb => ct_leaf (HCT.out.later hb) code hc
  have KO : Hid (∀ u, Below W3.heap.size W3 u → Calls Try.prog 18 #[.pointer (some ⟨c, 0, none⟩), .agg #[.int .i64 d, .int .u8 k, .int .u64 s, .slice a L.length cap]] u fun e w' => e = .returned (.int .i64 (onM M d k L)) ∧ Below u.heap.size u w') := fun u hb => on_c (HCT.out.later hb) d k s L a cap (H.out.later (HB3.out.trans (hb.mono HB3.out.size))) (by have := HSM.out; omega)
  have KC : Hid (Calls Try.prog 16 #[.agg #[.int .i64 d, .int .u8 k, .int .u64 s, .slice a L.length cap]] W3 fun e w' => e = .returned (.int .i64 (chkM d k L)) ∧ Below W3.heap.size W3 w') := check_c d k s L a cap W3 (H.out.later HB3.out) (by have := HSM.out; omega)
  have e0 : W3.cell? ⟨be, 0, none⟩ = some (.int .i64 d) := RE3.out.cell 0
  have e1 : W3.cell? ⟨be, 1, none⟩ = some (.int .u8 k) := RE3.out.cell 1
  have e2 : W3.cell? ⟨be, 2, none⟩ = some (.int .u64 s) := RE3.out.cell 2
  have e3 : W3.cell? ⟨be, 3, none⟩ = some (.slice a L.length cap) := RE3.out.cell 3
  have HOM : Hid (chkM d k L = 0 → onM M d k L = onL M L) := fun h => by unfold onM; rw [if_neg (by simp [h])]
  have HOM2 : Hid (chkM d k L ≠ 0 → onM M d k L = chkM d k L) := fun h => by unfold onM; rw [if_pos h]
  have HCK : Hid (chkM d k L = 0 → ∀ x ∈ L, x.okB = true) := fun h => List.all_eq_true.1 (chk_ok h).2.1
  clear HCT
  generalize chkM d k L = ch at KC HOM HOM2 HCK
  go_wp2_with fail
  refine KC.out.mono ?_
  rintro _ W4 ⟨rfl, hb4⟩
  have HC4 := Lib.hid hb4
  have RE4 := Lib.hid (RE3.out.later hb4)
  clear e0 e1 e2 e3 hb4 KC
  have e0 : W4.cell? ⟨be, 0, none⟩ = some (.int .i64 d) := RE4.out.cell 0
  have e1 : W4.cell? ⟨be, 1, none⟩ = some (.int .u8 k) := RE4.out.cell 1
  have e2 : W4.cell? ⟨be, 2, none⟩ = some (.int .u64 s) := RE4.out.cell 2
  have e3 : W4.cell? ⟨be, 3, none⟩ = some (.slice a L.length cap) := RE4.out.cell 3
  have KO4 := Lib.hid (KO.out W4 HC4.out)
  generalize onM M d k L = on at KO4 HOM HOM2
  clear KO
  go_wp2_with fail
  refine KO4.out.mono ?_
  rintro _ W5 ⟨rfl, hb5⟩
  have HC5 : Hid (Below W3.heap.size W3 W5) := HC4.out.trans (hb5.mono HC4.out.size)
  clear e0 e1 e2 e3 hb5 KO4 HC4 RE4
  by_cases hc0 : ch = 0
  · subst hc0
    have hon := HOM.out rfl
    have HOI := Lib.hid (onL_is M L)
    rw [← hon] at HOI
    have HXS := Lib.hid (HCK.out rfl)
    clear hon HOM HOM2 HCK
    go_upto_region 10 with (fail)
    go_loopg [8, 9] L.length (fun kx s8 s9 wr => ∃ (i : Nat) (f : Bool), s9 = .int .i64 (i : Int) ∧ s8 = .bool f ∧ i ≤ L.length ∧ Hid (f = true ↔ ∀ j (h : j < L.length), j < i → lineOn M L[j] = 0) ∧ Hid (Below W3.heap.size W3 wr) ∧ L.length ≤ i + kx)
    case atStart => exact ⟨0, true, rfl, rfl, Nat.zero_le _, ⟨fun _ j _ hj => by omega, fun _ => rfl⟩, HC5.out, by omega⟩
    case round =>
      obtain ⟨i, f, rfl, rfl, hi9, HFF, HC, hkx⟩ := hrel
      have e3 : wr.cell? ⟨be, 3, none⟩ = some (.slice a L.length cap) := (RE3.out.later HC.out).cell 3
      by_cases hlt : i < L.length
      · obtain ⟨ab, ao, rfl, _, hc⟩ := (H.out.later (HB3.out.trans (HC.out.mono HB3.out.size))) i hlt
        have c0 := hc 0 _ rfl
        have HNX : Hid (∀ z : Bool, (z = true ↔ lineOn M L[i] = 0) → ((f && z) = true ↔ ∀ j (h : j < L.length), j < i + 1 → lineOn M L[j] = 0)) := fun z hz => by
          rw [Bool.and_eq_true, HFF.out, hz]
          constructor
          · rintro ⟨h1, h2⟩ j hj hji
            by_cases e : j = i
            · subst e; exact h2
            · exact h1 j hj (by omega)
          · exact fun h1 => ⟨fun j hj hji => h1 j hj (by omega), h1 i hlt (by omega)⟩
        have HOK : Hid (Ch.I64 L[i].acc) := by
          have := okB_amt (HXS.out _ (List.getElem_mem hlt))
          show Ch.I64 _
          unfold Ch.I64
          omega
        obtain ⟨x, hx⟩ : ∃ x, x = L[i] := ⟨_, rfl⟩
        rw [← hx] at c0 HNX HOK
        have j0 : (0 : Int) ≤ (i : Int) := by omega
        have j1 : (i : Int) < (L.length : Int) := by omega
        have HLT := Lib.hid hlt
        have HKX := Lib.hid hkx
        rw [Nat.add_zero] at c0
        clear hc hx hlt hkx HFF
        obtain ⟨xa, xb, xc, xd⟩ := x
        simp only at c0 HOK
        have HZ : Hid (lineOn M ⟨xa, xb, xc, xd⟩ = 0 ↔ (getM M xa).2 = 0 ∧ (getM M xa).1.shut = false ∧ leafM M xa = true) := lineOn_zero
        have HCD : Hid ((getM M xa).2 = 0 → (getM M xa).1.code = xa ∧ sideM (getM M xa).1.cls ≠ 0) := by
          show _ → _
          unfold getM
          cases hM : M xa with
          | none => intro h; rw [if_neg (by simp)] at h; cases h
          | some p =>
            intro _
            rw [if_pos (by simp)]
            exact ⟨HGM.out.code xa p hM, SD.out xa p hM⟩
        have K1 := Lib.hid (KG.out xa wr HOK.out HC.out)
        have K2 : Hid (∀ u, Below W3.heap.size W3 u → Calls Try.prog 33 #[.pointer (some ⟨c, 0, none⟩), .int .i64 xa] u fun e w' => e = .returned (.bool (leafM M xa)) ∧ Below u.heap.size u w') := fun u hu => KF.out xa u HOK.out hu
        obtain ⟨⟨⟨g0, g1, g2, g3, sh⟩, z1⟩, hz1⟩ : ∃ r, r = getM M xa := ⟨_, rfl⟩
        rw [← hz1] at K1 HZ HCD
        unfold A5.val at K1
        simp only at K1 HZ HCD
        obtain ⟨lf, hlf⟩ : ∃ lf, lf = leafM M xa := ⟨_, rfl⟩
        rw [← hlf] at K2 HZ
        clear hz1 hlf
        go_wp2_with fail
        refine K1.out.mono ?_
        rintro _ W6 ⟨rfl, hb6⟩
        have HC6 : Hid (Below W3.heap.size W3 W6) := HC.out.trans (hb6.mono HC.out.size)
        clear c0 e3 K1 hb6 HC
        go_upto_region 13 with (fail)
        have hb1 : Below W6.heap.size W6 (W6.alloc (.cells #[.int .i64 g0, .int .i64 g1, .int .u8 g2, .string g3, .bool sh] TAc)) := (Below.refl _ W6).alloc (Nat.le_refl _) _
        have HC7 : Hid (Below W3.heap.size W3 (W6.alloc (.cells #[.int .i64 g0, .int .i64 g1, .int .u8 g2, .string g3, .bool sh] TAc))) := HC6.out.trans (hb1.mono HC6.out.size)
        have RG7 : Hid (Rw (W6.alloc (.cells #[.int .i64 g0, .int .i64 g1, .int .u8 g2, .string g3, .bool sh] TAc)) W6.heap.size TAc [.int .i64 g0, .int .i64 g1, .int .u8 g2, .string g3, .bool sh]) := Rw.new W6 [.int .i64 g0, .int .i64 g1, .int .u8 g2, .string g3, .bool sh] TAc
        obtain ⟨bg, hbg⟩ : ∃ bg, bg = W6.heap.size := ⟨_, rfl⟩
        rw [← hbg] at RG7 ⊢
        generalize W6.alloc (.cells #[.int .i64 g0, .int .i64 g1, .int .u8 g2, .string g3, .bool sh] TAc) = W7 at HC7 RG7 ⊢
        clear hb1 hbg HC6
        have d0 : W7.cell? ⟨bg, 0, none⟩ = some (.int .i64 g0) := RG7.out.cell 0
        have d2 : W7.cell? ⟨bg, 2, none⟩ = some (.int .u8 g2) := RG7.out.cell 2
        have d4 : W7.cell? ⟨bg, 4, none⟩ = some (.bool sh) := RG7.out.cell 4
        cases f with
        | false =>
          have HF2 := Lib.hid (HNX.out (decide (lineOn M ⟨xa, xb, xc, xd⟩ = 0)) decide_eq_true_iff)
          rw [Bool.false_and] at HF2
          clear HNX HZ HCD K2
          go_wp2_with fail
          have hlt := HLT.out
          have hkx := HKX.out
          go_roundg (L.length - (i + 1))
          case measure => omega
          case rel => exact ⟨i + 1, _, by simp, rfl, by omega, HF2, HC7, by omega⟩
        | true =>
          by_cases hz : z1 = 0
          · subst hz
            obtain ⟨hcode, hside⟩ := HCD.out rfl
            subst hcode
            have HSD := Lib.hid hside
            clear hside HCD
            cases sh with
            | true =>
              have HF2 := Lib.hid (HNX.out false (by rw [HZ.out]; simp))
              rw [Bool.true_and] at HF2
              clear HNX HZ K2
              go_wp2_with fail
              have hlt := HLT.out
              have hkx := HKX.out
              go_roundg (L.length - (i + 1))
              case measure => omega
              case rel => exact ⟨i + 1, _, by simp, rfl, by omega, HF2, HC7, by omega⟩
            | false =>
              have KSD : Hid (∀ u, Calls Try.prog 32 #[.int .u8 g2] u fun e w' => e = .returned (.int .i64 (sideM g2)) ∧ u = w') := fun u => rside_c u g2
              obtain ⟨sd, hsd⟩ : ∃ sd, sd = sideM g2 := ⟨_, rfl⟩
              rw [← hsd] at KSD HSD
              have sd1 : (sd == 0) = false := beq_eq_false_iff_ne.2 HSD.out
              have sd2 : (sd != 0) = true := by have := HSD.out; simpa using this
              clear hsd
              go_wp2_with fail
              refine (KSD.out _).mono ?_
              rintro _ _ ⟨rfl, rfl⟩
              go_wp2_with fail
              refine (K2.out W7 HC7.out).mono ?_
              rintro _ W8 ⟨rfl, hb8⟩
              have HC8 : Hid (Below W3.heap.size W3 W8) := HC7.out.trans (hb8.mono HC7.out.size)
              have HF2 := Lib.hid (HNX.out lf (by rw [HZ.out]; simp))
              rw [Bool.true_and] at HF2
              clear HNX HZ K2 KSD sd1 sd2 d0 d2 d4 hb8 HC7 RG7
              have HC7 := HC8
              clear HC8
              go_wp2_with fail
              have hlt := HLT.out
              have hkx := HKX.out
              go_roundg (L.length - (i + 1))
              case measure => omega
              case rel => exact ⟨i + 1, _, by simp, rfl, by omega, HF2, HC7, by omega⟩
          · have n1 : (z1 == 0) = false := beq_eq_false_iff_ne.2 hz
            have HF2 := Lib.hid (HNX.out false (by rw [HZ.out]; simp [hz]))
            rw [Bool.true_and] at HF2
            clear HNX HZ K2 HCD hz
            go_wp2_with fail
            have hlt := HLT.out
            have hkx := HKX.out
            go_roundg (L.length - (i + 1))
            case measure => omega
            case rel => exact ⟨i + 1, _, by simp, rfl, by omega, HF2, HC7, by omega⟩
      · obtain rfl : i = L.length := by omega
        clear hkx hlt hi9
        have HEQ : Hid (f = decide (on = 0)) := by
          show _ = _
          have h1 : f = true ↔ on = 0 := by
            rw [HFF.out, HOI.out.1]
            exact ⟨fun h j hj => h j hj hj, fun h j hj _ => h j hj⟩
          by_cases h2 : on = 0
          · rw [decide_eq_true h2]; exact h1.2 h2
          · rw [decide_eq_false h2]
            cases f with
            | false => rfl
            | true => exact absurd (h1.1 rfl) h2
        have HO3 := Lib.hid HOI.out.2
        clear HFF HOI
        have hfe := HEQ.out
        rcases HO3.out with rfl | rfl | rfl
        · obtain rfl : f = true := by simpa using hfe
          clear hfe HEQ HO3
          have hbt : ∀ u, (binOp .eql 4 (.bool true) (.bool true)).run Try.prog u = .ok (.bool true) u := fun u => by kernel_rfl
          have hbf : ∀ u, (binOp .eql 4 (.bool false) (.bool false)).run Try.prog u = .ok (.bool true) u := fun u => by kernel_rfl
          go_wp2_with fail
          refine (KH.out _).mono ?_
          rintro _ w9 ⟨rfl, hb9⟩
          have HB9 : Hid (Below w.heap.size w w9) := (HB3.out.trans (HC.out.mono HB3.out.size)).trans (hb9.mono (HB3.out.trans (HC.out.mono HB3.out.size)).size)
          clear hb9
          go_wp2_with fail
          go_ret
          exact ⟨rfl, HB9.out⟩
        · obtain rfl : f = false := by simpa using hfe
          clear hfe HEQ HO3
          have hbt : ∀ u, (binOp .eql 4 (.bool true) (.bool true)).run Try.prog u = .ok (.bool true) u := fun u => by kernel_rfl
          have hbf : ∀ u, (binOp .eql 4 (.bool false) (.bool false)).run Try.prog u = .ok (.bool true) u := fun u => by kernel_rfl
          go_wp2_with fail
          refine (KH.out _).mono ?_
          rintro _ w9 ⟨rfl, hb9⟩
          have HB9 : Hid (Below w.heap.size w w9) := (HB3.out.trans (HC.out.mono HB3.out.size)).trans (hb9.mono (HB3.out.trans (HC.out.mono HB3.out.size)).size)
          clear hb9
          go_wp2_with fail
          go_ret
          exact ⟨rfl, HB9.out⟩
        · obtain rfl : f = false := by simpa using hfe
          clear hfe HEQ HO3
          have hbt : ∀ u, (binOp .eql 4 (.bool true) (.bool true)).run Try.prog u = .ok (.bool true) u := fun u => by kernel_rfl
          have hbf : ∀ u, (binOp .eql 4 (.bool false) (.bool false)).run Try.prog u = .ok (.bool true) u := fun u => by kernel_rfl
          go_wp2_with fail
          refine (KH.out _).mono ?_
          rintro _ w9 ⟨rfl, hb9⟩
          have HB9 : Hid (Below w.heap.size w w9) := (HB3.out.trans (HC.out.mono HB3.out.size)).trans (hb9.mono (HB3.out.trans (HC.out.mono HB3.out.size)).size)
          clear hb9
          go_wp2_with fail
          go_ret
          exact ⟨rfl, HB9.out⟩
  · have HE := Lib.hid (HOM2.out hc0)
    obtain rfl := HE.out
    have n1 : (on == 0) = false := beq_eq_false_iff_ne.2 hc0
    have n2 : (on != 0) = true := by simpa using hc0
    clear HOM HOM2 HCK hc0 HE
    go_wp2_with fail
    refine (KH.out _).mono ?_
    rintro _ w9 ⟨rfl, hb9⟩
    have HB9 : Hid (Below w.heap.size w w9) := (HB3.out.trans (HC5.out.mono HB3.out.size)).trans (hb9.mono (HB3.out.trans (HC5.out.mono HB3.out.size)).size)
    clear hb9
    go_wp2_with fail
    go_ret
    exact ⟨rfl, HB9.out⟩
end
end Go.Proofs.Ytnblilonjpfdnaa.Jn
