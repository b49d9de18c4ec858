/- Package journal: On. -/
import Derived.Test.YtnblilonjpfdnaaJnTidy
import Derived.Test.YtnblilonjpfdnaaJcF
namespace Go.Proofs.Ytnblilonjpfdnaa.Jn
open Go Go.RowKit Ck Ch
def lineOn (M : Int → Option Acc) (x : Ln) : Int := if (getM M x.acc).2 ≠ 0 then (getM M x.acc).2 else if (getM M x.acc).1.shut = true ∨ leafM M x.acc = false then 9 else 0
/-- The first error of a line. -/
def onL (M : Int → Option Acc) : List Ln → Int
  | [] => 0
  | x :: L => if lineOn M x ≠ 0 then lineOn M x else onL M L
def onM (M : Int → Option Acc) (d k : Int) (L : List Ln) : Int := if chkM d k L ≠ 0 then chkM d k L else onL M L
theorem onL_hit {M : Int → Option Acc} : ∀ {L : List Ln} {i : Nat} (hi : i < L.length), (∀ j (h : j < L.length), j < i → lineOn M L[j] = 0) → lineOn M L[i] ≠ 0 → onL M L = lineOn M L[i]
  | x :: L, 0, _, _, h => by exact if_pos (show lineOn M x ≠ 0 from h)
  | x :: L, i + 1, hi, h0, h => by
    unfold onL
    rw [if_neg (by have := h0 0 (by simp) (by omega); simpa using this)]
    exact onL_hit (by simpa using hi) (fun j hj hji => by have := h0 (j + 1) (by simpa using hj) (by omega); simpa using this) (by simpa using h)
theorem onL_zero {M : Int → Option Acc} : ∀ {L : List Ln}, (∀ j (h : j < L.length), lineOn M L[j] = 0) → onL M L = 0
  | [], _ => rfl
  | x :: L, h => by
    unfold onL
    rw [if_neg (by have := h 0 (by simp); simpa using this)]
    exact onL_zero fun j hj => by have := h (j + 1) (by simpa using hj); simpa using this
theorem chk_ok {d k : Int} {L : List Ln} (h : chkM d k L = 0) : badB d k L = false ∧ L.all Ln.okB = true ∧ sumL L = 0 := by
  unfold chkM at h
  by_cases h1 : badB d k L = true ∨ L.all Ln.okB = false
  · rw [if_pos h1] at h; omega
  · rw [if_neg h1] at h
    by_cases h2 : sumL L ≠ 0
    · rw [if_pos h2] at h; omega
    · refine ⟨?_, ?_, Classical.byContradiction h2⟩
      · cases hb : badB d k L with
        | false => rfl
        | true => exact absurd (.inl hb) h1
      · cases hb : L.all Ln.okB with
        | true => rfl
        | false => exact absurd (.inr hb) h1
theorem get_not1 (M : Int → Option Acc) (k : Int) : (getM M k).2 ≠ 1 := by
  unfold getM
  split <;> simp
theorem infoAc5 : (Try.prog.info? 35).map (·.size) = some 5 := by kernel_rfl
section
set_option maxRecDepth 100000
set_option maxHeartbeats 3200000
theorem on_nil (v : Value) (w : World) (hv : ∃ c0 c1 c2 c3, v = .agg #[c0, c1, c2, c3]) : Calls Try.prog 18 #[.pointer none, v] w fun e w' => e = .returned (.int .i64 1) ∧ Below w.heap.size w w' := by
  obtain ⟨c0, c1, c2, c3, rfl⟩ := hv
  have KG := Lib.hid (gets_nil 0)
  have HB0 : Hid (Below w.heap.size w (w.alloc (.cells #[c0, c1, c2, c3] TEn))) := (Below.refl _ w).alloc (Nat.le_refl _) _
  have HINF := Lib.hid infoAc5
  unfold A5.val A5.zero at KG
  simp only at KG
  go_enter Try.func18, Try.ntmps18
  go_wp2_with fail
  refine (KG.out _).mono ?_
  rintro _ w1 ⟨rfl, hb1⟩
  have HB1 : Hid (Below w.heap.size w w1) := HB0.out.trans (hb1.mono HB0.out.size)
  clear hb1 KG
  go_wp2_with fail
  go_ret
  exact ⟨rfl, HB1.out.alloc HB1.out.size _⟩
theorem on_c {base : Nat} {w : World} {c : Nat} {M : Int → Option Acc} {K : List Int} {N : Nat} (h : Ct base w c M K N) (d k s : Int) (L : List Ln) (a : Option Addr) (cap : Nat) (hL : Lns w a L) (hl : L.length ≤ 1000000) : Calls Try.prog 18 #[.pointer (some ⟨c, 0, none⟩), (.agg #[.int .i64 d, .int .u8 k, .int .u64 s, .slice a L.length cap])] w fun e w' => e = .returned (.int .i64 (onM M d k L)) ∧ Below w.heap.size w w' := by
  have KG : Hid (∀ code u, I64 code → Below w.heap.size w u → Calls Try.prog 31 #[.pointer (some ⟨c, 0, none⟩), .int .i64 code] u fun e w' => e = .returned (.tuple #[(getM M code).1.val, .int .i64 (getM M code).2]) ∧ Below u.heap.size u w') := fun code u hc hb => ct_get (h.later hb) code hc
  have KF : Hid (∀ code u, I64 code → Below w.heap.size w u → Calls Try.prog 33 #[.pointer (some ⟨c, 0, none⟩), .int .i64 code] u fun e w' => e = .returned (.bool (leafM M code)) ∧ Below u.heap.size u w') := fun code u hc hb => ct_leaf (h.later hb) code hc
  have HL9 := Lib.hid hl
  have H := Lib.hid hL
  obtain ⟨R, hR⟩ : ∃ R, R = onM M d k L := ⟨_, rfl⟩
  rw [← hR]
  have HR := Lib.hid hR
  clear h hR hL
  have HINF := Lib.hid infoAc5
  have HB0 : Hid (Below w.heap.size w (w.alloc (.cells #[.int .i64 d, .int .u8 k, .int .u64 s, .slice a L.length cap] TEn))) := (Below.refl _ w).alloc (Nat.le_refl _) _
  have RE0 : Hid (Rw (w.alloc (.cells #[.int .i64 d, .int .u8 k, .int .u64 s, .slice a L.length cap] TEn)) w.heap.size TEn [.int .i64 d, .int .u8 k, .int .u64 s, .slice a L.length cap]) := Rw.new w [.int .i64 d, .int .u8 k, .int .u64 s, .slice a L.length cap] TEn
  have K0 := Lib.hid (KG.out 0 _ (by unfold I64; omega) HB0.out)
  have N0 : Hid ((getM M 0).2 ≠ 1) := get_not1 M 0
  obtain ⟨⟨⟨g0, g1, g2, g3, g4⟩, z0⟩, hz0⟩ : ∃ r, r = getM M 0 := ⟨_, rfl⟩
  rw [← hz0] at K0 N0
  unfold A5.val at K0
  simp only at K0 N0
  clear hz0
  obtain ⟨be, hbe⟩ : ∃ be, be = w.heap.size := ⟨_, rfl⟩
  rw [← hbe] at RE0
  have HBE := Lib.hid hbe
  clear hbe
  go_enter Try.func18, Try.ntmps18
  go_wp2_with fail
  refine K0.out.mono ?_
  rintro _ w1 ⟨rfl, hb1⟩
  rw [← HBE.out]
  have HB1 : Hid (Below w.heap.size w w1) := HB0.out.trans (hb1.mono HB0.out.size)
  have RE1 := Lib.hid (RE0.out.later hb1)
  clear hb1 K0 RE0 HB0
  go_upto_region 2 with (fail)
  have hb1 : Below w1.heap.size w1 (w1.alloc (.cells #[.int .i64 g0, .int .i64 g1, .int .u8 g2, .string g3, .bool g4] TAc)) := (Below.refl _ w1).alloc (Nat.le_refl _) _
  have HB2 : Hid (Below w.heap.size w (w1.alloc (.cells #[.int .i64 g0, .int .i64 g1, .int .u8 g2, .string g3, .bool g4] TAc))) := HB1.out.trans (hb1.mono HB1.out.size)
  have RE2 := Lib.hid (RE1.out.later hb1)
  generalize w1.alloc (.cells #[.int .i64 g0, .int .i64 g1, .int .u8 g2, .string g3, .bool g4] TAc) = W2 at HB2 RE2 ⊢
  clear hb1 RE1 HB1
  have KC := Lib.hid (check_c d k s L a cap W2 (H.out.later HB2.out) hl)
  obtain ⟨ch, hch⟩ : ∃ ch, ch = chkM d k L := ⟨_, rfl⟩
  rw [← hch] at KC
  have HCH := Lib.hid hch
  have e0 : W2.cell? ⟨be, 0, none⟩ = some (.int .i64 d) := RE2.out.cell 0
  have e1 : W2.cell? ⟨be, 1, none⟩ = some (.int .u8 k) := RE2.out.cell 1
  have e2 : W2.cell? ⟨be, 2, none⟩ = some (.int .u64 s) := RE2.out.cell 2
  have e3 : W2.cell? ⟨be, 3, none⟩ = some (.slice a L.length cap) := RE2.out.cell 3
  have n0 : (z0 == 1) = false := beq_eq_false_iff_ne.2 N0.out
  clear hch hl
  go_wp2_with fail
  refine KC.out.mono ?_
  rintro _ W3 ⟨rfl, hb3⟩
  have HB3 : Hid (Below w.heap.size w W3) := HB2.out.trans (hb3.mono HB2.out.size)
  have RE3 := Lib.hid (RE2.out.later hb3)
  clear e0 e1 e2 e3 n0 hb3 HB2 RE2 KC N0
  by_cases hc0 : ch = 0
  · subst hc0
    have HCK := Lib.hid (chk_ok HCH.out.symm)
    have HRR : Hid (R = onL M L) := by show _ = _; rw [HR.out]; unfold onM; rw [← HCH.out, if_neg (by simp)]
    have HLEN : Hid (L.length ≤ 64) := by
      have := HCK.out.1
      unfold badB at this
      simp at this
      show _ ≤ _
      omega
    clear HCH HR
    have e3 : W3.cell? ⟨be, 3, none⟩ = some (.slice a L.length cap) := RE3.out.cell 3
    go_upto_region 8 with (fail)
    clear e3
    go_loopg [28] L.length (fun kx s28 wr => ∃ i : Nat, s28 = .int .i64 (i : Int) ∧ i ≤ L.length ∧ Hid (∀ j (h : j < L.length), j < i → lineOn M L[j] = 0) ∧ Hid (Below w.heap.size w wr) ∧ L.length ≤ i + kx)
    case atStart => exact ⟨0, rfl, Nat.zero_le _, fun j _ hj => by omega, HB3.out, by omega⟩
    case round =>
      obtain ⟨i, rfl, hi9, HJ, HC, hkx⟩ := hrel
      by_cases hlt : i < L.length
      · obtain ⟨ab, ao, rfl, _, hc⟩ := (H.out.later HC.out) i hlt
        have c0 := hc 0 _ rfl
        have c1 := hc 1 _ rfl
        have c2 := hc 2 _ rfl
        have c3 := hc 3 _ rfl
        have HLN : Hid (lineOn M L[i] ≠ 0 → R = lineOn M L[i]) := fun hn => HRR.out.trans (onL_hit hlt HJ.out hn)
        have HLZ : Hid (lineOn M L[i] = 0 → ∀ j (h : j < L.length), j < i + 1 → lineOn M L[j] = 0) := fun hz j hj hji => by
          by_cases e : j = i
          · subst e; exact hz
          · exact HJ.out j hj (by omega)
        have HOK : Hid (I64 L[i].acc) := by
          have := okB_amt (List.all_eq_true.1 HCK.out.2.1 _ (List.getElem_mem hlt))
          show I64 _
          unfold I64
          omega
        obtain ⟨x, hx⟩ : ∃ x, x = L[i] := ⟨_, rfl⟩
        rw [← hx] at c0 c1 c2 c3 HLN HLZ HOK
        have j0 : (0 : Int) ≤ (i : Int) := by omega
        have j1 : (i : Int) < (L.length : Int) := by omega
        have j2 : L.length ≤ 64 := HLEN.out
        have HLT := Lib.hid hlt
        have HKX := Lib.hid hkx
        rw [Nat.add_zero] at c0
        clear hc hx hlt hkx HJ
        obtain ⟨xa, xb, xc, xd⟩ := x
        unfold lineOn at HLN HLZ
        simp only at c0 c1 c2 c3 HOK HLN HLZ
        go_upto_region 10 with (fail)
        have hb1 : Below wr.heap.size wr (wr.alloc (.cells #[.int .i64 xa, .int .u64 xb, .int .u64 xc, .int .i64 xd] TLine)) := (Below.refl _ _).alloc (Nat.le_refl _) _
        have HC1 : Hid (Below w.heap.size w (wr.alloc (.cells #[.int .i64 xa, .int .u64 xb, .int .u64 xc, .int .i64 xd] TLine))) := HC.out.trans (hb1.mono HC.out.size)
        have RX1 : Hid (Rw (wr.alloc (.cells #[.int .i64 xa, .int .u64 xb, .int .u64 xc, .int .i64 xd] TLine)) wr.heap.size TLine [.int .i64 xa, .int .u64 xb, .int .u64 xc, .int .i64 xd]) := Rw.new wr [.int .i64 xa, .int .u64 xb, .int .u64 xc, .int .i64 xd] TLine
        obtain ⟨bx, hbx⟩ : ∃ bx, bx = wr.heap.size := ⟨_, rfl⟩
        rw [← hbx] at RX1 ⊢
        generalize wr.alloc (.cells #[.int .i64 xa, .int .u64 xb, .int .u64 xc, .int .i64 xd] TLine) = W4 at HC1 RX1 ⊢
        clear c0 c1 c2 c3 hb1 hbx HC
        have K1 := Lib.hid (KG.out xa W4 HOK.out HC1.out)
        have K2 : Hid (∀ u, Below w.heap.size w u → Calls Try.prog 33 #[.pointer (some ⟨c, 0, none⟩), .int .i64 xa] u fun e w' => e = .returned (.bool (leafM M xa)) ∧ Below u.heap.size u w') := fun u hu => KF.out xa u HOK.out hu
        obtain ⟨⟨⟨g0, g1, g2, g3, sh⟩, z1⟩, hz1⟩ : ∃ r, r = getM M xa := ⟨_, rfl⟩
        rw [← hz1] at K1 HLN HLZ
        unfold A5.val at K1
        simp only at K1 HLN HLZ
        obtain ⟨lf, hlf⟩ : ∃ lf, lf = leafM M xa := ⟨_, rfl⟩
        rw [← hlf] at K2 HLN HLZ
        clear hz1 hlf
        have d0 : W4.cell? ⟨bx, 0, none⟩ = some (.int .i64 xa) := RX1.out.cell 0
        go_wp2_with fail
        refine K1.out.mono ?_
        rintro _ W5 ⟨rfl, hb5⟩
        have HC5 : Hid (Below w.heap.size w W5) := HC1.out.trans (hb5.mono HC1.out.size)
        have RX5 := Lib.hid (RX1.out.later hb5)
        clear d0 K1 hb5 HC1 RX1
        go_upto_region 11 with (fail)
        have hb1 : Below W5.heap.size W5 (W5.alloc (.cells #[.int .i64 g0, .int .i64 g1, .int .u8 g2, .string g3, .bool sh] TAc)) := (Below.refl _ W5).alloc (Nat.le_refl _) _
        have HC6 : Hid (Below w.heap.size w (W5.alloc (.cells #[.int .i64 g0, .int .i64 g1, .int .u8 g2, .string g3, .bool sh] TAc))) := HC5.out.trans (hb1.mono HC5.out.size)
        have RX6 := Lib.hid (RX5.out.later hb1)
        have RG6 : Hid (Rw (W5.alloc (.cells #[.int .i64 g0, .int .i64 g1, .int .u8 g2, .string g3, .bool sh] TAc)) W5.heap.size TAc [.int .i64 g0, .int .i64 g1, .int .u8 g2, .string g3, .bool sh]) := Rw.new W5 [.int .i64 g0, .int .i64 g1, .int .u8 g2, .string g3, .bool sh] TAc
        obtain ⟨bg, hbg⟩ : ∃ bg, bg = W5.heap.size := ⟨_, rfl⟩
        rw [← hbg] at RG6 ⊢
        generalize W5.alloc (.cells #[.int .i64 g0, .int .i64 g1, .int .u8 g2, .string g3, .bool sh] TAc) = W6 at HC6 RX6 RG6 ⊢
        clear hb1 hbg HC5 RX5
        by_cases hz : z1 = 0
        · have n1 : (z1 == 0) = true := beq_iff_eq.2 hz
          subst hz
          rw [if_neg (by simp)] at HLN HLZ
          have d4 : W6.cell? ⟨bg, 4, none⟩ = some (.bool sh) := RG6.out.cell 4
          cases sh with
          | true =>
            have HRZ : Hid (R = 9) := by
              have := HLN.out
              rw [if_pos (.inl rfl)] at this
              exact this (by decide)
            clear HLN HLZ n1
            go_wp2_with fail
            go_ret
            exact ⟨ret_int (z := 9) HRZ.out, HC6.out⟩
          | false =>
            have d0 : W6.cell? ⟨bx, 0, none⟩ = some (.int .i64 xa) := RX6.out.cell 0
            clear n1
            go_wp2_with fail
            refine (K2.out W6 HC6.out).mono ?_
            rintro _ W7 ⟨rfl, hb7⟩
            have HC7 : Hid (Below w.heap.size w W7) := HC6.out.trans (hb7.mono HC6.out.size)
            clear d0 d4 hb7 HC6 RX6 RG6 K2
            cases lf with
            | false =>
              have HRZ : Hid (R = 9) := by
                have := HLN.out
                rw [if_pos (.inr rfl)] at this
                exact this (by decide)
              clear HLN HLZ
              go_wp2_with fail
              go_ret
              exact ⟨ret_int (z := 9) HRZ.out, HC7.out⟩
            | true =>
              have HJ2 := Lib.hid (HLZ.out (by rw [if_neg (by simp)]))
              clear HLN HLZ
              go_wp2_with fail
              have hlt := HLT.out
              have hkx := HKX.out
              go_roundg (L.length - (i + 1))
              case measure => omega
              case rel => exact ⟨i + 1, by simp, by omega, HJ2, HC7, by omega⟩
        · have n1 : (z1 == 0) = false := beq_eq_false_iff_ne.2 hz
          have n2 : (z1 != 0) = true := by simpa using hz
          have HRZ : Hid (R = z1) := by
            have := HLN.out
            rw [if_pos hz] at this
            exact this hz
          clear HLN HLZ hz K2
          go_wp2_with fail
          go_ret
          exact ⟨ret_int (z := z1) HRZ.out, HC6.out⟩
      · obtain rfl : i = L.length := by omega
        clear hkx hlt hi9
        have HRZ : Hid (R = 0) := HRR.out.trans (onL_zero fun j hj => HJ.out j hj hj)
        go_wp2_with fail
        go_ret
        exact ⟨ret_int (z := 0) HRZ.out, HC.out⟩
  · have HRZ : Hid (R = ch) := by show _ = _; rw [HR.out]; unfold onM; rw [← HCH.out, if_pos hc0]
    have n1 : (ch == 0) = false := beq_eq_false_iff_ne.2 hc0
    have n2 : (ch != 0) = true := by simpa using hc0
    clear HR HCH hc0
    go_wp2_with fail
    go_ret
    exact ⟨ret_int (z := ch) HRZ.out, HB3.out⟩
end
end Go.Proofs.Ytnblilonjpfdnaa.Jn
