/- Package chart: Shut. -/
import Derived.Test.YtialclecoamobaaChRow
namespace Go.Proofs.Ytialclecoamobaa.Ch
open Go Go.RowKit Ck Go.Maps
def badAt (M : Int → Option Acc) (code b : Int) : Bool := ((M b).getD Acc.zero).shut == decide (b = code)
def Acc.shutIt (p : Acc) : Acc := ⟨p.code, p.up, p.cls, p.name, true, p.depth, p.kids⟩
def shutM (M : Int → Option Acc) (K : List Int) (code : Int) : (Int → Option Acc) × Int :=
  if (M code).isSome = false then (M, 7) else
  if (undL M K code).any (badAt M code) = true then (M, 9) else (upd M code ((M code).getD Acc.zero).shutIt, 0)
section
variable {w : World} {c bm n : Nat} {tv : Value} {M : Int → Option Acc} {K : List Int}
set_option maxRecDepth 100000 in
theorem shut_nil (w : World) (k : Int) : Calls Try.prog 9 #[.pointer none, .int .i64 k] w fun e w' => e = .returned (.int .i64 1) ∧ Below w.heap.size w w' := by
  have KI := Lib.hid is_nil
  go_enter Try.func9, Try.ntmps9
  go_wp2_with fail
  refine (KI.out _).mono ?_
  rintro e w' ⟨rfl, rfl⟩
  go_wp2_with fail
  go_ret
  exact ⟨rfl, Below.refl _ _⟩
set_option maxRecDepth 100000 in
theorem shut_zero (h : Rw w c TCh [.map none, .slice none 0 0]) (k : Int) : Calls Try.prog 9 #[.pointer (some ⟨c, 0, none⟩), .int .i64 k] w fun e w' => e = .returned (.int .i64 1) ∧ Below w.heap.size w w' := by
  have KI := Lib.hid (is_zero h)
  clear h
  go_enter Try.func9, Try.ntmps9
  go_wp2_with fail
  refine KI.out.mono ?_
  rintro e w' ⟨rfl, rfl⟩
  go_wp2_with fail
  go_ret
  exact ⟨rfl, Below.refl _ _⟩
set_option maxRecDepth 100000 in
set_option maxHeartbeats 3200000 in
theorem shut_c (h : At w c bm tv n M K) (hw : Wd M) (code : Int) (hk : I64 code) (hn : n < 900000) (hK9 : K.length ≤ 900000) : Calls Try.prog 9 #[.pointer (some ⟨c, 0, none⟩), .int .i64 code] w (AddRes c bm n tv (shutM M K code).1 (shutM M K code).2 w) := by
  have H := Lib.hid h
  have HW := Lib.hid hw
  have HC := Lib.hid hk
  have HN := Lib.hid hn
  obtain ⟨R, hR⟩ : ∃ R, R = shutM M K code := ⟨_, rfl⟩
  rw [← hR]
  have KI := Lib.hid (is_c h)
  have KG := Lib.hid (get_c h code hk)
  unfold GetRes at KG
  obtain ⟨x, hx⟩ : ∃ x, x = (M code).getD Acc.zero := ⟨_, rfl⟩
  obtain ⟨q, hq⟩ : ∃ q, q = (M code).isSome := ⟨_, rfl⟩
  rw [← hx, ← hq] at KG
  unfold shutM at hR
  rw [← hx, ← hq] at hR
  have HX := Lib.hid hx
  have HQ := Lib.hid hq
  clear hx hq h hw hk hn
  obtain ⟨xa, xb, xc, xs, xd, xe, xf⟩ := x
  unfold Acc.val at KG
  simp only at KG
  go_enter Try.func9, Try.ntmps9
  go_wp2_with fail
  refine KI.out.mono ?_
  rintro e w' ⟨rfl, rfl⟩
  go_wp2_with fail
  refine KG.out.mono ?_
  rintro e u ⟨rfl, hb⟩
  have RX : Hid (Rw (u.alloc (.cells #[.int .i64 xa, .int .i64 xb, .int .u8 xc, .string xs, .bool xd, .int .i64 xe, .int .i64 xf] TAcc)) u.heap.size TAcc [.int .i64 xa, .int .i64 xb, .int .u8 xc, .string xs, .bool xd, .int .i64 xe, .int .i64 xf]) := Rw.new u [.int .i64 xa, .int .i64 xb, .int .u8 xc, .string xs, .bool xd, .int .i64 xe, .int .i64 xf] TAcc
  have HB1 : Hid (Below w.heap.size w (u.alloc (.cells #[.int .i64 xa, .int .i64 xb, .int .u8 xc, .string xs, .bool xd, .int .i64 xe, .int .i64 xf] TAcc))) := hb.alloc hb.size _
  have HBX : Hid (w.heap.size ≤ u.heap.size) := hb.size
  clear hb KG KI
  cases q with
  | false =>
    rw [if_pos rfl] at hR
    subst hR
    go_wp2_with fail
    go_ret
    exact add_same H.out HB1.out
  | true =>
    rw [if_neg (by decide)] at hR
    go_upto_region 6 with (fail)
    obtain ⟨bx, hbx⟩ : ∃ bx, bx = u.heap.size := ⟨_, rfl⟩
    generalize u.alloc (.cells #[.int .i64 xa, .int .i64 xb, .int .u8 xc, .string xs, .bool xd, .int .i64 xe, .int .i64 xf] TAcc) = W1 at RX HB1 ⊢
    rw [← hbx] at RX HBX ⊢
    clear hbx
    have KU := Lib.hid (under_c (H.out.later HB1.out) HW.out code HC.out (by omega))
    obtain ⟨L, hL⟩ : ∃ L, L = undL M K code := ⟨_, rfl⟩
    rw [← hL] at KU hR
    have HL := Lib.hid hL
    clear hL
    unfold IntsRes at KU
    go_wp2_with fail
    refine KU.out.mono ?_
    rintro e w2 ⟨v, rfl, hv, hb⟩
    have HB2 : Hid (Below w.heap.size w w2) := HB1.out.trans (hb.mono HB1.out.size)
    have RX2 := Lib.hid (RX.out.later hb)
    have HV := Lib.hid hv
    have HL9 : Hid (L.length ≤ 900000) := by rw [HL.out]; exact Nat.le_trans (List.length_filter_le _ _) hK9
    obtain ⟨va, vc, rfl⟩ := own_form hv
    have hb1s : Hid (w.heap.size ≤ W1.heap.size) := HB1.out.size
    clear hb hv KU RX HB1
    go_wp2_with fail
    go_loopg [26] L.length (fun kx s26 wr => ∃ (i : Nat), s26 = .int .i64 (i : Int) ∧ i ≤ L.length ∧ Hid (∀ j (h : j < L.length), j < i → badAt M code L[j] = false) ∧ Hid (Below w2.heap.size w2 wr) ∧ L.length ≤ i + kx)
    case atStart => exact ⟨0, rfl, Nat.zero_le _, fun j _ hj => by omega, Below.refl _ _, by omega⟩
    case round =>
      obtain ⟨i, rfl, hi9, HJ, HBr, hkx⟩ := hrel
      have HBw : Hid (Below w.heap.size w wr) := HB2.out.trans (HBr.out.mono HB2.out.size)
      by_cases hlt : i < L.length
      · have HVr := Lib.hid (own_later HV.out HBr.out)
        obtain ⟨ga, cap, hsl, hc⟩ := own_at HVr.out hlt
        cases hsl
        obtain ⟨b, hb⟩ : ∃ b, b = L[i] := ⟨_, rfl⟩
        rw [← hb] at hc
        have hbK : b ∈ K := by
          have : b ∈ L := by rw [hb]; exact List.getElem_mem hlt
          rw [HL.out] at this
          exact (List.mem_filter.1 this).1
        have hmem : (M b).isSome = true := (H.out.ks.mem b).1 hbK
        have hIb : I64 b := by
          cases hm : M b with
          | none => rw [hm] at hmem; cases hmem
          | some p => have := HW.out.code b p hm; unfold I64; omega
        have HR := Lib.hid (H.out.later HBw.out)
        have KG := Lib.hid (get_c HR.out b hIb)
        unfold GetRes at KG
        obtain ⟨y, hy⟩ : ∃ y, y = (M b).getD Acc.zero := ⟨_, rfl⟩
        rw [← hy, hmem] at KG
        have HBA : Hid (badAt M code b = (y.shut == decide (b = code))) := by show _ = _; rw [hy]; rfl
        have HBL := Lib.hid hb
        have j0 : (0 : Int) ≤ (i : Int) := by omega
        have j1 : (i : Int) < (L.length : Int) := by omega
        clear hb hmem hIb hy hbK
        obtain ⟨ya, yb, yc, ys, yd, ye, yf⟩ := y
        unfold Acc.val at KG
        simp only at KG HBA
        go_wp2_with fail
        refine KG.out.mono ?_
        rintro e u3 ⟨rfl, hb3⟩
        have HB3 : Hid (Below w2.heap.size w2 (u3.alloc (.cells #[.int .i64 ya, .int .i64 yb, .int .u8 yc, .string ys, .bool yd, .int .i64 ye, .int .i64 yf] TAcc))) := (HBr.out.trans (hb3.mono HBr.out.size)).alloc (Nat.le_trans HBr.out.size hb3.size) _
        have y4 : (u3.alloc (.cells #[.int .i64 ya, .int .i64 yb, .int .u8 yc, .string ys, .bool yd, .int .i64 ye, .int .i64 yf] TAcc)).cell? ⟨u3.heap.size, 4, none⟩ = some (.bool yd) := (Rw.new u3 [.int .i64 ya, .int .i64 yb, .int .u8 yc, .string ys, .bool yd, .int .i64 ye, .int .i64 yf] TAcc).cell 4
        clear hb3 KG hc
        have HBy : Hid (Below w.heap.size w (u3.alloc (.cells #[.int .i64 ya, .int .i64 yb, .int .u8 yc, .string ys, .bool yd, .int .i64 ye, .int .i64 yf] TAcc))) := HB2.out.trans (HB3.out.mono HB2.out.size)
        obtain ⟨z, hz⟩ : ∃ z, z = decide (b = code) := ⟨_, rfl⟩
        rw [← hz] at HBA
        have e1 : (b == code) = z := by
          rw [hz]
          by_cases e : b = code
          · simp [e]
          · simp [e]
        by_cases hyz : yd = z
        · have hbad : L.any (badAt M code) = true := List.any_eq_true.2 ⟨b, by rw [HBL.out]; exact List.getElem_mem hlt, by rw [HBA.out, hyz]; simp⟩
          rw [if_pos hbad] at hR
          subst hR
          clear hz hbad HJ
          cases z <;> subst hyz <;> (go_wp2_with (fail)) <;> go_ret <;> exact add_same H.out HBy.out
        · have HJ2 : Hid (∀ j (h : j < L.length), j < i + 1 → badAt M code L[j] = false) := fun j hj hji => by
            by_cases e : j = i
            · subst e
              rw [← HBL.out, HBA.out]
              cases yd <;> cases z <;> simp_all
            · exact HJ.out j hj (by omega)
          have hl9 := HL9.out
          clear hz HJ HBL HBA
          cases z <;> cases yd <;> first | (exact absurd rfl hyz) | (clear hyz; (go_wp2_with (fail)); go_roundg (L.length - (i + 1)); (case measure => omega); (case rel => exact ⟨i + 1, by simp, by omega, HJ2, HB3, by omega⟩))
      · obtain rfl : i = L.length := by omega
        have hok : ¬ L.any (badAt M code) = true := fun hb => by
          obtain ⟨b, hb1, hb2⟩ := List.any_eq_true.1 hb
          obtain ⟨j, hj, rfl⟩ := List.getElem_of_mem hb1
          rw [HJ.out j hj hj] at hb2
          cases hb2
        rw [if_neg hok] at hR
        subst hR
        clear hkx hlt hi9 hok HJ
        have RXr := Lib.hid (RX2.out.later HBr.out)
        have y4 : wr.cell? ⟨bx, 4, none⟩ = some (.bool xd) := RXr.out.cell 4
        have z4 := RXr.out.frozen 4
        go_upto_region 14 with (fail)
        have RX5 : Hid (Rw (wr.setCell ⟨bx, 4, none⟩ (.bool true)) bx TAcc [.int .i64 xa, .int .i64 xb, .int .u8 xc, .string xs, .bool true, .int .i64 xe, .int .i64 xf]) := RXr.out.setCell 4 _
        have HB5 : Hid (Below w.heap.size w (wr.setCell ⟨bx, 4, none⟩ (.bool true))) := Keeps.belowT HBw.out ((Keeps.refl (fun j => j = bx) wr).setCell bx 4 _ (.inl rfl)) (fun j hj => by cases hj; exact HBX.out) HBw.out.size
        generalize wr.setCell ⟨bx, 4, none⟩ (.bool true) = W5 at RX5 HB5 ⊢
        clear y4 z4 RXr RX2
        have q0 : W5.cell? ⟨bx, 0, none⟩ = some (.int .i64 xa) := (RX5.out).cell 0
        have q1 : W5.cell? ⟨bx, 1, none⟩ = some (.int .i64 xb) := (RX5.out).cell 1
        have q2 : W5.cell? ⟨bx, 2, none⟩ = some (.int .u8 xc) := (RX5.out).cell 2
        have q3 : W5.cell? ⟨bx, 3, none⟩ = some (.string xs) := (RX5.out).cell 3
        have q4 : W5.cell? ⟨bx, 4, none⟩ = some (.bool true) := (RX5.out).cell 4
        have q5 : W5.cell? ⟨bx, 5, none⟩ = some (.int .i64 xe) := (RX5.out).cell 5
        have q6 : W5.cell? ⟨bx, 6, none⟩ = some (.int .i64 xf) := (RX5.out).cell 6
        have HA5 := Lib.hid (H.out.keeps ((Keeps.of (fun _ => False) HB5.out).drew) fun _ _ h => h)
        have hn9 := HN.out
        have KS5 := Lib.hid (set_c HA5.out code ⟨xa, xb, xc, xs, true, xe, xf⟩ HC.out (by omega) (by omega))
        unfold Acc.val at KS5
        simp only at KS5
        clear hn9
        go_still_tail 5, (by kernel_rfl)
        change wpList _ _ _ _ _ W5.drew
        go_wp2_with fail
        refine KS5.out.mono ?_
        rintro e w1 ⟨rfl, tv1, K1, hA1, hl1, hk1, hB1⟩
        go_wp2_with fail
        go_ret
        exact ⟨rfl, tv1, K1, n + 1, by omega, .inl rfl, hA1, (Keeps.of _ HB5.out).drew.trans hk1, fun j hj => (hB1 j hj).elim .inl fun h => .inr (Nat.le_trans HB5.out.size h)⟩
end
end Go.Proofs.Ytialclecoamobaa.Ch
