/- Package chart: tells. -/
import Derived.Test.YtialclecoamobaaChHead
import Derived.BigQuiet
namespace Go.Proofs.Ytialclecoamobaa.Ch
open Go Go.RowKit Ck Go.Maps
section
variable {base c N : Nat} {w : World} {M : Int → Option Acc} {K : List Int}
set_option maxRecDepth 100000 in
set_option maxHeartbeats 3200000 in
theorem tells_c (h : Ct base w c M K N) (a : Option Addr) (cap : Nat) (hacs : Acs w a (lst M K)) (code : Int) (hc : I64 code) : Calls Try.prog 12 #[.pointer (some ⟨c, 0, none⟩), .slice a K.length cap, .int .i64 code] w fun e w' => e = .returned (.bool true) ∧ Below w.heap.size w w' := by
  have H := Lib.hid h
  have G := Lib.hid h.gm
  have HAC := Lib.hid hacs
  have HC := Lib.hid hc
  have hK9 := h.few
  have KA := Lib.hid (ct_all h)
  have HLL : Hid ((lst M K).length = K.length) := lst_len M K
  unfold AccsRes at KA
  clear h hacs hc
  go_enter Try.func12, Try.ntmps12
  go_wp2_with fail
  refine KA.out.mono ?_
  rintro e w1 ⟨v, rfl, hv, hb⟩
  obtain ⟨va, vc, rfl, hva, _⟩ := acs_own hv rfl
  have B1 : Hid (Below w.heap.size w w1) := hb
  have KS := Lib.hid (same_accs (lst M K) va a vc cap w1 hva (HAC.out.later hb) (by rw [HLL.out]; omega))
  rw [HLL.out] at KS
  simp only [HLL.out]
  clear hv hva hb KA
  go_wp2_with fail
  refine KS.out.mono ?_
  rintro e w2 ⟨rfl, hb⟩
  have B2 : Hid (Below w.heap.size w w2) := B1.out.trans (hb.mono B1.out.size)
  have KU := Lib.hid (ct_under (H.out.later B2.out) code HC.out)
  obtain ⟨L, hL⟩ : ∃ L, L = undL M K code := ⟨_, rfl⟩
  have HL9 : Hid (L.length ≤ 9999) := by rw [hL]; exact Nat.le_trans (List.length_filter_le _ _) hK9
  have KU2 : Hid (∀ u, Below w.heap.size w u → Calls Try.prog 31 #[.slice a K.length cap, .int .i64 code] u (IntsRes L u)) := fun u hu => by rw [hL]; exact under_ref G.out cap code (HAC.out.later hu)
  rw [← hL] at KU
  unfold IntsRes at KU KU2
  clear hb KS B1 hL
  go_wp2_with fail
  refine KU.out.mono ?_
  rintro e w3 ⟨v, rfl, hv, hb⟩
  have B3 : Hid (Below w.heap.size w w3) := B2.out.trans (hb.mono B2.out.size)
  obtain ⟨ua, uc, rfl, hua, _⟩ := ins_own hv rfl
  have I3 := Lib.hid hua
  clear hb hv hua KU B2
  go_wp2_with fail
  refine (KU2.out _ B3.out).mono ?_
  rintro e w4 ⟨v, rfl, hv, hb⟩
  have B4 : Hid (Below w.heap.size w w4) := B3.out.trans (hb.mono B3.out.size)
  obtain ⟨ra, rc, rfl, hra, _⟩ := ins_own hv rfl
  have KS := Lib.hid (same_ints L ua ra uc rc w4 (I3.out.later hb) hra (by have := HL9.out; omega))
  clear hb hv hra B3 KU2 I3
  go_wp2_with fail
  refine KS.out.mono ?_
  rintro e w5 ⟨rfl, hb⟩
  have B5 : Hid (Below w.heap.size w w5) := B4.out.trans (hb.mono B4.out.size)
  obtain ⟨r, hr⟩ : ∃ r, r = leafM M code := ⟨_, rfl⟩
  have KL := Lib.hid (ct_leaf (H.out.later B5.out) code HC.out)
  have KL2 : Hid (∀ u, Below w.heap.size w u → Calls Try.prog 32 #[.slice a K.length cap, .int .i64 code] u fun e w' => e = .returned (.bool r) ∧ Below u.heap.size u w') := fun u hu => by rw [hr]; exact leaf_ref G.out cap code (HAC.out.later hu)
  rw [← hr] at KL
  clear hb KS B4 hr
  go_wp2_with fail
  refine KL.out.mono ?_
  rintro e w6 ⟨rfl, hb⟩
  have B6 : Hid (Below w.heap.size w w6) := B5.out.trans (hb.mono B5.out.size)
  clear hb KL B5
  go_wp2_with fail
  refine (KL2.out _ B6.out).mono ?_
  rintro e w7 ⟨rfl, hb⟩
  have B7 : Hid (Below w.heap.size w w7) := B6.out.trans (hb.mono B6.out.size)
  have KG := Lib.hid (ct_get (H.out.later B7.out) code HC.out)
  have brr : (r != r) = false := by simp
  clear hb KL2 B6
  have KAt : Hid (∀ u, Below w.heap.size w u → Calls Try.prog 24 #[.slice a K.length cap, .int .i64 code] u (AtRes K code u)) := fun u hu => at_c G.out cap code (HAC.out.later hu)
  obtain ⟨gx, hgx⟩ : ∃ gx, gx = (getM M code).1 := ⟨_, rfl⟩
  obtain ⟨gz, hgz⟩ : ∃ gz, gz = (getM M code).2 := ⟨_, rfl⟩
  rw [← hgx, ← hgz] at KG
  have HGX := Lib.hid hgx
  have HGZ := Lib.hid hgz
  clear hgx hgz
  obtain ⟨xa, xb, xc, xs, xd⟩ := gx
  unfold A5.val at KG
  simp only at KG
  go_wp2_with fail
  refine KG.out.mono ?_
  rintro e w8 ⟨rfl, hb⟩
  have B8 : Hid (Below w.heap.size w (w8.alloc (.cells #[.int .i64 xa, .int .i64 xb, .int .u8 xc, .string xs, .bool xd] TAc))) := (B7.out.trans (hb.mono B7.out.size)).alloc (Nat.le_trans B7.out.size hb.size) _
  have R8 : Hid (Rw (w8.alloc (.cells #[.int .i64 xa, .int .i64 xb, .int .u8 xc, .string xs, .bool xd] TAc)) w8.heap.size TAc [.int .i64 xa, .int .i64 xb, .int .u8 xc, .string xs, .bool xd]) := Rw.new w8 [.int .i64 xa, .int .i64 xb, .int .u8 xc, .string xs, .bool xd] TAc
  clear hb KG B7 brr
  go_upto_region 4 with (fail)
  obtain ⟨bx, hbx⟩ : ∃ bx, bx = w8.heap.size := ⟨_, rfl⟩
  generalize w8.alloc (.cells #[.int .i64 xa, .int .i64 xb, .int .u8 xc, .string xs, .bool xd] TAc) = W8 at B8 R8 ⊢
  rw [← hbx] at R8 ⊢
  clear hbx
  go_wp2_with fail
  refine (KAt.out _ B8.out).mono ?_
  rintro e w9 ⟨rfl, z, rfl, hz⟩
  have q0 : W8.cell? ⟨bx, 0, none⟩ = some (.int .i64 xa) := R8.out.cell 0
  have q1 : W8.cell? ⟨bx, 1, none⟩ = some (.int .i64 xb) := R8.out.cell 1
  have q2 : W8.cell? ⟨bx, 2, none⟩ = some (.int .u8 xc) := R8.out.cell 2
  have q3 : W8.cell? ⟨bx, 3, none⟩ = some (.string xs) := R8.out.cell 3
  have q4 : W8.cell? ⟨bx, 4, none⟩ = some (.bool xd) := R8.out.cell 4
  rcases hz with ⟨rfl, hn⟩ | ⟨i, hi, hkc, rfl⟩
  · have hm : (M code).isSome = false := by
      cases hm : M code with
      | none => rfl
      | some p => exact absurd ((G.out.ks.mem code).2 (by rw [hm]; rfl)) hn
    have hgm : getM M code = (A5.zero, 7) := by unfold getM; rw [hm]; rfl
    have e1 := HGX.out
    have e2 := HGZ.out
    rw [hgm] at e1 e2
    unfold A5.zero at e1
    simp only [A5.mk.injEq] at e1
    obtain ⟨rfl, rfl, rfl, rfl, rfl⟩ := e1
    subst e2
    clear hm hgm hn HGX HGZ
    go_wp2_with fail
    go_ret
    exact ⟨rfl, B8.out⟩
  · obtain ⟨ab, off, p, rfl, hp, hf⟩ := G.out.five (HAC.out.later B8.out) hi
    rw [hkc] at hp hf
    have hgm : getM M code = (p.told, 0) := by unfold getM; rw [hp]; rfl
    have hpc := G.out.code _ p hp
    have e1 := HGX.out
    have e2 := HGZ.out
    rw [hgm] at e1 e2
    unfold Acc.told at e1
    simp only [A5.mk.injEq] at e1
    obtain ⟨e3, e4, e5, e6, e7⟩ := e1
    rw [hpc] at e3
    rw [← e4, ← e5, ← e6, ← e7, ← e3] at hf
    obtain ⟨f0, f1, f2, f3, f4⟩ := hf
    subst e2
    have j0 : (0 : Int) ≤ (i : Int) := by omega
    have j1 : (i : Int) < (K.length : Int) := by omega
    clear e3 e4 e5 e6 e7 hpc hgm hp hkc HGX HGZ hi
    go_wp2_with fail
    go_quiet (fail)
    go_wp2_with fail
    go_ret
    exact ⟨rfl, below_drewN B8.out _⟩
end
end Go.Proofs.Ytialclecoamobaa.Ch
