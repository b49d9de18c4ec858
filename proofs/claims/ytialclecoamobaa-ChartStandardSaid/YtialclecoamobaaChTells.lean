/- ChartTells. -/
import Derived.Test.YtialclecoamobaaChTell
namespace Go.Proofs.Ytialclecoamobaa.Ch
open Go Go.RowKit Ck Go.Maps
/-- An act. -/
structure Ta where
  what : Bool
  a : A5
def Ta.cs (x : Ta) : List Value := [.bool x.what, .int .i64 x.a.code, .int .i64 x.a.up, .int .u8 x.a.cls, .string x.a.name, .bool x.a.shut]
/-- Acts in memory. -/
def Tas (w : World) (a : Option Addr) (A : List Ta) : Prop := ∀ j (h : j < A.length), ∃ b off, a = some ⟨b, off, none⟩ ∧ b < w.heap.size ∧ ∀ i v, A[j].cs[i]? = some v → w.cell? ⟨b, off + j * 6 + i, none⟩ = some v
theorem Tas.later {w w' : World} {a : Option Addr} {A : List Ta} {lo : Nat} (h : Tas w a A) (hb : Below lo w w') (hlo : w.heap.size ≤ lo) : Tas w' a A := fun j hj => by
  obtain ⟨b, off, ha, hlt, hc⟩ := h j hj
  exact ⟨b, off, ha, Nat.lt_of_lt_of_le hlt hb.size, fun i v hv => by rw [hb.cell (by show b < lo; omega)]; exact hc i v hv⟩
theorem rres_own {base : Nat} {M' : Int → Option Acc} {z : Int} {w w' : World} {e : Ending} (h : RRes base M' z w e w') : ∃ (a : Option Addr) (cap : Nat) (K' : List Int), e = .returned (.tuple #[.slice a K'.length cap, .int .i64 z]) ∧ Ks M' K' ∧ w'.ownsRow base TAc 5 (.slice a K'.length cap) K'.length (flatA (lst M' K')) ∧ Below w.heap.size w w' := by
  obtain ⟨v', K', h1, h2, h3, h4⟩ := h
  obtain ⟨a, cap, e1, _⟩ := acs_own h3 (lst_len M' K').symm
  rw [lst_len] at e1
  subst e1
  exact ⟨a, cap, K', h1, h2, h3, h4⟩
theorem own_acs {w : World} {base cap : Nat} {a : Option Addr} {M : Int → Option Acc} {K : List Int} (h : w.ownsRow base TAc 5 (.slice a K.length cap) K.length (flatA (lst M K))) : Acs w a (lst M K) := by
  obtain ⟨a', cap', e, h1, _⟩ := acs_own h (lst_len M K).symm
  rw [lst_len] at e
  cases e
  exact h1
set_option maxRecDepth 100000 in
set_option maxHeartbeats 6400000 in
theorem tells_law (A : List Ta) (a : Option Addr) (cap : Nat) (cls : Int) (w : World) (hA : Tas w a A) (hf : ∀ x ∈ A, x.a.Fits) (hl : A.length ≤ maxLen) :
    Calls Try.prog 3 #[.slice a A.length cap, .int .u8 cls] w fun e w' => e = .returned (.bool true) ∧ Below w.heap.size w w' := by
  have HA := Lib.hid hA
  have HF := Lib.hid hf
  have HL := Lib.hid hl
  clear hA hf hl
  go_enter Try.func3, Try.ntmps3
  go_wp2_with fail
  refine (ct_new w).mono ?_
  rintro e w1 ⟨c, rfl, h1, l1⟩
  have H1 := Lib.hid h1
  have B1 : Hid (Below w.heap.size w w1) := l1.b
  clear h1 l1
  go_wp2_with fail
  go_loopg [6, 7] 40 (fun kx s6 s7 wr => ∃ (i N : Nat) (M : Int → Option Acc) (K : List Int) (vv : Value), s7 = .int .i64 (i : Int) ∧ vv = s6 ∧ i ≤ 40 ∧ i ≤ A.length ∧ N ≤ i ∧ Hid (Ct w.heap.size wr c M K N) ∧ Hid (wr.ownsRow w.heap.size TAc 5 vv K.length (flatA (lst M K))) ∧ Hid (Below w.heap.size w wr) ∧ 40 ≤ i + kx)
  case atStart => exact ⟨0, 0, _, [], _, rfl, rfl, by omega, Nat.zero_le _, Nat.le_refl _, H1, World.ownsRow_nil _ _ _ _, B1, by omega⟩
  case round =>
    obtain ⟨i, N, M, K, vv, rfl, hvv, hi40, hiA, hN, HCt, HQ, HB, hkx⟩ := hrel
    by_cases hgo : i < A.length ∧ i < 40
    · obtain ⟨hlt, hlt40⟩ := hgo
      obtain ⟨va, vc, hve⟩ : ∃ va vc, vv = .slice va K.length vc := by
        obtain ⟨x1, x2, e, _⟩ := acs_own HQ.out (lst_len M K).symm
        rw [lst_len] at e
        exact ⟨x1, x2, e⟩
      subst hve
      subst hvv
      obtain ⟨ab, ao, rfl, _, hc⟩ := (HA.out.later HB.out (Nat.le_refl _)) i hlt
      obtain ⟨y, hy⟩ : ∃ y, y = A[i] := ⟨_, rfl⟩
      have hyf := HF.out A[i] (List.getElem_mem hlt)
      rw [← hy] at hc hyf
      have c0 : wr.cell? ⟨ab, ao + i * 6, none⟩ = some (.bool y.what) := hc 0 _ rfl
      have c1 : wr.cell? ⟨ab, ao + i * 6 + 1, none⟩ = some (.int .i64 y.a.code) := hc 1 _ rfl
      have c2 : wr.cell? ⟨ab, ao + i * 6 + 1 + 1, none⟩ = some (.int .i64 y.a.up) := hc 2 _ rfl
      have c3 : wr.cell? ⟨ab, ao + i * 6 + 1 + 2, none⟩ = some (.int .u8 y.a.cls) := hc 3 _ rfl
      have c4 : wr.cell? ⟨ab, ao + i * 6 + 1 + 3, none⟩ = some (.string y.a.name) := hc 4 _ rfl
      have c5 : wr.cell? ⟨ab, ao + i * 6 + 1 + 4, none⟩ = some (.bool y.a.shut) := hc 5 _ rfl
      have HY := Lib.hid hyf
      have HN9 : Hid (N ≤ 400000) := by show _ ≤ _; omega
      have HN1 : Hid (N + 1 ≤ i + 1) := by show _ ≤ _; omega
      have HLT := Lib.hid hlt
      have HLT40 := Lib.hid hlt40
      have HKX := Lib.hid hkx
      have j0 : (0 : Int) ≤ (i : Int) := by omega
      have j1 : (i : Int) < (A.length : Int) := by omega
      have j2 : (i : Int) < 40 := by omega
      clear hc hy hyf hN hiA hi40 hkx hlt hlt40
      obtain ⟨what, xa, xb, xc, xs, xd⟩ := y
      simp only at c0 c1 c2 c3 c4 c5 HY
      have R8 : Hid (Rw (wr.alloc (.cells #[.int .i64 xa, .int .i64 xb, .int .u8 xc, .string xs, .bool xd] TAc)) wr.heap.size TAc [.int .i64 xa, .int .i64 xb, .int .u8 xc, .string xs, .bool xd]) := Rw.new wr [.int .i64 xa, .int .i64 xb, .int .u8 xc, .string xs, .bool xd] TAc
      have hbw : Below wr.heap.size wr (wr.alloc (.cells #[.int .i64 xa, .int .i64 xb, .int .u8 xc, .string xs, .bool xd] TAc)) := (Below.refl _ wr).alloc (Nat.le_refl _) _
      have B8 : Hid (Below w.heap.size w (wr.alloc (.cells #[.int .i64 xa, .int .i64 xb, .int .u8 xc, .string xs, .bool xd] TAc))) := HB.out.trans (hbw.mono HB.out.size)
      have C8 := Lib.hid (HCt.out.later hbw)
      have Q8 := Lib.hid (own_later HQ.out hbw)
      have C0 : Hid ((wr.alloc (.cells #[.int .i64 xa, .int .i64 xb, .int .u8 xc, .string xs, .bool xd] TAc)).cell? ⟨ab, ao + i * 6, none⟩ = some (.bool what)) := (hbw.cell (by have := World.block_lt_of_cell? _ _ c0; exact this)).trans c0
      clear hbw
      go_upto_region 7 with (fail)
      obtain ⟨bx, hbx⟩ : ∃ bx, bx = wr.heap.size := ⟨_, rfl⟩
      generalize wr.alloc (.cells #[.int .i64 xa, .int .i64 xb, .int .u8 xc, .string xs, .bool xd] TAc) = W8 at R8 B8 C8 Q8 C0 ⊢
      have HBX : Hid (w.heap.size ≤ bx) := by rw [hbx]; exact HB.out.size
      rw [← hbx] at R8 ⊢
      clear hbx c0 c1 c2 c3 c4 c5 HB HCt HQ
      have q3 : W8.cell? ⟨bx, 3, none⟩ = some (.string xs) := R8.out.cell 3
      have q0 : W8.cell? ⟨bx, 0, none⟩ = some (.int .i64 xa) := R8.out.cell 0
      have q1 : W8.cell? ⟨bx, 1, none⟩ = some (.int .i64 xb) := R8.out.cell 1
      have q2 : W8.cell? ⟨bx, 2, none⟩ = some (.int .u8 xc) := R8.out.cell 2
      have q4 : W8.cell? ⟨bx, 4, none⟩ = some (.bool xd) := R8.out.cell 4
      have c0 := C0.out
      have hx9 := HY.out.name
      simp only at hx9
      by_cases h200 : 200 < xs.size
      · have h2 : (200 : Int) < (xs.size : Int) := by omega
        clear h200 hx9
        go_wp2_with fail
        refine (head_c _).mono ?_
        rintro e w2 ⟨rfl, hb⟩
        go_wp2_with fail
        go_ret
        exact ⟨rfl, B8.out.trans (hb.mono B8.out.size)⟩
      have h2 : ¬ (200 : Int) < (xs.size : Int) := by omega
      clear h200 hx9
      cases what with
      | true =>
      · have KR := Lib.hid (rshut_c C8.out.gm xa _ w.heap.size B8.out.size Q8.out)
        obtain ⟨M', hM'⟩ : ∃ M', M' = (shutM M K xa).1 := ⟨_, rfl⟩
        obtain ⟨z, hz⟩ : ∃ z, z = (shutM M K xa).2 := ⟨_, rfl⟩
        rw [← hM', ← hz] at KR
        have KC : Hid (∀ u, Ct w.heap.size u c M K N → w.heap.size ≤ u.heap.size → Calls Try.prog 9 #[.pointer (some ⟨c, 0, none⟩), .int .i64 xa] u (ARes w.heap.size c M' (N + 1) z u)) := fun u h1 h2 => by rw [hM', hz]; exact ct_shut h1 h2 xa HY.out.code HN9.out
        
        
        have bzz : (z != z) = false := by simp
        clear hM' hz
        go_wp2_with fail
        refine KR.out.mono ?_
        intro e w2 hr
        obtain ⟨qa, qc, K', rfl, hk', hq', hb⟩ := rres_own hr
        have B9 : Hid (Below w.heap.size w w2) := B8.out.trans (hb.mono B8.out.size)
        have C9 := Lib.hid (C8.out.later hb)
        have Q9 := Lib.hid hq'
        have HK9 := Lib.hid hk'
        have R9 := Lib.hid (R8.out.later hb)
        clear hr hk' hq' hb KR q0 q1 q2 q3 q4 c0 C0
        have q0 : w2.cell? ⟨bx, 0, none⟩ = some (.int .i64 xa) := R9.out.cell 0
        have q1 : w2.cell? ⟨bx, 1, none⟩ = some (.int .i64 xb) := R9.out.cell 1
        have q2 : w2.cell? ⟨bx, 2, none⟩ = some (.int .u8 xc) := R9.out.cell 2
        have q3 : w2.cell? ⟨bx, 3, none⟩ = some (.string xs) := R9.out.cell 3
        have q4 : w2.cell? ⟨bx, 4, none⟩ = some (.bool xd) := R9.out.cell 4
        go_wp2_with fail
        refine (KC.out w2 C9.out B9.out.size).mono ?_
        rintro e w3 ⟨rfl, ⟨K9, h9⟩, l9⟩
        obtain rfl : K9 = K' := h9.gm.ks.unique HK9.out
        have B10 : Hid (Below w.heap.size w w3) := B9.out.trans l9.b
        have C10 := Lib.hid h9
        have Q10 := Lib.hid (l9.s.own Q9.out)
        have R10 := Lib.hid (l9.s.rw R9.out)
        clear h9 l9 KC C9 Q9 R9 B9 HK9 q0 q1 q2 q3 q4
        have q0 : w3.cell? ⟨bx, 0, none⟩ = some (.int .i64 xa) := R10.out.cell 0
        have KT := Lib.hid (tells_c C10.out qa qc (own_acs Q10.out) xa HY.out.code)
        go_wp2_with fail
        refine KT.out.mono ?_
        rintro e w4 ⟨rfl, hb⟩
        have B11 : Hid (Below w.heap.size w w4) := B10.out.trans (hb.mono B10.out.size)
        have C11 := Lib.hid (C10.out.later hb)
        have Q11 := Lib.hid (own_later Q10.out hb)
        have q1 : w4.cell? ⟨bx, 1, none⟩ = some (.int .i64 xb) := (R10.out.later hb).cell 1
        have KT2 := Lib.hid (tells_c C11.out qa qc (own_acs Q11.out) xb HY.out.up)
        clear hb KT B10 C10 Q10 R10 q0 bzz
        go_wp2_with fail
        refine KT2.out.mono ?_
        rintro e w5 ⟨rfl, hb⟩
        have B12 : Hid (Below w.heap.size w w5) := B11.out.trans (hb.mono B11.out.size)
        have C12 := Lib.hid (C11.out.later hb)
        have Q12 := Lib.hid (own_later Q11.out hb)
        clear hb KT2 B11 C11 Q11 q1
        go_wp2_with fail
        go_roundg (40 - (i + 1))
        case measure => have := HLT40.out; have := HKX.out; omega
        case rel => have h1 := HLT.out; have h2 := HLT40.out; exact ⟨i + 1, N + 1, M', K9, _, by simp, rfl, by omega, by omega, HN1.out, C12, Q12, B12, by omega⟩
      | false =>
      · have KR := Lib.hid (radd_c C8.out.gm ⟨xa, xb, xc, xs, xd⟩ HY.out _ w.heap.size B8.out.size Q8.out)
        obtain ⟨M', hM'⟩ : ∃ M', M' = (addM M ⟨xa, xb, xc, xs, xd⟩).1 := ⟨_, rfl⟩
        obtain ⟨z, hz⟩ : ∃ z, z = (addM M ⟨xa, xb, xc, xs, xd⟩).2 := ⟨_, rfl⟩
        rw [← hM', ← hz] at KR
        have KC : Hid (∀ u, Ct w.heap.size u c M K N → w.heap.size ≤ u.heap.size → Calls Try.prog 11 #[.pointer (some ⟨c, 0, none⟩), (⟨xa, xb, xc, xs, xd⟩ : A5).val] u (ARes w.heap.size c M' (N + 1) z u)) := fun u h1 h2 => by rw [hM', hz]; exact ct_add h1 h2 ⟨xa, xb, xc, xs, xd⟩ HY.out HN9.out
        unfold A5.val at KR KC
        simp only at KR KC
        have bzz : (z != z) = false := by simp
        clear hM' hz
        go_wp2_with fail
        refine KR.out.mono ?_
        intro e w2 hr
        obtain ⟨qa, qc, K', rfl, hk', hq', hb⟩ := rres_own hr
        have B9 : Hid (Below w.heap.size w w2) := B8.out.trans (hb.mono B8.out.size)
        have C9 := Lib.hid (C8.out.later hb)
        have Q9 := Lib.hid hq'
        have HK9 := Lib.hid hk'
        have R9 := Lib.hid (R8.out.later hb)
        clear hr hk' hq' hb KR q0 q1 q2 q3 q4 c0 C0
        have q0 : w2.cell? ⟨bx, 0, none⟩ = some (.int .i64 xa) := R9.out.cell 0
        have q1 : w2.cell? ⟨bx, 1, none⟩ = some (.int .i64 xb) := R9.out.cell 1
        have q2 : w2.cell? ⟨bx, 2, none⟩ = some (.int .u8 xc) := R9.out.cell 2
        have q3 : w2.cell? ⟨bx, 3, none⟩ = some (.string xs) := R9.out.cell 3
        have q4 : w2.cell? ⟨bx, 4, none⟩ = some (.bool xd) := R9.out.cell 4
        go_wp2_with fail
        refine (KC.out w2 C9.out B9.out.size).mono ?_
        rintro e w3 ⟨rfl, ⟨K9, h9⟩, l9⟩
        obtain rfl : K9 = K' := h9.gm.ks.unique HK9.out
        have B10 : Hid (Below w.heap.size w w3) := B9.out.trans l9.b
        have C10 := Lib.hid h9
        have Q10 := Lib.hid (l9.s.own Q9.out)
        have R10 := Lib.hid (l9.s.rw R9.out)
        clear h9 l9 KC C9 Q9 R9 B9 HK9 q0 q1 q2 q3 q4
        have q0 : w3.cell? ⟨bx, 0, none⟩ = some (.int .i64 xa) := R10.out.cell 0
        have KT := Lib.hid (tells_c C10.out qa qc (own_acs Q10.out) xa HY.out.code)
        go_wp2_with fail
        refine KT.out.mono ?_
        rintro e w4 ⟨rfl, hb⟩
        have B11 : Hid (Below w.heap.size w w4) := B10.out.trans (hb.mono B10.out.size)
        have C11 := Lib.hid (C10.out.later hb)
        have Q11 := Lib.hid (own_later Q10.out hb)
        have q1 : w4.cell? ⟨bx, 1, none⟩ = some (.int .i64 xb) := (R10.out.later hb).cell 1
        have KT2 := Lib.hid (tells_c C11.out qa qc (own_acs Q11.out) xb HY.out.up)
        clear hb KT B10 C10 Q10 R10 q0 bzz
        go_wp2_with fail
        refine KT2.out.mono ?_
        rintro e w5 ⟨rfl, hb⟩
        have B12 : Hid (Below w.heap.size w w5) := B11.out.trans (hb.mono B11.out.size)
        have C12 := Lib.hid (C11.out.later hb)
        have Q12 := Lib.hid (own_later Q11.out hb)
        clear hb KT2 B11 C11 Q11 q1
        go_wp2_with fail
        go_roundg (40 - (i + 1))
        case measure => have := HLT40.out; have := HKX.out; omega
        case rel => have h1 := HLT.out; have h2 := HLT40.out; exact ⟨i + 1, N + 1, M', K9, _, by simp, rfl, by omega, by omega, HN1.out, C12, Q12, B12, by omega⟩
    · have hend : Hid (Below w.heap.size w wr) := HB
      have KS : Hid (∀ u, Calls Try.prog 13 #[.int .u8 cls] u fun e w' => e = .returned (.int .i64 (sideM cls)) ∧ u = w') := fun u => side_c u cls
      have KS2 : Hid (∀ u, Calls Try.prog 14 #[.int .u8 cls] u fun e w' => e = .returned (.int .i64 (sideM cls)) ∧ u = w') := fun u => rside_c u cls
      obtain ⟨sd, hsd⟩ : ∃ sd, sd = sideM cls := ⟨_, rfl⟩
      rw [← hsd] at KS KS2
      have hout : ((i : Int) < (A.length : Int) ∧ ¬ (i : Int) < 40) ∨ ¬ (i : Int) < (A.length : Int) := by omega
      clear hsd hgo HCt HQ hvv hi40 hiA hN hkx
      rcases hout with ⟨o1, o2⟩ | o1 <;> (go_wp2_with (fail)) <;> (refine (KS.out _).mono ?_; rintro e w2 ⟨rfl, rfl⟩; (go_wp2_with (fail)); refine (KS2.out _).mono ?_; rintro e w2 ⟨rfl, rfl⟩; (go_wp2_with (fail)); refine (head_c _).mono ?_; rintro e w3 ⟨rfl, hb⟩; (go_wp2_with (fail)); go_ret; exact ⟨rfl, hend.out.trans (hb.mono hend.out.size)⟩)
end Go.Proofs.Ytialclecoamobaa.Ch
