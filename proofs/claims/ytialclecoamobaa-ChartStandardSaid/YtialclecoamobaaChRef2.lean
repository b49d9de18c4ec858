/- Package chart: the document's depth, Under, Leaf, Same, SameInts; has. -/
import Derived.Test.YtialclecoamobaaChRef
import Derived.Deep.QuietTactic
namespace Go.Proofs.Ytialclecoamobaa.Ch
open Go Go.RowKit Ck Go.Maps
/-- Numbers in memory. -/
def Ins (w : World) (a : Option Addr) (L : List Int) : Prop := ∀ i (h : i < L.length), ∃ b off, a = some ⟨b, off, none⟩ ∧ b < w.heap.size ∧ w.cell? ⟨b, off + i, none⟩ = some (iv L[i])
theorem Ins.later {w w' : World} {a : Option Addr} {L : List Int} (h : Ins w a L) (hb : Below w.heap.size w w') : Ins w' a L := fun i hi => by
  obtain ⟨b, off, ha, hlt, hc⟩ := h i hi
  exact ⟨b, off, ha, Nat.lt_of_lt_of_le hlt hb.size, by rw [hb.cell (by simpa using hlt)]; exact hc⟩
theorem ins_own {w : World} {base n : Nat} {v : Value} {L : List Int} (h : w.ownsRow base TInt 1 v n (L.map iv)) (hn : n = L.length) : ∃ a cap, v = .slice a L.length cap ∧ Ins w a L ∧ L.length ≤ cap := by
  subst hn
  rcases id h.2 with ⟨rfl, h0⟩ | ⟨g, cap, cur, rfl, _, hg, hc, _, _, ht⟩
  · refine ⟨none, 0, ?_, fun j hj => by omega, by omega⟩
    rw [h0]
  · refine ⟨_, cap, rfl, fun j hj => ?_, hc⟩
    obtain ⟨g', cap', e1, e2⟩ := own_at h hj
    cases e1
    exact ⟨g, 0, rfl, (Array.getElem?_eq_some_iff.1 hg).1, by rw [Nat.zero_add]; exact e2⟩
theorem below_drewN {lo : Nat} {w w' : World} (h : Below lo w w') (n : Nat) : Below lo w (w'.drewN n) := ⟨h.os, h.tape, h.output, h.size, h.block⟩
set_option maxRecDepth 100000 in
set_option maxHeartbeats 1600000 in
theorem same_ints (L : List Int) (a b : Option Addr) (ca cb : Nat) (w : World) (h : Ins w a L) (h' : Ins w b L) (hL : L.length ≤ 1000000) : Calls Try.prog 21 #[.slice a L.length ca, .slice b L.length cb] w fun e w' => e = .returned (.bool true) ∧ Below w.heap.size w w' := by
  have H := Lib.hid h
  have H' := Lib.hid h'
  clear h h'
  go_enter Try.func21, Try.ntmps21
  go_wp2_with fail
  go_loopg [5] L.length (fun kx s5 wr => ∃ i : Nat, s5 = .int .i64 (i : Int) ∧ i ≤ L.length ∧ Hid (Below w.heap.size w wr) ∧ L.length ≤ i + kx)
  case atStart => exact ⟨0, rfl, Nat.zero_le _, Below.refl _ _, by omega⟩
  case round =>
    obtain ⟨i, rfl, hi9, HB, hkx⟩ := hrel
    by_cases hlt : i < L.length
    · obtain ⟨g, o, rfl, _, c1⟩ := H.out.later HB.out i hlt
      obtain ⟨g', o', rfl, _, c2⟩ := H'.out.later HB.out i hlt
      have j0 : (0 : Int) ≤ (i : Int) := by omega
      have j1 : (i : Int) < (L.length : Int) := by omega
      go_wp2_with fail
      go_quiet (fail)
      go_wp2_with fail
      go_roundg (L.length - (i + 1))
      case measure => omega
      case rel => exact ⟨i + 1, by simp, by omega, below_drewN HB.out _, by omega⟩
    · obtain rfl : i = L.length := by omega
      clear hkx hlt hi9
      go_wp2_with fail
      go_ret
      exact ⟨rfl, HB.out⟩
set_option maxRecDepth 100000 in
set_option maxHeartbeats 1600000 in
theorem same_accs (A : List A5) (a b : Option Addr) (ca cb : Nat) (w : World) (h : Acs w a A) (h' : Acs w b A) (hL : A.length ≤ 1000000) : Calls Try.prog 22 #[.slice a A.length ca, .slice b A.length cb] w fun e w' => e = .returned (.bool true) ∧ Below w.heap.size w w' := by
  have H := Lib.hid h
  have H' := Lib.hid h'
  clear h h'
  go_enter Try.func22, Try.ntmps22
  go_wp2_with fail
  go_loopg [5] A.length (fun kx s5 wr => ∃ i : Nat, s5 = .int .i64 (i : Int) ∧ i ≤ A.length ∧ Hid (Below w.heap.size w wr) ∧ A.length ≤ i + kx)
  case atStart => exact ⟨0, rfl, Nat.zero_le _, Below.refl _ _, by omega⟩
  case round =>
    obtain ⟨i, rfl, hi9, HB, hkx⟩ := hrel
    by_cases hlt : i < A.length
    · obtain ⟨g, o, rfl, c1⟩ := (H.out.later HB.out).five hlt
      obtain ⟨g', o', rfl, c2⟩ := (H'.out.later HB.out).five hlt
      obtain ⟨x, hx⟩ : ∃ x, A[i] = x := ⟨_, rfl⟩
      rw [hx] at c1 c2
      obtain ⟨x1, x2, x3, x4, x5⟩ := x
      obtain ⟨p0, p1, p2, p3, p4⟩ := c1
      obtain ⟨q0, q1, q2, q3, q4⟩ := c2
      have j0 : (0 : Int) ≤ (i : Int) := by omega
      have j1 : (i : Int) < (A.length : Int) := by omega
      clear hx
      go_wp2_with fail
      go_quiet (fail)
      go_wp2_with fail
      go_roundg (A.length - (i + 1))
      case measure => omega
      case rel => exact ⟨i + 1, by simp, by omega, below_drewN HB.out _, by omega⟩
    · obtain rfl : i = A.length := by omega
      clear hkx hlt hi9
      go_wp2_with fail
      go_ret
      exact ⟨rfl, HB.out⟩
set_option maxRecDepth 100000 in
set_option maxHeartbeats 1600000 in
theorem has_c (L : List Int) (a : Option Addr) (ca : Nat) (n : Int) (w : World) (h : Ins w a L) (hL : L.length ≤ 1000000) : Calls Try.prog 18 #[.slice a L.length ca, .int .i64 n] w fun e w' => e = .returned (.bool (decide (n ∈ L))) ∧ w = w' := by
  have H := Lib.hid h
  clear h
  obtain ⟨r, hr⟩ : ∃ r, r = decide (n ∈ L) := ⟨_, rfl⟩
  rw [← hr]
  go_enter Try.func18, Try.ntmps18
  go_wp2_with fail
  go_loopg [5] L.length (fun kx s5 wr => ∃ i : Nat, s5 = .int .i64 (i : Int) ∧ i ≤ L.length ∧ w = wr ∧ Hid (∀ j (h : j < L.length), j < i → L[j] ≠ n) ∧ L.length ≤ i + kx)
  case atStart => exact ⟨0, rfl, Nat.zero_le _, rfl, fun j _ hj => by omega, by omega⟩
  case round =>
    obtain ⟨i, rfl, hi9, rfl, HJ, hkx⟩ := hrel
    by_cases hlt : i < L.length
    · obtain ⟨g, o, rfl, _, c1⟩ := H.out i hlt
      have j0 : (0 : Int) ≤ (i : Int) := by omega
      have j1 : (i : Int) < (L.length : Int) := by omega
      obtain ⟨k, hk⟩ : ∃ k, k = L[i] := ⟨_, rfl⟩
      rw [← hk] at c1
      have HK := Lib.hid hk
      clear hk
      by_cases he : k = n
      · have hrt : r = true := by rw [hr]; exact decide_eq_true (he ▸ HK.out ▸ List.getElem_mem hlt)
        subst hrt
        subst he
        clear hr
        go_wp2_with fail
        go_ret
        exact ⟨rfl, rfl⟩
      · have be : (k == n) = false := by simpa using he
        have HJ2 : Hid (∀ j (h : j < L.length), j < i + 1 → L[j] ≠ n) := fun j hj hji => by
          by_cases e : j = i
          · subst e; rw [← HK.out]; exact he
          · exact HJ.out j hj (by omega)
        clear he HJ HK
        go_wp2_with fail
        go_roundg (L.length - (i + 1))
        case measure => omega
        case rel => exact ⟨i + 1, by simp, by omega, rfl, HJ2, by omega⟩
    · obtain rfl : i = L.length := by omega
      have hrf : r = false := by
        rw [hr]
        refine decide_eq_false fun hm => ?_
        obtain ⟨j, hj, e⟩ := List.getElem_of_mem hm
        exact HJ.out j hj hj e
      subst hrf
      clear hkx hlt hi9 hr
      go_wp2_with fail
      go_ret
      exact ⟨rfl, rfl⟩
section
variable {w : World} {a : Option Addr} {M : Int → Option Acc} {K : List Int}
set_option maxRecDepth 100000 in
set_option maxHeartbeats 1600000 in
theorem depth_c (g : Gm M K) (cap : Nat) (code : Int) (h : Acs w a (lst M K)) : Calls Try.prog 29 #[.slice a K.length cap, .int .i64 code] w fun e w' => e = .returned (.int .i64 ((sm K (fun u => ind M u code) : Nat) : Int)) ∧ w = w' := by
  have G := Lib.hid g
  have H := Lib.hid h
  have KA : Hid (∀ u, Calls Try.prog 25 #[.slice a K.length cap, .int .i64 code, .int .i64 u] w fun e w' => e = .returned (.bool (und M u code)) ∧ w = w') := fun u => is_ref g cap code u h
  have hK9 := g.wd.few g.ks
  clear g h
  go_enter Try.func29, Try.ntmps29
  go_wp2_with fail
  go_loopg [5, 6] K.length (fun kx s5 s6 wr => ∃ i d : Nat, s6 = .int .i64 (i : Int) ∧ s5 = .int .i64 (d : Int) ∧ i ≤ K.length ∧ d ≤ i ∧ Hid (d = sm (K.take i) (fun u => ind M u code)) ∧ w = wr ∧ K.length ≤ i + kx)
  case atStart => exact ⟨0, 0, rfl, rfl, Nat.zero_le _, Nat.le_refl _, rfl, rfl, by omega⟩
  case round =>
    obtain ⟨i, d, rfl, rfl, hi9, hd9, HD, rfl, hkx⟩ := hrel
    by_cases hlt : i < K.length
    · obtain ⟨ab, off, p, rfl, hp, hf⟩ := G.out.five H.out hlt
      have c0 := hf.c0
      have j0 : (0 : Int) ≤ (i : Int) := by omega
      have j1 : (i : Int) < (K.length : Int) := by omega
      obtain ⟨k, hk⟩ : ∃ k, k = K[i] := ⟨_, rfl⟩
      rw [← hk] at c0
      have HT : Hid (sm (K.take (i + 1)) (fun u => ind M u code) = sm (K.take i) (fun u => ind M u code) + ind M k code) := by
        show _ = _
        unfold sm
        rw [List.take_succ_eq_append_getElem hlt, List.map_append, List.sum_append, ← hk]
        simp
      have KI := Lib.hid (KA.out k)
      clear hf hp hk
      go_wp2_with fail
      refine KI.out.mono ?_
      rintro e w1 ⟨rfl, rfl⟩
      cases hu : und M k code with
      | true =>
        have HD2 : Hid (d + 1 = sm (K.take (i + 1)) (fun u => ind M u code)) := by
          show _ = _
          rw [HT.out, ← HD.out]
          unfold ind
          rw [hu]
          rfl
        clear hu
        go_wp2_with fail
        go_roundg (K.length - (i + 1))
        case measure => omega
        case rel => exact ⟨i + 1, d + 1, by simp, by simp, by omega, by omega, HD2, rfl, by omega⟩
      | false =>
        have HD2 : Hid (d = sm (K.take (i + 1)) (fun u => ind M u code)) := by
          show _ = _
          rw [HT.out, ← HD.out]
          unfold ind
          rw [hu]
          rfl
        clear hu
        go_wp2_with fail
        go_roundg (K.length - (i + 1))
        case measure => omega
        case rel => exact ⟨i + 1, d, by simp, rfl, by omega, by omega, HD2, rfl, by omega⟩
    · obtain rfl : i = K.length := by omega
      have HD9 : Hid (sm K (fun u => ind M u code) = d) := by show _ = _; rw [HD.out, List.take_length]
      clear hkx hlt hi9
      go_wp2_with fail
      go_ret
      rw [HD9.out]
      exact ⟨rfl, rfl⟩
set_option maxRecDepth 100000 in
set_option maxHeartbeats 3200000 in
theorem under_ref (g : Gm M K) (cap : Nat) (code : Int) (h : Acs w a (lst M K)) : Calls Try.prog 31 #[.slice a K.length cap, .int .i64 code] w (IntsRes (undL M K code) w) := by
  have G := Lib.hid g
  have H := Lib.hid h
  obtain ⟨i0, hi0, hz0, hz1, hz2⟩ := info_parts infoInt
  have KA : Hid (∀ v u, Below w.heap.size w u → Calls Try.prog 25 #[.slice a K.length cap, .int .i64 v, .int .i64 code] u fun e w' => e = .returned (.bool (und M code v)) ∧ u = w') := fun v u hu => is_ref g cap v code (h.later hu)
  have hK9 := g.wd.few g.ks
  clear g h
  go_enter Try.func31, Try.ntmps31
  go_wp2_with fail
  go_loopg [5, 6] K.length (fun kx s5 s6 wr => ∃ (i : Nat) (vv : Value), s6 = .int .i64 (i : Int) ∧ vv = s5 ∧ i ≤ K.length ∧ Hid (wr.ownsRow w.heap.size TInt 1 vv ((K.take i).filter (fun b => und M code b)).length (((K.take i).filter (fun b => und M code b)).map iv)) ∧ Hid (Below w.heap.size w wr) ∧ K.length ≤ i + kx)
  case atStart => exact ⟨0, _, rfl, rfl, Nat.zero_le _, World.ownsRow_nil _ _ _ _, Below.refl _ _, by omega⟩
  case round =>
    obtain ⟨i, vv, rfl, hvv, hi9, HO, HBr, hkx⟩ := hrel
    have HFL : Hid (((K.take i).filter (fun b => und M code b)).length ≤ i) := Nat.le_trans (List.length_filter_le _ _) (by rw [List.length_take]; omega)
    obtain ⟨L9, hL9⟩ : ∃ L9, L9 = (K.take i).filter (fun b => und M code b) := ⟨_, rfl⟩
    rw [← hL9] at HO HFL
    have HL9 := Lib.hid hL9
    clear hL9
    obtain ⟨a9, c9, rfl⟩ := own_form HO.out
    subst hvv
    by_cases hlt : i < K.length
    · obtain ⟨ab, off, p, rfl, hp, hf⟩ := G.out.five (H.out.later HBr.out) hlt
      have c0 := hf.c0
      have j0 : (0 : Int) ≤ (i : Int) := by omega
      have j1 : (i : Int) < (K.length : Int) := by omega
      obtain ⟨b, hb⟩ : ∃ b, b = K[i] := ⟨_, rfl⟩
      rw [← hb] at c0
      have HT : Hid ((K.take (i + 1)).filter (fun b => und M code b) = L9 ++ (if und M code b = true then [b] else [])) := by
        show _ = _
        rw [List.take_succ_eq_append_getElem hlt, List.filter_append, ← HL9.out, ← hb]
        congr 1
        by_cases hu : und M code b = true
        · simp [hu]
        · simp [hu]
      have KI := Lib.hid (KA.out b wr HBr.out)
      obtain ⟨r, hr⟩ : ∃ r, r = und M code b := ⟨_, rfl⟩
      rw [← hr] at HT KI
      clear hb hr hf hp
      go_wp2_with fail
      refine KI.out.mono ?_
      rintro e w5 ⟨rfl, rfl⟩
      cases r with
      | false =>
        go_wp2_with fail
        go_roundg (K.length - (i + 1))
        case measure => omega
        case rel => exact ⟨i + 1, _, by simp, rfl, by omega, by show World.ownsRow _ _ _ _ _ _ _; rw [HT.out]; simpa using HO.out, HBr, by omega⟩
      | true =>
        have hs5 := HBr.out.size
        have hfl := HFL.out
        go_wp2_with (at_builtin; refine wpList_append_own_at _ rfl _ _ TInts rfl w.heap.size TInt i0 (.int .i64 0) 1 8 Try.underlying41 hi0 hz0 hz1 hz2 rfl (by decide) _ _ _ rfl (HO.out.alloc _) ⟨wr.heap.size, 0, none⟩ 1 1 [iv b] rfl rfl (cell_one_new _ _ _) (by simp [Value.oneCell']) (by unfold maxLen; omega) (by omega) (by simp; omega) ?_)
        intro v' w6 hown hgrow hnil hat
        obtain ⟨a8, c8, rfl⟩ := own_form hown
        have HB6 : Hid (Below w.heap.size w w6) := (HBr.out.alloc hs5 _).grown hgrow (by simp; omega) (fun j hj => (HO.out.lt j hj).1)
        have HO6 := Lib.hid hown
        clear hown hgrow hnil hat
        go_wp2_with fail
        go_roundg (K.length - (i + 1))
        case measure => omega
        case rel => exact ⟨i + 1, _, by simp, rfl, by omega, by show World.ownsRow _ _ _ _ _ _ _; rw [HT.out]; simpa using HO6.out, HB6, by omega⟩
    · obtain rfl : i = K.length := by omega
      have HO9 : Hid (wr.ownsRow w.heap.size TInt 1 (.slice a9 L9.length c9) (undL M K code).length ((undL M K code).map iv)) := by
        have e : undL M K code = L9 := by rw [HL9.out, List.take_length]; rfl
        rw [e]
        exact HO.out
      clear hkx hlt hi9
      go_wp2_with fail
      go_ret
      exact ⟨_, rfl, HO9.out, HBr.out⟩
set_option maxRecDepth 100000 in
theorem leaf_ref (g : Gm M K) (cap : Nat) (code : Int) (h : Acs w a (lst M K)) : Calls Try.prog 32 #[.slice a K.length cap, .int .i64 code] w fun e w' => e = .returned (.bool (leafM M code)) ∧ Below w.heap.size w w' := by
  have KU := Lib.hid (under_ref g cap code h)
  unfold IntsRes at KU
  have hl : (undL M K code).length ≤ 9999 := Nat.le_trans (List.length_filter_le _ _) (g.wd.few g.ks)
  obtain ⟨r, hr⟩ : ∃ r, r = leafM M code := ⟨_, rfl⟩
  rw [← hr]
  have hr2 := hr.trans (g.leaf code)
  obtain ⟨L, hL⟩ : ∃ L, L = undL M K code := ⟨_, rfl⟩
  rw [← hL] at KU hr2 hl
  clear g h hr hL
  go_enter Try.func32, Try.ntmps32
  go_wp2_with fail
  refine KU.out.mono ?_
  rintro e w1 ⟨v, rfl, hv, hb⟩
  obtain ⟨va, vc, rfl⟩ := own_form hv
  clear hv
  by_cases e1 : L.length = 1
  · have hrt : r = true := by rw [hr2]; exact decide_eq_true e1
    subst hrt
    have b1 : ((L.length : Int) == 1) = true := by rw [e1]; rfl
    clear hr2 e1 KU
    go_wp2_with fail
    go_ret
    exact ⟨rfl, hb⟩
  · have hrf : r = false := by rw [hr2]; exact decide_eq_false e1
    subst hrf
    have b1 : ((L.length : Int) == 1) = false := by simp; omega
    clear hr2 e1 KU
    go_wp2_with fail
    go_ret
    exact ⟨rfl, hb⟩
end
end Go.Proofs.Ytialclecoamobaa.Ch
