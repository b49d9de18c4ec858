/- Package drive: the reference's Sync. -/
import Derived.Test.YthoafaaemikiaaaDvRw
namespace Go.Proofs.Ythoafaaemikiaaa.Dv
open Go Go.RowKit Rf
theorem RDv.burnt {w w1 : World} {g : Nat} {nv sv av ov : Value} {N D : List Sec} {A : List Nat} {O : List Sec} {F F' : Option Nat} (h : RDv w g nv sv av ov N D A O F) (b1 : Rw w1 g TRD [nv, sv, av, ov, .int .i64 (fcell F')]) (k1 : Keeps (fun j => j = g) w w1) : RDv w1 g nv sv av ov N D A O F' :=
  ⟨b1, own_keeps h.now k1 fun j hj e => h.gn (by rw [hj, e]), own_keeps h.sure k1 fun j hj e => h.gs (by rw [hj, e]), own_keeps h.at_ k1 fun j hj e => h.ga (by rw [hj, e]), own_keeps h.op k1 fun j hj e => h.go (by rw [hj, e]), h.ns, h.no, h.so⟩
theorem RDv.drew {w : World} {g : Nat} {nv sv av ov : Value} {N D : List Sec} {A : List Nat} {O : List Sec} {F : Option Nat} (h : RDv w g nv sv av ov N D A O F) : RDv w.drew g nv sv av ov N D A O F := h.later ((Below.refl _ w).drew)
theorem strs_at (L : List Sec) (j : Nat) (hj : j < L.length) : (strs L)[j]? = some (.string (bs L[j])) := by
  unfold strs; rw [List.getElem?_map, List.getElem?_eq_getElem hj]; rfl
theorem nats_at (L : List Nat) (j : Nat) (hj : j < L.length) : (nats L)[j]? = some (.int .i64 (L[j] : Int)) := by
  unfold nats; rw [List.getElem?_map, List.getElem?_eq_getElem hj]; rfl
theorem strs_len (L : List Sec) : (strs L).length = L.length := by unfold strs; simp
theorem take_set (V D : List Sec) (j : Nat) (hV : V.length = D.length) (hj : j < V.length) : (V.take j ++ D.drop j).set j V[j] = V.take (j + 1) ++ D.drop (j + 1) := by
  apply List.ext_getElem?
  intro i
  rw [List.getElem?_set]
  have ht : (V.take j).length = j := by rw [List.length_take]; omega
  have ht1 : (V.take (j + 1)).length = j + 1 := by rw [List.length_take]; omega
  have hl : (V.take j ++ D.drop j).length = D.length := by simp; omega
  by_cases h : j = i
  · subst h
    rw [if_pos rfl, if_pos (by rw [hl]; omega), List.getElem?_append_left (by rw [ht1]; omega), List.getElem?_take_of_lt (by omega), List.getElem?_eq_getElem hj]
  · rw [if_neg h]
    by_cases h2 : i < j
    · rw [List.getElem?_append_left (by rw [ht]; omega), List.getElem?_append_left (by rw [ht1]; omega), List.getElem?_take_of_lt h2, List.getElem?_take_of_lt (by omega)]
    · rw [List.getElem?_append_right (by rw [ht]; omega), List.getElem?_append_right (by rw [ht1]; omega), ht, ht1, List.getElem?_drop, List.getElem?_drop, show j + (i - j) = j + 1 + (i - (j + 1)) by omega]
theorem sync_down {x y : Dr} {z : Int} (hz : x.sync = (y, z)) (hF : burn x.F = none) : y = x ∧ z = 30 := by
  unfold Dr.sync at hz; rw [hF] at hz; cases hz; exact ⟨rfl, rfl⟩
theorem sync_done {x y : Dr} {z : Int} {F : Option Nat} (hz : x.sync = (y, z)) (hF : burn x.F = some F) : y = ⟨x.V, [], F⟩ ∧ z = 0 := by
  unfold Dr.sync at hz; rw [hF] at hz; cases hz; exact ⟨rfl, rfl⟩
set_option maxRecDepth 100000 in
set_option maxHeartbeats 4000000 in
theorem rsync_c (S : Nat → Prop) (g : Nat) (x y : Dr) (z : Int) (w : World) (h : Rs S w g x) (hx : x.Ok) (hz : x.sync = (y, z)) :
    Calls Try.prog 12 #[.pointer (some ⟨g, 0, Option.none⟩)] w fun e w' => e = .returned (.int .i64 z) ∧ AfterR S w g y w' := by
  have HS := Lib.hid h
  obtain ⟨nv, sv, av, ov, R, hB⟩ := h
  have hvl := Dr.vlen x
  have hm1 : x.D.length ≤ 4096 := hx.n2
  have hm0 : 1 ≤ x.D.length := hx.n1
  obtain ⟨bn, cn, rfl⟩ := own_form' R.now (by rw [hvl]; exact hm0)
  obtain ⟨bd, cd, rfl⟩ := own_form' R.sure hm0
  have HR := Lib.hid R
  have HB := Lib.hid hB
  clear R hB
  cases hF : burn x.F with
  | none =>
    obtain ⟨rfl, rfl⟩ := sync_down hz hF
    have KB := Lib.hid (blown_no g TRD _ _ _ _ _ w HR.out.blk hF)
    clear hz hvl hF
    go_enter Try.func12, Try.ntmps12
    go_wp2_with fail
    refine KB.out.mono ?_
    rintro e w1 ⟨rfl, rfl⟩
    go_wp2_with fail
    go_ret
    exact ⟨rfl, AfterR.same HS.out⟩
  | some F =>
    obtain ⟨rfl, rfl⟩ := sync_done hz hF
    have KB := Lib.hid (blown_yes g TRD _ _ _ _ _ F w HR.out.blk hF hx.f)
    clear hz hF HS
    go_enter Try.func12, Try.ntmps12
    go_wp2_with fail
    refine KB.out.mono ?_
    rintro e w1 ⟨rfl, b1, k1⟩
    have R1 := Lib.hid (HR.out.burnt b1 k1)
    have K1 : Hid (Keeps S w w1) := k1.mono fun j hj => .inl (HB.out j (.inl hj))
    clear b1 k1 KB HR
    have HV := Lib.hid hvl
    obtain ⟨m, hm⟩ : ∃ m, m = x.D.length := ⟨_, rfl⟩
    have HM := Lib.hid hm
    have HVm := Lib.hid (show x.V.length = m by rw [hvl, hm])
    rw [← hm] at hm1 hm0
    clear hm hvl
    go_wp2_with fail
    go_loopw [3] (fun i wr => ∃ j : Nat, j ≤ m ∧ i = .int .i64 j ∧ RDv wr g (.slice (some ⟨bn, 0, none⟩) x.V.length cn) (.slice (some ⟨bd, 0, none⟩) x.D.length cd) av ov x.V (x.V.take j ++ x.D.drop j) (x.P.map Prod.fst) (x.P.map Prod.snd) F ∧ Keeps S w wr) (fun i _ => m - (intOf i).toNat)
    case atStart => exact ⟨0, by omega, rfl, R1.out, K1.out⟩
    case round =>
      obtain ⟨j, hj, rfl, hA2, hK2⟩ := hrel
      have A2 := Lib.hid hA2
      have K2 := Lib.hid hK2
      clear hA2 hK2 R1 K1
      have c0 : wr.cell? ⟨g, 0, none⟩ = some (.slice (some ⟨bn, 0, none⟩) m cn) := by rw [← HVm.out]; exact A2.out.blk.cell 0
      have c1 : wr.cell? ⟨g, 1, none⟩ = some (.slice (some ⟨bd, 0, none⟩) m cd) := by rw [HM.out]; exact A2.out.blk.cell 1
      by_cases hlt : j < m
      · have hju : (j : Int) < (m : Int) := by omega
        have hj0 : (0 : Int) ≤ (j : Int) := by omega
        have hjv : j < x.V.length := by rw [HVm.out]; exact hlt
        have hlen : (x.V.take j ++ x.D.drop j).length = x.D.length := by simp; have := HVm.out; have := HM.out; omega
        have cb : wr.cell? ⟨bn, j, none⟩ = some (.string (bs x.V[j])) := by
          have := A2.out.now.cellAt j (by rw [Nat.mul_one]; exact hjv)
          rw [this]; exact strs_at _ _ hjv
        have S2 : wr.ownsRow 0 TStr 1 (.slice (some ⟨bd, 0, none⟩) x.D.length cd) x.D.length (strs (x.V.take j ++ x.D.drop j)) := by have := A2.out.sure; rwa [hlen] at this
        obtain ⟨y0, cd'⟩ : ∃ y0, wr.cell? ⟨bd, j, none⟩ = some y0 := by
          have h1 := S2.cellAt j (by rw [Nat.mul_one, ← HM.out]; exact hlt)
          exact ⟨_, h1.trans (strs_at (x.V.take j ++ x.D.drop j) j (by rw [hlen, ← HM.out]; exact hlt))⟩
        have fd := S2.frozenAt j
        clear S2
        obtain ⟨q, hq⟩ : ∃ q, q = x.V[j]'hjv := ⟨_, rfl⟩
        rw [← hq] at cb
        have HQ := Lib.hid hq
        have HL := Lib.hid hlen
        clear hq hlen
        go_wp2_with fail
        go_still_tail 13, (by kernel_rfl)
        change wpList _ _ _ _ _ wr.drew
        have A3 := Lib.hid A2.out.drew
        have cd3 : wr.drew.cell? ⟨bd, j, none⟩ = some y0 := cd'
        have fd3 : wr.drew.frozen? ⟨bd, j, none⟩ = false := fd
        have K3 := Lib.hid K2.out.drew
        clear A2 K2 c0 c1 cb cd' fd
        generalize wr.drew = w3 at A3 K3 cd3 fd3 ⊢
        go_wp2_with fail
        refine ⟨⟨j + 1, by omega, by go_num, ?_, K3.out.setCell bd j _ (.inl (HB.out bd (.inr (.inr (.inl rfl)))))⟩, by simp [intOf]; omega⟩
        have := A3.out.setS HL.out.symm j q
        rw [HQ.out, take_set x.V x.D j (by rw [HVm.out, HM.out]) hjv] at this
        rw [HQ.out]
        exact this
      · obtain rfl : j = m := by omega
        have e1 : x.V.take j ++ x.D.drop j = x.V := by rw [List.take_of_length_le (by rw [HVm.out]; exact Nat.le_refl _), List.drop_eq_nil_of_le (by rw [HM.out]; exact Nat.le_refl _), List.append_nil]
        have A3 := Lib.hid (e1 ▸ A2.out)
        clear A2 e1
        obtain ⟨y2, c2⟩ : ∃ y2, wr.cell? ⟨g, 2, none⟩ = some y2 := ⟨_, A3.out.blk.cell 2⟩
        have f2 := A3.out.blk.frozen 2
        go_upto_region 8 with (fail)
        have A4 := A3.out.put (nv' := .slice (some ⟨bn, 0, none⟩) x.V.length cn) (sv' := .slice (some ⟨bd, 0, none⟩) x.D.length cd) (av' := .slice none 0 0) (ov' := ov) (A' := []) (O' := x.P.map Prod.snd) (F' := F) 2 (.slice none 0 0) rfl A3.out.now A3.out.sure (World.ownsRow_nil _ _ _ _) A3.out.op A3.out.ns A3.out.no A3.out.so
        have K4 := Lib.hid (K2.out.setCell g 2 (.slice none 0 0) (.inl (HB.out g (.inl rfl))))
        have A4 := Lib.hid A4
        clear A3 K2 c0 c1 c2 f2
        generalize wr.setCell ⟨g, 2, none⟩ (.slice none 0 0) = w4 at A4 K4 ⊢
        obtain ⟨y3, c3⟩ : ∃ y3, w4.cell? ⟨g, 3, none⟩ = some y3 := ⟨_, A4.out.blk.cell 3⟩
        have f3 := A4.out.blk.frozen 3
        go_wp2_with fail
        go_ret
        have A5 := A4.out.put (nv' := .slice (some ⟨bn, 0, none⟩) x.V.length cn) (sv' := .slice (some ⟨bd, 0, none⟩) x.D.length cd) (av' := .slice none 0 0) (ov' := .slice none 0 0) (A' := []) (O' := []) (F' := F) 3 (.slice none 0 0) rfl A4.out.now A4.out.sure A4.out.at_ (World.ownsRow_nil _ _ _ _) A4.out.ns (fun _ _ h => nomatch h) (fun _ _ h => nomatch h)
        refine ⟨rfl, ⟨.slice (some ⟨bn, 0, none⟩) x.V.length cn, .slice (some ⟨bd, 0, none⟩) x.D.length cd, .slice none 0 0, .slice none 0 0, A5, ?_⟩, K4.out.setCell g 3 _ (.inl (HB.out g (.inl rfl)))⟩
        rintro i (rfl | hj | hj | hj | hj)
        · exact .inl (HB.out i (.inl rfl))
        · exact .inl (HB.out i (.inr (.inl hj)))
        · exact .inl (HB.out i (.inr (.inr (.inl hj))))
        · cases hj
        · cases hj
end Go.Proofs.Ythoafaaemikiaaa.Dv
