/- Package subs: the periods, one after another. -/
import Derived.Test.YtjchecjonkmhgaaDoorSuMath
namespace Go.Proofs.YtjchecjonkmhgaaDoor.Su
open Go.RowKit Go.Shelf Pr Cw An Rf
attribute [local go_sem] Oper.semAt_some
theorem periods_c (s : Sb) (w : World) :
    Calls Tryd.prog 25 #[s.val] w fun e w' => e = .returned (.func (.func 48) #[] #[.pointer (some ⟨w.heap.size, 0, none⟩)]) ∧ w' = w.alloc (.cells s.cells 26) := by
  have hmf := mk_fn
  go_enter Tryd.func25, Tryd.ntmps25
  unfold Sb.val Sb.cells
  go_wp2_with fail
  go_ret
  exact ⟨rfl, rfl⟩
/-- What an iteration keeps. -/
def Kq (n b : Nat) (W W' : World) : Prop := ∀ k, k < n ∨ k = b → W'.heap[k]? = W.heap[k]?
theorem Kq.cell {n b : Nat} {W W' : World} (h : Kq n b W W') (k o : Nat) (hk : k < n ∨ k = b) : W'.cell? ⟨k, o, none⟩ = W.cell? ⟨k, o, none⟩ := World.cell?_of_block (w := W) (w' := W') (h k hk)
theorem Kq.tab {n b : Nat} {W W' : World} (h : Tab W) (hk : Kq n b W W') (hn : 0 < n) : Tab W' := fun m h1 h2 => (hk.cell 0 _ (Or.inl hn)).trans (h m h1 h2)
theorem Kq.sx {n b : Nat} {s : Sb} {W W' : World} (h : Sx b s W) (hk : Kq n b W W') : Sx b s W' := by
  have k : ∀ o, W'.cell? ⟨b, o, none⟩ = W.cell? ⟨b, o, none⟩ := fun o => hk.cell b o (Or.inr rfl)
  refine ⟨by rw [k]; exact h.c0, by rw [k]; exact h.c1, by rw [k]; exact h.c2, by rw [k]; exact h.c3, by rw [k]; exact h.c4, by rw [k]; exact h.c5, by rw [k]; exact h.c6, by rw [k]; exact h.c7, by rw [k]; exact h.c8, by rw [k]; exact h.c9, ?_⟩
  exact World.block_lt_of_cell? W' ⟨b, 0, none⟩ ((k 0).trans h.c0)
set_option maxRecDepth 100000 in
set_option maxHeartbeats 4000000 in
theorem periods_yields (s : Sb) (m : Int) (n b : Nat) (W0 : World) (hn : 0 < n) (h : s.Ok m) (hin : In m s.c.s) (h0 : Sx b s W0) (ht0 : Tab W0) :
    Rf.Yields Tryd.prog 48 #[.pointer (some ⟨b, 0, none⟩)] (fun y : Pd => #[y.val]) (fun _ => False) (Kq n b)
      (fun xs => 2000 ≤ s.b.toNat + xs.length ∨ ¬ Has s.c m (s.b.toNat + xs.length + 1)) (fun _ => True)
      (fun pre y => y = per s.c m (s.b.toNat + pre.length) ∧ Has s.c m (s.b.toNat + pre.length + 1) ∧ s.b.toNat + pre.length < 2000) W0 := fun l J Jx W hW sJ _sJx hY hJ0 => by
  have b0 := h.num.b0
  have b1 := h.num.b1
  have hJs := hJ0
  have HX0 := Lib.hid (h0.later hW)
  have HT0 := Lib.hid (tab_later ht0 hW)
  have HO := Lib.hid h
  have KB := Lib.hid (fun u hu => bnd_yes s.c m s.b s.b.toNat (by omega) u hu h.c hin h.has)
  clear h0 ht0 h
  obtain ⟨c0, c1, c2, c3, c4, c5, c6, c7, c8, c9, lt⟩ := HX0.out
  obtain ⟨f0, hf0⟩ : ∃ f, bnd s.c m s.b.toNat = f := ⟨_, rfl⟩
  rw [hf0] at KB
  have HF := Lib.hid hf0
  clear hf0
  refine callsIn_of_wp Tryd.func48 rfl trivial ?_ rfl
  simp only [Tryd.ntmps48, List.size_toArray, List.length_cons, List.length_nil, Nat.reduceAdd, Nat.reduceSub, Array.replicate_succ, Array.replicate_zero, List.push_toArray, List.append_toArray, List.nil_append, List.cons_append]
  gi_wp2_with fail
  refine ⟨trivial, (callsIn_wide.2 (KB.out _ HT0.out)).mono ?_⟩
  rintro e w1 ⟨rfl, hb1⟩
  have HX1 := Lib.hid (HX0.out.later hb1)
  have HT1 := Lib.hid (tab_later HT0.out hb1)
  have hJ1 := sJ.below _ _ _ hJs hb1
  clear c0 c1 c2 c3 c4 c5 c6 c7 c8 c9 lt hb1 hJs
  obtain ⟨c0, c1, c2, c3, c4, c5, c6, c7, c8, c9, lt⟩ := HX1.out
  gi_wp2_with fail
  gi_loopw [3, 4, 5, 6] (fun s3 s4 s5 _ wr => ∃ (pre : List Pd) (fv kk : Int), s3 = .int .i64 fv ∧ s4 = .int .i64 0 ∧ s5 = .int .i64 kk ∧ 0 ≤ kk ∧ kk ≤ 2000 ∧ Hid (kk = ((s.b.toNat + pre.length : Nat) : Int)) ∧ Hid (fv = bnd s.c m (s.b.toNat + pre.length)) ∧ Sx b s wr ∧ Hid (Tab wr) ∧ J pre wr) (fun _ _ s5 _ _ => (2000 - intOf s5).toNat)
  case atStart => exact ⟨[], f0, s.b, rfl, rfl, rfl, b0, b1, Lib.hid (by simp; omega), Lib.hid (by rw [← HF.out]; rfl), HX1.out, HT1, hJ1⟩
  case round =>
    obtain ⟨pre, fv, kk, rfl, rfl, rfl, k0, k1, hkk, hfv, hX, hT, hJs⟩ := hrel
    have HX := Lib.hid hX
    clear hX c0 c1 c2 c3 c4 c5 c6 c7 c8 c9 lt
    obtain ⟨c0, c1, c2, c3, c4, c5, c6, c7, c8, c9, lt⟩ := HX.out
    by_cases hlt : kk < 2000
    · obtain ⟨j, hj⟩ : ∃ j, s.b.toNat + pre.length = j := ⟨_, rfl⟩
      have HJ := Lib.hid hj
      have HKJ := Lib.hid (show kk = (j : Int) by rw [← hj]; exact hkk.out)
      clear hj
      by_cases hH : Has s.c m (j + 1)
      · have HH := Lib.hid hH
        have hbd := bnd_lo (n := j + 1) HO.out.c hin
        have hbh := bnd_hi HO.out.c hH
        have KN := Lib.hid (fun u hu => bnd_yes s.c m (kk + 1) (j + 1) (by have := HKJ.out; omega) u hu HO.out.c hin hH)
        have KP := Lib.hid (fun u hu => between_c s.c (mo s.c m j) kk fv (bnd s.c m (j + 1)) u hu HO.out.c (mo_in HO.out.c hin hH))
        have HP := Lib.hid (show per s.c m j = ⟨kk, fv, bnd s.c m (j + 1), bnd s.c m (j + 1) - bg s.c (mo s.c m j)⟩ by rw [hfv.out, HJ.out, HKJ.out]; rfl)
        have HV := Lib.hid (show bnd s.c m (j + 1) = bnd s.c m (s.b.toNat + (pre ++ [per s.c m j]).length) by rw [← HJ.out]; simp; rfl)
        clear hH
        generalize bnd s.c m (j + 1) = nx at *
        generalize nx - bg s.c (mo s.c m j) = fu at *
        gi_wp2_with fail
        refine ⟨trivial, (callsIn_wide.2 (KN.out _ hT.out)).mono ?_⟩
        rintro e w2 ⟨rfl, hb2⟩
        have HX2 := Lib.hid (HX.out.later hb2)
        have HT2 := Lib.hid (tab_later hT.out hb2)
        have hJ2 := sJ.below _ _ _ hJs hb2
        clear c0 c1 c2 c3 c4 c5 c6 c7 c8 c9 lt hb2 hJs
        obtain ⟨c0, c1, c2, c3, c4, c5, c6, c7, c8, c9, lt⟩ := HX2.out
        gi_wp2_with fail
        refine ⟨trivial, (callsIn_wide.2 (KP.out _ HT2.out)).mono ?_⟩
        rintro e w3 ⟨rfl, hb3⟩
        have HX3 := Lib.hid (HX2.out.later hb3)
        have HT3 := Lib.hid (tab_later HT2.out hb3)
        have hJ3 := sJ.below _ _ _ hJ2 hb3
        clear c0 c1 c2 c3 c4 c5 c6 c7 c8 c9 lt hb3 hJ2
        obtain ⟨fn, tmps, assign, body, hy, hRd⟩ := hY pre (per s.c m j) w3 hJ3 ⟨by rw [HJ.out], by rw [HJ.out]; exact HH.out, by have := HKJ.out; have := HJ.out; omega⟩
        rw [HP.out] at hy
        gi_wp2_with fail
        refine hRd.mono ?_
        rintro e w4 (⟨rfl, hJ4, hk4⟩ | ⟨rfl, hx4⟩)
        · have HX4 := Lib.hid (Kq.sx HX3.out hk4)
          have HT4 := Lib.hid (Kq.tab HT3.out hk4 hn)
          clear hk4 hy
          gi_wp2
          go_roundw
          case rel => exact ⟨pre ++ [per s.c m j], nx, kk + 1, rfl, rfl, rfl, by omega, by omega, Lib.hid (by have := HKJ.out; have := HJ.out; simp; omega), HV, HX4.out, HT4, hJ4⟩
          case measure => simp [intOf]; omega
        · gi_wp2
          refine bodyPost_ret (results_none rfl _ _ _) rfl ?_
          exact ⟨⟨_, rfl⟩, .inr ⟨_, trivial, hx4⟩⟩
      · have KN := Lib.hid (fun u hu => bnd_no s.c m (kk + 1) (j + 1) (by have := HKJ.out; omega) u hu HO.out.c hin hH)
        have HS := Lib.hid (show ¬ Has s.c m (s.b.toNat + pre.length + 1) by rw [HJ.out]; exact hH)
        clear hH
        gi_wp2_with fail
        refine ⟨trivial, (callsIn_wide.2 (KN.out _ hT.out)).mono ?_⟩
        rintro e w2 ⟨rfl, hb2⟩
        have hJ2 := sJ.below _ _ _ hJs hb2
        clear hb2 hJs
        gi_wp2_with fail
        refine ⟨trivial, ?_⟩
        gi_wp2_with fail
        refine ⟨fun f hf => (by cases hf), ?_⟩
        gi_wp2_with fail
        refine bodyPost_ret (results_none rfl _ _ _) rfl ?_
        exact ⟨⟨_, rfl⟩, .inl ⟨pre, Or.inr HS.out, hJ2⟩⟩
    · have HS := Lib.hid (show 2000 ≤ s.b.toNat + pre.length by have := hkk.out; omega)
      gi_wp2_with fail
      go_end0
      exact ⟨⟨_, rfl⟩, .inl ⟨pre, Or.inl HS.out, hJs⟩⟩
end Go.Proofs.YtjchecjonkmhgaaDoor.Su
