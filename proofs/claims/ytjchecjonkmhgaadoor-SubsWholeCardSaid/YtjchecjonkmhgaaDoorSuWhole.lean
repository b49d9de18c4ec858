/- Package subs: the law of wholes. -/
import Derived.Test.YtjchecjonkmhgaaDoorSuLaw1
import Derived.Test.YtjchecjonkmhgaaDoorSuWh0
import Derived.Deep.RegionHeld3
namespace Go.Proofs.YtjchecjonkmhgaaDoor.Su
open Go.RowKit Pr Cw An Rf
/-- What a round of the law reads. -/
structure Rnd (s : Sb) (m today : Int) (j : Nat) (F N e2 e3 : Int) : Prop where
  f : bnd s.c m (s.b.toNat + j) = F
  n : bnd s.c m (s.b.toNat + j + 1) = N
  w0 : IntKind.i64.wrap (s.b + (j : Int)) = s.b + (j : Int)
  w1 : IntKind.i64.wrap (s.b + (j : Int) + 1) = s.b + (j : Int) + 1
  t : decide (today < F) = false
  l : decide (N < e2) = false
  g : decide (e2 ≤ F) = false
  a0 : decide (e3 < 0) = false
  a1 : decide (s.p < e3) = false
  c : (e2 = N ∧ decide (0 < s.b + (j : Int)) = false) ∨ (e2 = N ∧ e3 = s.p ∧ decide (0 < s.b + (j : Int)) = true) ∨ (e2 = s.e ∧ (s.e != N) = true ∧ (s.e == N) = false ∧ decide (0 < s.b + (j : Int)) = false) ∨ (e2 = s.e ∧ (s.e != N) = true ∧ (s.e == N) = false ∧ decide (0 < s.b + (j : Int)) = true)
theorem rnd_is {s : Sb} {m today most : Int} {j n : Nat} (hin : In m s.c.s) (h : s.Ok m) (hM : Many s m today most n) (hlt : j < n) (hjl : j < (bills s m n).length) : ∃ F N e2 e3, (bills s m n)[j] = ⟨s.b + (j : Int), F, e2, e3⟩ ∧ Rnd s m today j F N e2 e3 := by
  have hs := hM.1 j hlt
  have hb := bill_is hin h hs
  have b0 := h.num.b0
  have hns := not_stop hs
  refine ⟨bnd s.c m (s.b.toNat + j), bnd s.c m (s.b.toNat + j + 1), (bill s m (s.b.toNat + j)).n, (bill s m (s.b.toNat + j)).a, ?_, rfl, rfl, IntWalk.i64_in _ (by omega), IntWalk.i64_in _ (by omega), ?_, ?_, ?_, ?_, ?_, ?_⟩
  · rw [bills_get, show s.b + (j : Int) = ((s.b.toNat + j : Nat) : Int) by omega]
    rfl
  · have := hb.t; simp; omega
  · have := hb.le; simp; omega
  · have := hb.lt; simp; omega
  · have := hb.a0; simp; omega
  · have := hb.a1; simp; omega
  · have hw := hb.w
    have he := hb.en
    by_cases hn : (bill s m (s.b.toNat + j)).n = bnd s.c m (s.b.toNat + j + 1)
    · by_cases hk : 0 < s.b + (j : Int)
      · exact .inr (.inl ⟨hn, hw (by omega) hn, by simp [hk]⟩)
      · exact .inl ⟨hn, by simp [hk]⟩
    · have he' := he.resolve_left hn
      rw [he'] at hn
      by_cases hk : 0 < s.b + (j : Int)
      · exact .inr (.inr (.inr ⟨he', by simp [hn], by simp [hn], by simp [hk]⟩))
      · exact .inr (.inr (.inl ⟨he', by simp [hn], by simp [hn], by simp [hk]⟩))
set_option maxRecDepth 100000 in
set_option maxHeartbeats 4000000 in
theorem whole_no (s : Sb) (today most : Int) (w : World) (hw : Tab w) (hp : ∀ w, Tab w → Calls Tryd.prog 9 #[s.val, .int .i64 today, .int .i64 most] w (DueNo w)) : Calls Tryd.prog 6 #[s.val, .int .i64 today, .int .i64 most] w fun e w' => e = .returned (.bool true) ∧ Below w.heap.size w w' := by
  have KP := Lib.hid (show ∀ w, Tab w → Calls Tryd.prog 9 #[s.val, .int .i64 today, .int .i64 most] w fun e w' => e = .returned (.tuple #[.slice Option.none 0 0, .agg #[.int .u64 0, .int .u64 0, .int .u64 0, .int .i64 0, .int .i64 0, .int .i64 0, .int .i64 0, .int .i64 0, .int .i64 0, .int .i64 0], .int .i64 2]) ∧ Below w.heap.size w w' from hp)
  have HT := Lib.hid hw
  have D0 := Lib.hid (show Below w.heap.size w (w.alloc (.cells s.cells 26)) from below_alloc (Below.refl _ w) _)
  clear hp hw
  go_enter Tryd.func6, Tryd.ntmps6
  unfold Sb.val Sb.cells
  go_wp2_with fail
  refine (KP.out _ (tab_later HT.out D0.out)).mono ?_
  rintro e w1 ⟨rfl, b1⟩
  have D1 := Lib.hid (D0.out.trans (b1.mono D0.out.size))
  clear b1 D0
  go_upto_region 2 with (fail)
  generalize hW2 : World.alloc w1 _ = W2
  have b2 : Below w1.heap.size w1 W2 := by rw [← hW2]; exact below_alloc (Below.refl _ w1) _
  have A2 := Lib.hid (show Blk W2 w1.heap.size Sb.none.cells 26 by rw [← hW2]; exact Blk.new w1 _ _)
  have D2 := Lib.hid (D1.out.trans (b2.mono D1.out.size))
  clear hW2 b2
  have a0 : W2.cell? ⟨w1.heap.size, 0, Option.none⟩ = some (.int .u64 0) := A2.out.cell 0
  have a1 : W2.cell? ⟨w1.heap.size, 1, Option.none⟩ = some (.int .u64 0) := A2.out.cell 1
  have a2 : W2.cell? ⟨w1.heap.size, 2, Option.none⟩ = some (.int .u64 0) := A2.out.cell 2
  have a3 : W2.cell? ⟨w1.heap.size, 3, Option.none⟩ = some (.int .i64 0) := A2.out.cell 3
  have a4 : W2.cell? ⟨w1.heap.size, 4, Option.none⟩ = some (.int .i64 0) := A2.out.cell 4
  have a5 : W2.cell? ⟨w1.heap.size, 5, Option.none⟩ = some (.int .i64 0) := A2.out.cell 5
  have a6 : W2.cell? ⟨w1.heap.size, 6, Option.none⟩ = some (.int .i64 0) := A2.out.cell 6
  have a7 : W2.cell? ⟨w1.heap.size, 7, Option.none⟩ = some (.int .i64 0) := A2.out.cell 7
  have a8 : W2.cell? ⟨w1.heap.size, 8, Option.none⟩ = some (.int .i64 0) := A2.out.cell 8
  have a9 : W2.cell? ⟨w1.heap.size, 9, Option.none⟩ = some (.int .i64 0) := A2.out.cell 9
  go_wp2_with fail
  refine (head_c _ (tab_later HT.out D2.out)).mono ?_
  rintro e w5 ⟨rfl, b5⟩
  go_wp2_with fail
  go_ret
  exact ⟨rfl, D2.out.trans (b5.mono D2.out.size)⟩
set_option maxRecDepth 100000 in
set_option maxHeartbeats 8000000 in
theorem whole_t (s : Sb) (m today most : Int) (n : Nat) (w : World) (hw : Tab w) (hin : In m s.c.s) (h : s.Ok m) (hd : 1 ≤ today ∧ today ≤ 3652059) (hm1 : 1 ≤ most) (hm2 : most ≤ 1000) (hn : Many s m today most n) (heq : (n : Int) = most) : Calls Tryd.prog 6 #[s.val, .int .i64 today, .int .i64 most] w fun e w' => e = .returned (.bool true) ∧ Below w.heap.size w w' := by
  have hok := after_ok h hn (by omega)
  have hnl := hn.le (by omega) h.num
  obtain ⟨n2, hn2⟩ := many_ex (s.after n) m today most (by omega)
  have KD := Lib.hid (show ∀ u, Tab u → Calls Tryd.prog 9 #[.agg #[.int .u64 s.id, .int .u64 s.cu, .int .u64 s.pl, .int .i64 s.c.s, .int .i64 s.c.a, .int .i64 s.c.e, .int .i64 s.p, .int .i64 s.b, .int .i64 s.s, .int .i64 s.e], .int .i64 today, .int .i64 most] u (fun e u' => ∃ ad cap, e = .returned (.tuple #[.slice ad (bills s m n).length cap, .agg #[.int .u64 s.id, .int .u64 s.cu, .int .u64 s.pl, .int .i64 s.c.s, .int .i64 s.c.a, .int .i64 s.c.e, .int .i64 s.p, .int .i64 (s.b + (n : Int)), .int .i64 s.s, .int .i64 s.e], .int .i64 0]) ∧ Rb u' ad (bills s m n) ∧ Below u.heap.size u u') from fun u hu => (due_in s m today most u hu hin h hd hm1 hm2).mono fun _ _ hr => due_out_yes hn hr)
  have hrd : ∀ j (_ : j < n) (hjl : j < (bills s m n).length), ∃ F N e2 e3, (bills s m n)[j] = ⟨s.b + (j : Int), F, e2, e3⟩ ∧ Rnd s m today j F N e2 e3 := fun j hlt hjl => rnd_is hin h hn hlt hjl
  have HRD := Lib.hid hrd
  have HLN := Lib.hid (bills_len s m n)
  have KF := Lib.hid (show ∀ u, Calls Tryd.prog 21 #[.agg #[.int .i64 s.c.s, .int .i64 s.c.a, .int .i64 s.c.e], .int .i64 s.b] u (fun e u' => e = .returned (.tuple #[.int .i64 (bnd s.c m (s.b.toNat + 0)), .int .i64 0]) ∧ Below u.heap.size u u') from fun u => rbnd_yes s.c m s.b s.b.toNat (by have := h.num.b0; omega) u h.c hin h.has)
  have KN := Lib.hid (show ∀ (j : Nat) (N : Int), j < n → bnd s.c m (s.b.toNat + j + 1) = N → ∀ u, Calls Tryd.prog 21 #[.agg #[.int .i64 s.c.s, .int .i64 s.c.a, .int .i64 s.c.e], .int .i64 (s.b + (j : Int) + 1)] u (fun e u' => e = .returned (.tuple #[.int .i64 N, .int .i64 0]) ∧ Below u.heap.size u u') from fun j N hj hN u => hN ▸ rbnd_yes s.c m (s.b + (j : Int) + 1) (s.b.toNat + j + 1) (by have := h.num.b0; omega) u h.c hin (not_stop (hn.1 j hj)).1)
  have KC := Lib.hid (show ∀ u, Tab u → Calls Tryd.prog 14 #[.agg #[.int .u64 s.id, .int .u64 s.cu, .int .u64 s.pl, .int .i64 s.c.s, .int .i64 s.c.a, .int .i64 s.c.e, .int .i64 s.p, .int .i64 (s.b + (n : Int)), .int .i64 s.s, .int .i64 s.e]] u (fun e u' => e = .returned (.int .i64 0) ∧ Below u.heap.size u u') from fun u hu => check_yes (s.after n) m u hu hin hok)
  have KE := Lib.hid (show ∀ u, Tab u → Calls Tryd.prog 9 #[.agg #[.int .u64 s.id, .int .u64 s.cu, .int .u64 s.pl, .int .i64 s.c.s, .int .i64 s.c.a, .int .i64 s.c.e, .int .i64 s.p, .int .i64 (s.b + (n : Int)), .int .i64 s.s, .int .i64 s.e], .int .i64 today, .int .i64 most] u (DueOut ((s.after n).after n2) (bills (s.after n) m n2) 0 u) from fun u hu => (due_in (s.after n) m today most u hu hin hok hd hm1 hm2).mono fun _ _ hr => due_out_yes hn2 hr)
  obtain ⟨Z, hZ⟩ : ∃ Z, (s.after n).after n2 = Z := ⟨_, rfl⟩
  obtain ⟨L2, hL2⟩ : ∃ L, bills (s.after n) m n2 = L := ⟨_, rfl⟩
  rw [hZ, hL2] at KE
  clear hZ hL2
  have q1 : ((n : Int) == most) = true := by simp [heq]
  have q2 : decide ((n : Int) ≤ most) = true := by simp; omega
  have hb0 := h.num.b0
  have hb1 := h.num.b1
  have HT := Lib.hid hw
  have D0 := Lib.hid (show Below w.heap.size w (w.alloc (.cells s.cells 26)) from below_alloc (Below.refl _ w) _)
  have S0 := Lib.hid (show Blk (w.alloc (.cells s.cells 26)) w.heap.size s.cells 26 from Blk.new w _ _)
  clear hrd
  generalize bills s m n = L at *
  have hn' : n ≤ 2000 := by have := h.num.b0; omega
  clear hw hin h hd hok hn hn2 hnl heq hm1 hm2
  go_enter Tryd.func6, Tryd.ntmps6
  unfold Sb.val Sb.cells
  go_wp2_with fail
  refine (KD.out _ (tab_later HT.out D0.out)).mono ?_
  rintro e w1 ⟨ad, cap, rfl, r1, b1⟩
  have D1 := Lib.hid (D0.out.trans (b1.mono D0.out.size))
  have S1 := Lib.hid (S0.out.later b1)
  have R1 := Lib.hid r1
  rw [HLN.out]
  clear b1 r1 D0 S0
  go_upto_region 2 with (fail)
  generalize hW2 : World.alloc w1 _ = W2
  have b2 : Below w1.heap.size w1 W2 := by rw [← hW2]; exact below_alloc (Below.refl _ w1) _
  have P2 := Lib.hid (show Blk W2 w1.heap.size #[.int .u64 s.id, .int .u64 s.cu, .int .u64 s.pl, .int .i64 s.c.s, .int .i64 s.c.a, .int .i64 s.c.e, .int .i64 s.p, .int .i64 (s.b + (n : Int)), .int .i64 s.s, .int .i64 s.e] 26 by rw [← hW2]; exact Blk.new w1 _ _)
  have D2 := Lib.hid (D1.out.trans (b2.mono D1.out.size))
  have S2 := Lib.hid (S1.out.later b2)
  have R2 := Lib.hid (R1.out.later b2)
  obtain ⟨G1, hG1⟩ : ∃ G, w1.heap.size = G := ⟨_, rfl⟩
  have A2 := Lib.hid (hG1 ▸ P2.out)
  rw [hG1]
  clear hW2 b2 hG1 P2 D1 S1 R1
  have s3 : W2.cell? ⟨w.heap.size, 3, Option.none⟩ = some (.int .i64 s.c.s) := S2.out.cell 3
  have s4 : W2.cell? ⟨w.heap.size, 4, Option.none⟩ = some (.int .i64 s.c.a) := S2.out.cell 4
  have s5 : W2.cell? ⟨w.heap.size, 5, Option.none⟩ = some (.int .i64 s.c.e) := S2.out.cell 5
  have s7 : W2.cell? ⟨w.heap.size, 7, Option.none⟩ = some (.int .i64 s.b) := S2.out.cell 7
  go_wp2_with fail
  refine (KF.out _).mono ?_
  rintro e w3 ⟨rfl, b3⟩
  have D3 := Lib.hid (D2.out.trans (b3.mono D2.out.size))
  have S3 := Lib.hid (S2.out.later b3)
  have R3 := Lib.hid (R2.out.later b3)
  have A3 := Lib.hid (A2.out.later b3)
  clear b3 D2 S2 R2 A2 s3 s4 s5 s7
  go_wp2_with fail
  go_loopw [10, 12] (fun f i wr => ∃ k : Nat, k ≤ n ∧ i = .int .i64 k ∧ f = .int .i64 (bnd s.c m (s.b.toNat + k)) ∧ Below w3.heap.size w3 wr) (fun _ i _ => n - (intOf i).toNat)
  case atStart => exact ⟨0, by omega, rfl, rfl, Below.refl _ _⟩
  case round =>
    obtain ⟨j, hj, rfl, rfl, hB⟩ := hrel
    by_cases hlt : j < n
    · have hjl : j < L.length := by rw [HLN.out]; exact hlt
      obtain ⟨FF, NN, e2, e3, hbl, hr⟩ := HRD.out j hlt hjl
      have KB := Lib.hid (KN.out j NN hlt hr.n)
      have HNN := Lib.hid hr.n
      obtain ⟨g, rfl, hg, c0, c1, c2, c3⟩ := (R3.out.later hB) j hjl
      simp only [hbl] at c0 c1 c2 c3
      rw [hr.f]
      have HB0 := Lib.hid hB
      have S4 := Lib.hid (S3.out.later hB)
      have p1 := hr.t
      have p2 := hr.l
      have p3 := hr.g
      have p4 := hr.a0
      have p5 := hr.a1
      have hc := Lib.hid hr.c
      clear hbl hr hB
      have s3 : wr.cell? ⟨w.heap.size, 3, Option.none⟩ = some (.int .i64 s.c.s) := S4.out.cell 3
      have s4 : wr.cell? ⟨w.heap.size, 4, Option.none⟩ = some (.int .i64 s.c.a) := S4.out.cell 4
      have s5 : wr.cell? ⟨w.heap.size, 5, Option.none⟩ = some (.int .i64 s.c.e) := S4.out.cell 5
      have s7 : wr.cell? ⟨w.heap.size, 7, Option.none⟩ = some (.int .i64 s.b) := S4.out.cell 7
      go_wp2_with fail
      refine (KB.out _).mono ?_
      rintro e w4 ⟨rfl, b4⟩
      have S5 := Lib.hid (S4.out.later b4)
      have HB1 := Lib.hid (HB0.out.trans (b4.mono HB0.out.size))
      have k : ∀ o, w4.cell? ⟨g, o, Option.none⟩ = wr.cell? ⟨g, o, Option.none⟩ := fun o => b4.cell (by simpa using hg)
      have hg4 : g < w4.heap.size := Nat.lt_of_lt_of_le hg b4.size
      rw [← k] at c0 c1 c2 c3
      clear b4 S4 HB0 k s3 s4 s5 s7 hg
      go_upto_region 10 with (fail)
      generalize hW5 : World.alloc w4 _ = W5
      have b5 : Below w4.heap.size w4 W5 := by rw [← hW5]; exact below_alloc (Below.refl _ w4) _
      have X5 := Lib.hid (show Blk W5 w4.heap.size #[.int .i64 (s.b + (j : Int)), .int .i64 FF, .int .i64 e2, .int .i64 e3] 57 by rw [← hW5]; exact Blk.new w4 _ _)
      have S6 := Lib.hid (S5.out.later b5)
      have HB2 := Lib.hid (HB1.out.trans (b5.mono HB1.out.size))
      generalize w4.heap.size = G5 at *
      clear hW5 b5 S5 HB1 c0 c1 c2 c3 hg4 KB
      have x0 : W5.cell? ⟨G5, 0, Option.none⟩ = some (.int .i64 (s.b + (j : Int))) := X5.out.cell 0
      have x1 : W5.cell? ⟨G5, 1, Option.none⟩ = some (.int .i64 FF) := X5.out.cell 1
      have s6 : W5.cell? ⟨w.heap.size, 6, Option.none⟩ = some (.int .i64 s.p) := S6.out.cell 6
      have s7 : W5.cell? ⟨w.heap.size, 7, Option.none⟩ = some (.int .i64 s.b) := S6.out.cell 7
      have s9 : W5.cell? ⟨w.heap.size, 9, Option.none⟩ = some (.int .i64 s.e) := S6.out.cell 9
      rcases hc.out with ⟨h1, hk⟩ | ⟨h1, h2, hk⟩ | ⟨h1, hne, heq, hk⟩ | ⟨h1, hne, heq, hk⟩
      · subst h1
        have x2 := X5.out.cell 2
        have x3 := X5.out.cell 3
        simp only [List.getElem?_toArray, List.getElem?_cons_succ, List.getElem?_cons_zero] at x2 x3
        go_wp2_with fail
        go_roundw
        case rel => exact ⟨j + 1, by omega, by go_num, by rw [show s.b.toNat + (j + 1) = s.b.toNat + j + 1 from rfl, HNN.out], HB2.out⟩
        case measure => simp [intOf]; omega
      · subst h1
        subst h2
        have x2 := X5.out.cell 2
        have x3 := X5.out.cell 3
        simp only [List.getElem?_toArray, List.getElem?_cons_succ, List.getElem?_cons_zero] at x2 x3
        go_wp2_with fail
        go_roundw
        case rel => exact ⟨j + 1, by omega, by go_num, by rw [show s.b.toNat + (j + 1) = s.b.toNat + j + 1 from rfl, HNN.out], HB2.out⟩
        case measure => simp [intOf]; omega
      · subst h1
        have x2 := X5.out.cell 2
        have x3 := X5.out.cell 3
        simp only [List.getElem?_toArray, List.getElem?_cons_succ, List.getElem?_cons_zero] at x2 x3
        go_wp2_with fail
        go_roundw
        case rel => exact ⟨j + 1, by omega, by go_num, by rw [show s.b.toNat + (j + 1) = s.b.toNat + j + 1 from rfl, HNN.out], HB2.out⟩
        case measure => simp [intOf]; omega
      · subst h1
        have x2 := X5.out.cell 2
        have x3 := X5.out.cell 3
        simp only [List.getElem?_toArray, List.getElem?_cons_succ, List.getElem?_cons_zero] at x2 x3
        go_wp2_with fail
        go_roundw
        case rel => exact ⟨j + 1, by omega, by go_num, by rw [show s.b.toNat + (j + 1) = s.b.toNat + j + 1 from rfl, HNN.out], HB2.out⟩
        case measure => simp [intOf]; omega
    · obtain rfl : n = j := by omega
      have D4 := Lib.hid (D3.out.trans (hB.mono D3.out.size))
      have S4 := Lib.hid (S3.out.later hB)
      have A4 := Lib.hid (A3.out.later hB)
      clear hB hlt hj
      have a0 : wr.cell? ⟨G1, 0, Option.none⟩ = some (.int .u64 s.id) := A4.out.cell 0
      have a1 : wr.cell? ⟨G1, 1, Option.none⟩ = some (.int .u64 s.cu) := A4.out.cell 1
      have a2 : wr.cell? ⟨G1, 2, Option.none⟩ = some (.int .u64 s.pl) := A4.out.cell 2
      have a3 : wr.cell? ⟨G1, 3, Option.none⟩ = some (.int .i64 s.c.s) := A4.out.cell 3
      have a4 : wr.cell? ⟨G1, 4, Option.none⟩ = some (.int .i64 s.c.a) := A4.out.cell 4
      have a5 : wr.cell? ⟨G1, 5, Option.none⟩ = some (.int .i64 s.c.e) := A4.out.cell 5
      have a6 : wr.cell? ⟨G1, 6, Option.none⟩ = some (.int .i64 s.p) := A4.out.cell 6
      have a7 : wr.cell? ⟨G1, 7, Option.none⟩ = some (.int .i64 (s.b + (n : Int))) := A4.out.cell 7
      have a8 : wr.cell? ⟨G1, 8, Option.none⟩ = some (.int .i64 s.s) := A4.out.cell 8
      have a9 : wr.cell? ⟨G1, 9, Option.none⟩ = some (.int .i64 s.e) := A4.out.cell 9
      go_wp2_with fail
      refine (KE.out _ (tab_later HT.out D4.out)).mono ?_
      rintro e w5 ⟨ad2, cap2, rfl, _, b5⟩
      have D5 := Lib.hid (D4.out.trans (b5.mono D4.out.size))
      have S5 := Lib.hid (S4.out.later b5)
      have A5 := Lib.hid (A4.out.later b5)
      clear b5 D4 S4 A4 a0 a1 a2 a3 a4 a5 a6 a7 a8 a9
      go_upto_region 16 with (fail)
      generalize hW6 : World.alloc w5 _ = W6
      have b6 : Below w5.heap.size w5 W6 := by rw [← hW6]; exact below_alloc (Below.refl _ w5) _
      have P6 := Lib.hid (show Blk W6 w5.heap.size #[.int .u64 Z.id, .int .u64 Z.cu, .int .u64 Z.pl, .int .i64 Z.c.s, .int .i64 Z.c.a, .int .i64 Z.c.e, .int .i64 Z.p, .int .i64 Z.b, .int .i64 Z.s, .int .i64 Z.e] 26 by rw [← hW6]; exact Blk.new w5 _ _)
      have D6 := Lib.hid (D5.out.trans (b6.mono D5.out.size))
      have S6 := Lib.hid (S5.out.later b6)
      have A6 := Lib.hid (A5.out.later b6)
      obtain ⟨G2, hG2⟩ : ∃ G, w5.heap.size = G := ⟨_, rfl⟩
      have B6 := Lib.hid (hG2 ▸ P6.out)
      rw [hG2]
      clear hW6 b6 hG2 P6 D5 S5 A5
      have a0 : W6.cell? ⟨G1, 0, Option.none⟩ = some (.int .u64 s.id) := A6.out.cell 0
      have a1 : W6.cell? ⟨G1, 1, Option.none⟩ = some (.int .u64 s.cu) := A6.out.cell 1
      have a2 : W6.cell? ⟨G1, 2, Option.none⟩ = some (.int .u64 s.pl) := A6.out.cell 2
      have a3 : W6.cell? ⟨G1, 3, Option.none⟩ = some (.int .i64 s.c.s) := A6.out.cell 3
      have a4 : W6.cell? ⟨G1, 4, Option.none⟩ = some (.int .i64 s.c.a) := A6.out.cell 4
      have a5 : W6.cell? ⟨G1, 5, Option.none⟩ = some (.int .i64 s.c.e) := A6.out.cell 5
      have a6 : W6.cell? ⟨G1, 6, Option.none⟩ = some (.int .i64 s.p) := A6.out.cell 6
      have a7 : W6.cell? ⟨G1, 7, Option.none⟩ = some (.int .i64 (s.b + (n : Int))) := A6.out.cell 7
      have a8 : W6.cell? ⟨G1, 8, Option.none⟩ = some (.int .i64 s.s) := A6.out.cell 8
      have a9 : W6.cell? ⟨G1, 9, Option.none⟩ = some (.int .i64 s.e) := A6.out.cell 9
      go_wp2_with fail
      refine (KC.out _ (tab_later HT.out D6.out)).mono ?_
      rintro e w7 ⟨rfl, b7⟩
      have D7 := Lib.hid (D6.out.trans (b7.mono D6.out.size))
      have S7 := Lib.hid (S6.out.later b7)
      have A7 := Lib.hid (A6.out.later b7)
      have B7 := Lib.hid (B6.out.later b7)
      clear b7 D6 S6 A6 B6 a0 a1 a2 a3 a4 a5 a6 a7 a8 a9
      have s7 : w7.cell? ⟨w.heap.size, 7, Option.none⟩ = some (.int .i64 s.b) := S7.out.cell 7
      have a7 : w7.cell? ⟨G1, 7, Option.none⟩ = some (.int .i64 (s.b + (n : Int))) := A7.out.cell 7
      go_wp2_with fail
      refine (head_c _ (tab_later HT.out D7.out)).mono ?_
      rintro e w8 ⟨rfl, b8⟩
      go_wp2_with fail
      go_ret
      exact ⟨rfl, D7.out.trans (b8.mono D7.out.size)⟩
set_option maxRecDepth 100000 in
set_option maxHeartbeats 8000000 in
theorem whole_f (s : Sb) (m today most : Int) (n : Nat) (w : World) (hw : Tab w) (hin : In m s.c.s) (h : s.Ok m) (hd : 1 ≤ today ∧ today ≤ 3652059) (hm1 : 1 ≤ most) (hm2 : most ≤ 1000) (hn : Many s m today most n) (heq : ¬ (n : Int) = most) : Calls Tryd.prog 6 #[s.val, .int .i64 today, .int .i64 most] w fun e w' => e = .returned (.bool true) ∧ Below w.heap.size w w' := by
  have hok := after_ok h hn (by omega)
  have hnl := hn.le (by omega) h.num
  obtain ⟨n2, hn2⟩ := many_ex (s.after n) m today most (by omega)
  have KD := Lib.hid (show ∀ u, Tab u → Calls Tryd.prog 9 #[.agg #[.int .u64 s.id, .int .u64 s.cu, .int .u64 s.pl, .int .i64 s.c.s, .int .i64 s.c.a, .int .i64 s.c.e, .int .i64 s.p, .int .i64 s.b, .int .i64 s.s, .int .i64 s.e], .int .i64 today, .int .i64 most] u (fun e u' => ∃ ad cap, e = .returned (.tuple #[.slice ad (bills s m n).length cap, .agg #[.int .u64 s.id, .int .u64 s.cu, .int .u64 s.pl, .int .i64 s.c.s, .int .i64 s.c.a, .int .i64 s.c.e, .int .i64 s.p, .int .i64 (s.b + (n : Int)), .int .i64 s.s, .int .i64 s.e], .int .i64 0]) ∧ Rb u' ad (bills s m n) ∧ Below u.heap.size u u') from fun u hu => (due_in s m today most u hu hin h hd hm1 hm2).mono fun _ _ hr => due_out_yes hn hr)
  have hrd : ∀ j (_ : j < n) (hjl : j < (bills s m n).length), ∃ F N e2 e3, (bills s m n)[j] = ⟨s.b + (j : Int), F, e2, e3⟩ ∧ Rnd s m today j F N e2 e3 := fun j hlt hjl => rnd_is hin h hn hlt hjl
  have HRD := Lib.hid hrd
  have HLN := Lib.hid (bills_len s m n)
  have KF := Lib.hid (show ∀ u, Calls Tryd.prog 21 #[.agg #[.int .i64 s.c.s, .int .i64 s.c.a, .int .i64 s.c.e], .int .i64 s.b] u (fun e u' => e = .returned (.tuple #[.int .i64 (bnd s.c m (s.b.toNat + 0)), .int .i64 0]) ∧ Below u.heap.size u u') from fun u => rbnd_yes s.c m s.b s.b.toNat (by have := h.num.b0; omega) u h.c hin h.has)
  have KN := Lib.hid (show ∀ (j : Nat) (N : Int), j < n → bnd s.c m (s.b.toNat + j + 1) = N → ∀ u, Calls Tryd.prog 21 #[.agg #[.int .i64 s.c.s, .int .i64 s.c.a, .int .i64 s.c.e], .int .i64 (s.b + (j : Int) + 1)] u (fun e u' => e = .returned (.tuple #[.int .i64 N, .int .i64 0]) ∧ Below u.heap.size u u') from fun j N hj hN u => hN ▸ rbnd_yes s.c m (s.b + (j : Int) + 1) (s.b.toNat + j + 1) (by have := h.num.b0; omega) u h.c hin (not_stop (hn.1 j hj)).1)
  have KC := Lib.hid (show ∀ u, Tab u → Calls Tryd.prog 14 #[.agg #[.int .u64 s.id, .int .u64 s.cu, .int .u64 s.pl, .int .i64 s.c.s, .int .i64 s.c.a, .int .i64 s.c.e, .int .i64 s.p, .int .i64 (s.b + (n : Int)), .int .i64 s.s, .int .i64 s.e]] u (fun e u' => e = .returned (.int .i64 0) ∧ Below u.heap.size u u') from fun u hu => check_yes (s.after n) m u hu hin hok)
  have h20 := again h hn heq hn2
  have KE := Lib.hid (show ∀ u, Tab u → Calls Tryd.prog 9 #[.agg #[.int .u64 s.id, .int .u64 s.cu, .int .u64 s.pl, .int .i64 s.c.s, .int .i64 s.c.a, .int .i64 s.c.e, .int .i64 s.p, .int .i64 (s.b + (n : Int)), .int .i64 s.s, .int .i64 s.e], .int .i64 today, .int .i64 most] u (fun e u' => ∃ ad cap, e = .returned (.tuple #[.slice ad 0 cap, .agg #[.int .u64 s.id, .int .u64 s.cu, .int .u64 s.pl, .int .i64 s.c.s, .int .i64 s.c.a, .int .i64 s.c.e, .int .i64 s.p, .int .i64 (s.b + (n : Int)), .int .i64 s.s, .int .i64 s.e], .int .i64 0]) ∧ Below u.heap.size u u') from fun u hu => (due_in (s.after n) m today most u hu hin hok hd hm1 hm2).mono fun _ _ hr => by
    obtain ⟨ad, cap, he, _, hb⟩ := due_out_yes hn2 hr
    rw [h20, show (s.after n).after 0 = s.after n by unfold Sb.after; simp] at he
    exact ⟨ad, cap, he, hb⟩)
  clear h20
  have q1 : ((n : Int) == most) = false := by simp [heq]
  have q2 : decide ((n : Int) ≤ most) = true := by simp; omega
  have hb0 := h.num.b0
  have hb1 := h.num.b1
  have HT := Lib.hid hw
  have D0 := Lib.hid (show Below w.heap.size w (w.alloc (.cells s.cells 26)) from below_alloc (Below.refl _ w) _)
  have S0 := Lib.hid (show Blk (w.alloc (.cells s.cells 26)) w.heap.size s.cells 26 from Blk.new w _ _)
  clear hrd
  generalize bills s m n = L at *
  have hn' : n ≤ 2000 := by have := h.num.b0; omega
  clear hw hin h hd hok hn hn2 hnl heq hm1 hm2
  go_enter Tryd.func6, Tryd.ntmps6
  unfold Sb.val Sb.cells
  go_wp2_with fail
  refine (KD.out _ (tab_later HT.out D0.out)).mono ?_
  rintro e w1 ⟨ad, cap, rfl, r1, b1⟩
  have D1 := Lib.hid (D0.out.trans (b1.mono D0.out.size))
  have S1 := Lib.hid (S0.out.later b1)
  have R1 := Lib.hid r1
  rw [HLN.out]
  clear b1 r1 D0 S0
  go_upto_region 2 with (fail)
  generalize hW2 : World.alloc w1 _ = W2
  have b2 : Below w1.heap.size w1 W2 := by rw [← hW2]; exact below_alloc (Below.refl _ w1) _
  have P2 := Lib.hid (show Blk W2 w1.heap.size #[.int .u64 s.id, .int .u64 s.cu, .int .u64 s.pl, .int .i64 s.c.s, .int .i64 s.c.a, .int .i64 s.c.e, .int .i64 s.p, .int .i64 (s.b + (n : Int)), .int .i64 s.s, .int .i64 s.e] 26 by rw [← hW2]; exact Blk.new w1 _ _)
  have D2 := Lib.hid (D1.out.trans (b2.mono D1.out.size))
  have S2 := Lib.hid (S1.out.later b2)
  have R2 := Lib.hid (R1.out.later b2)
  obtain ⟨G1, hG1⟩ : ∃ G, w1.heap.size = G := ⟨_, rfl⟩
  have A2 := Lib.hid (hG1 ▸ P2.out)
  rw [hG1]
  clear hW2 b2 hG1 P2 D1 S1 R1
  have s3 : W2.cell? ⟨w.heap.size, 3, Option.none⟩ = some (.int .i64 s.c.s) := S2.out.cell 3
  have s4 : W2.cell? ⟨w.heap.size, 4, Option.none⟩ = some (.int .i64 s.c.a) := S2.out.cell 4
  have s5 : W2.cell? ⟨w.heap.size, 5, Option.none⟩ = some (.int .i64 s.c.e) := S2.out.cell 5
  have s7 : W2.cell? ⟨w.heap.size, 7, Option.none⟩ = some (.int .i64 s.b) := S2.out.cell 7
  go_wp2_with fail
  refine (KF.out _).mono ?_
  rintro e w3 ⟨rfl, b3⟩
  have D3 := Lib.hid (D2.out.trans (b3.mono D2.out.size))
  have S3 := Lib.hid (S2.out.later b3)
  have R3 := Lib.hid (R2.out.later b3)
  have A3 := Lib.hid (A2.out.later b3)
  clear b3 D2 S2 R2 A2 s3 s4 s5 s7
  go_wp2_with fail
  go_loopw [10, 12] (fun f i wr => ∃ k : Nat, k ≤ n ∧ i = .int .i64 k ∧ f = .int .i64 (bnd s.c m (s.b.toNat + k)) ∧ Below w3.heap.size w3 wr) (fun _ i _ => n - (intOf i).toNat)
  case atStart => exact ⟨0, by omega, rfl, rfl, Below.refl _ _⟩
  case round =>
    obtain ⟨j, hj, rfl, rfl, hB⟩ := hrel
    by_cases hlt : j < n
    · have hjl : j < L.length := by rw [HLN.out]; exact hlt
      obtain ⟨FF, NN, e2, e3, hbl, hr⟩ := HRD.out j hlt hjl
      have KB := Lib.hid (KN.out j NN hlt hr.n)
      have HNN := Lib.hid hr.n
      obtain ⟨g, rfl, hg, c0, c1, c2, c3⟩ := (R3.out.later hB) j hjl
      simp only [hbl] at c0 c1 c2 c3
      rw [hr.f]
      have HB0 := Lib.hid hB
      have S4 := Lib.hid (S3.out.later hB)
      have p1 := hr.t
      have p2 := hr.l
      have p3 := hr.g
      have p4 := hr.a0
      have p5 := hr.a1
      have hc := Lib.hid hr.c
      clear hbl hr hB
      have s3 : wr.cell? ⟨w.heap.size, 3, Option.none⟩ = some (.int .i64 s.c.s) := S4.out.cell 3
      have s4 : wr.cell? ⟨w.heap.size, 4, Option.none⟩ = some (.int .i64 s.c.a) := S4.out.cell 4
      have s5 : wr.cell? ⟨w.heap.size, 5, Option.none⟩ = some (.int .i64 s.c.e) := S4.out.cell 5
      have s7 : wr.cell? ⟨w.heap.size, 7, Option.none⟩ = some (.int .i64 s.b) := S4.out.cell 7
      go_wp2_with fail
      refine (KB.out _).mono ?_
      rintro e w4 ⟨rfl, b4⟩
      have S5 := Lib.hid (S4.out.later b4)
      have HB1 := Lib.hid (HB0.out.trans (b4.mono HB0.out.size))
      have k : ∀ o, w4.cell? ⟨g, o, Option.none⟩ = wr.cell? ⟨g, o, Option.none⟩ := fun o => b4.cell (by simpa using hg)
      have hg4 : g < w4.heap.size := Nat.lt_of_lt_of_le hg b4.size
      rw [← k] at c0 c1 c2 c3
      clear b4 S4 HB0 k s3 s4 s5 s7 hg
      go_upto_region 10 with (fail)
      generalize hW5 : World.alloc w4 _ = W5
      have b5 : Below w4.heap.size w4 W5 := by rw [← hW5]; exact below_alloc (Below.refl _ w4) _
      have X5 := Lib.hid (show Blk W5 w4.heap.size #[.int .i64 (s.b + (j : Int)), .int .i64 FF, .int .i64 e2, .int .i64 e3] 57 by rw [← hW5]; exact Blk.new w4 _ _)
      have S6 := Lib.hid (S5.out.later b5)
      have HB2 := Lib.hid (HB1.out.trans (b5.mono HB1.out.size))
      generalize w4.heap.size = G5 at *
      clear hW5 b5 S5 HB1 c0 c1 c2 c3 hg4 KB
      have x0 : W5.cell? ⟨G5, 0, Option.none⟩ = some (.int .i64 (s.b + (j : Int))) := X5.out.cell 0
      have x1 : W5.cell? ⟨G5, 1, Option.none⟩ = some (.int .i64 FF) := X5.out.cell 1
      have s6 : W5.cell? ⟨w.heap.size, 6, Option.none⟩ = some (.int .i64 s.p) := S6.out.cell 6
      have s7 : W5.cell? ⟨w.heap.size, 7, Option.none⟩ = some (.int .i64 s.b) := S6.out.cell 7
      have s9 : W5.cell? ⟨w.heap.size, 9, Option.none⟩ = some (.int .i64 s.e) := S6.out.cell 9
      rcases hc.out with ⟨h1, hk⟩ | ⟨h1, h2, hk⟩ | ⟨h1, hne, heq, hk⟩ | ⟨h1, hne, heq, hk⟩
      · subst h1
        have x2 := X5.out.cell 2
        have x3 := X5.out.cell 3
        simp only [List.getElem?_toArray, List.getElem?_cons_succ, List.getElem?_cons_zero] at x2 x3
        go_wp2_with fail
        go_roundw
        case rel => exact ⟨j + 1, by omega, by go_num, by rw [show s.b.toNat + (j + 1) = s.b.toNat + j + 1 from rfl, HNN.out], HB2.out⟩
        case measure => simp [intOf]; omega
      · subst h1
        subst h2
        have x2 := X5.out.cell 2
        have x3 := X5.out.cell 3
        simp only [List.getElem?_toArray, List.getElem?_cons_succ, List.getElem?_cons_zero] at x2 x3
        go_wp2_with fail
        go_roundw
        case rel => exact ⟨j + 1, by omega, by go_num, by rw [show s.b.toNat + (j + 1) = s.b.toNat + j + 1 from rfl, HNN.out], HB2.out⟩
        case measure => simp [intOf]; omega
      · subst h1
        have x2 := X5.out.cell 2
        have x3 := X5.out.cell 3
        simp only [List.getElem?_toArray, List.getElem?_cons_succ, List.getElem?_cons_zero] at x2 x3
        go_wp2_with fail
        go_roundw
        case rel => exact ⟨j + 1, by omega, by go_num, by rw [show s.b.toNat + (j + 1) = s.b.toNat + j + 1 from rfl, HNN.out], HB2.out⟩
        case measure => simp [intOf]; omega
      · subst h1
        have x2 := X5.out.cell 2
        have x3 := X5.out.cell 3
        simp only [List.getElem?_toArray, List.getElem?_cons_succ, List.getElem?_cons_zero] at x2 x3
        go_wp2_with fail
        go_roundw
        case rel => exact ⟨j + 1, by omega, by go_num, by rw [show s.b.toNat + (j + 1) = s.b.toNat + j + 1 from rfl, HNN.out], HB2.out⟩
        case measure => simp [intOf]; omega
    · obtain rfl : n = j := by omega
      have D4 := Lib.hid (D3.out.trans (hB.mono D3.out.size))
      have S4 := Lib.hid (S3.out.later hB)
      have A4 := Lib.hid (A3.out.later hB)
      clear hB hlt hj
      have a0 : wr.cell? ⟨G1, 0, Option.none⟩ = some (.int .u64 s.id) := A4.out.cell 0
      have a1 : wr.cell? ⟨G1, 1, Option.none⟩ = some (.int .u64 s.cu) := A4.out.cell 1
      have a2 : wr.cell? ⟨G1, 2, Option.none⟩ = some (.int .u64 s.pl) := A4.out.cell 2
      have a3 : wr.cell? ⟨G1, 3, Option.none⟩ = some (.int .i64 s.c.s) := A4.out.cell 3
      have a4 : wr.cell? ⟨G1, 4, Option.none⟩ = some (.int .i64 s.c.a) := A4.out.cell 4
      have a5 : wr.cell? ⟨G1, 5, Option.none⟩ = some (.int .i64 s.c.e) := A4.out.cell 5
      have a6 : wr.cell? ⟨G1, 6, Option.none⟩ = some (.int .i64 s.p) := A4.out.cell 6
      have a7 : wr.cell? ⟨G1, 7, Option.none⟩ = some (.int .i64 (s.b + (n : Int))) := A4.out.cell 7
      have a8 : wr.cell? ⟨G1, 8, Option.none⟩ = some (.int .i64 s.s) := A4.out.cell 8
      have a9 : wr.cell? ⟨G1, 9, Option.none⟩ = some (.int .i64 s.e) := A4.out.cell 9
      go_wp2_with fail
      refine (KE.out _ (tab_later HT.out D4.out)).mono ?_
      rintro e w5 ⟨ad2, cap2, rfl, b5⟩
      have D5 := Lib.hid (D4.out.trans (b5.mono D4.out.size))
      have S5 := Lib.hid (S4.out.later b5)
      have A5 := Lib.hid (A4.out.later b5)
      clear b5 D4 S4 A4 a0 a1 a2 a3 a4 a5 a6 a7 a8 a9
      go_upto_region 16 with (fail)
      generalize hW6 : World.alloc w5 _ = W6
      have b6 : Below w5.heap.size w5 W6 := by rw [← hW6]; exact below_alloc (Below.refl _ w5) _
      have P6 := Lib.hid (show Blk W6 w5.heap.size #[.int .u64 s.id, .int .u64 s.cu, .int .u64 s.pl, .int .i64 s.c.s, .int .i64 s.c.a, .int .i64 s.c.e, .int .i64 s.p, .int .i64 (s.b + (n : Int)), .int .i64 s.s, .int .i64 s.e] 26 by rw [← hW6]; exact Blk.new w5 _ _)
      have D6 := Lib.hid (D5.out.trans (b6.mono D5.out.size))
      have S6 := Lib.hid (S5.out.later b6)
      have A6 := Lib.hid (A5.out.later b6)
      obtain ⟨G2, hG2⟩ : ∃ G, w5.heap.size = G := ⟨_, rfl⟩
      have B6 := Lib.hid (hG2 ▸ P6.out)
      rw [hG2]
      clear hW6 b6 hG2 P6 D5 S5 A5
      have a0 : W6.cell? ⟨G1, 0, Option.none⟩ = some (.int .u64 s.id) := A6.out.cell 0
      have a1 : W6.cell? ⟨G1, 1, Option.none⟩ = some (.int .u64 s.cu) := A6.out.cell 1
      have a2 : W6.cell? ⟨G1, 2, Option.none⟩ = some (.int .u64 s.pl) := A6.out.cell 2
      have a3 : W6.cell? ⟨G1, 3, Option.none⟩ = some (.int .i64 s.c.s) := A6.out.cell 3
      have a4 : W6.cell? ⟨G1, 4, Option.none⟩ = some (.int .i64 s.c.a) := A6.out.cell 4
      have a5 : W6.cell? ⟨G1, 5, Option.none⟩ = some (.int .i64 s.c.e) := A6.out.cell 5
      have a6 : W6.cell? ⟨G1, 6, Option.none⟩ = some (.int .i64 s.p) := A6.out.cell 6
      have a7 : W6.cell? ⟨G1, 7, Option.none⟩ = some (.int .i64 (s.b + (n : Int))) := A6.out.cell 7
      have a8 : W6.cell? ⟨G1, 8, Option.none⟩ = some (.int .i64 s.s) := A6.out.cell 8
      have a9 : W6.cell? ⟨G1, 9, Option.none⟩ = some (.int .i64 s.e) := A6.out.cell 9
      go_wp2_with fail
      refine (KC.out _ (tab_later HT.out D6.out)).mono ?_
      rintro e w7 ⟨rfl, b7⟩
      have D7 := Lib.hid (D6.out.trans (b7.mono D6.out.size))
      have S7 := Lib.hid (S6.out.later b7)
      have A7 := Lib.hid (A6.out.later b7)
      have B7 := Lib.hid (B6.out.later b7)
      clear b7 D6 S6 A6 B6 a0 a1 a2 a3 a4 a5 a6 a7 a8 a9
      have s7 : w7.cell? ⟨w.heap.size, 7, Option.none⟩ = some (.int .i64 s.b) := S7.out.cell 7
      have a0 : w7.cell? ⟨G1, 0, Option.none⟩ = some (.int .u64 s.id) := A7.out.cell 0
      have a1 : w7.cell? ⟨G1, 1, Option.none⟩ = some (.int .u64 s.cu) := A7.out.cell 1
      have a2 : w7.cell? ⟨G1, 2, Option.none⟩ = some (.int .u64 s.pl) := A7.out.cell 2
      have a3 : w7.cell? ⟨G1, 3, Option.none⟩ = some (.int .i64 s.c.s) := A7.out.cell 3
      have a4 : w7.cell? ⟨G1, 4, Option.none⟩ = some (.int .i64 s.c.a) := A7.out.cell 4
      have a5 : w7.cell? ⟨G1, 5, Option.none⟩ = some (.int .i64 s.c.e) := A7.out.cell 5
      have a6 : w7.cell? ⟨G1, 6, Option.none⟩ = some (.int .i64 s.p) := A7.out.cell 6
      have a7 : w7.cell? ⟨G1, 7, Option.none⟩ = some (.int .i64 (s.b + (n : Int))) := A7.out.cell 7
      have a8 : w7.cell? ⟨G1, 8, Option.none⟩ = some (.int .i64 s.s) := A7.out.cell 8
      have a9 : w7.cell? ⟨G1, 9, Option.none⟩ = some (.int .i64 s.e) := A7.out.cell 9
      have b0 : w7.cell? ⟨G2, 0, Option.none⟩ = some (.int .u64 s.id) := B7.out.cell 0
      have b1 : w7.cell? ⟨G2, 1, Option.none⟩ = some (.int .u64 s.cu) := B7.out.cell 1
      have b2 : w7.cell? ⟨G2, 2, Option.none⟩ = some (.int .u64 s.pl) := B7.out.cell 2
      have b3 : w7.cell? ⟨G2, 3, Option.none⟩ = some (.int .i64 s.c.s) := B7.out.cell 3
      have b4 : w7.cell? ⟨G2, 4, Option.none⟩ = some (.int .i64 s.c.a) := B7.out.cell 4
      have b5 : w7.cell? ⟨G2, 5, Option.none⟩ = some (.int .i64 s.c.e) := B7.out.cell 5
      have b6 : w7.cell? ⟨G2, 6, Option.none⟩ = some (.int .i64 s.p) := B7.out.cell 6
      have b7 : w7.cell? ⟨G2, 7, Option.none⟩ = some (.int .i64 (s.b + (n : Int))) := B7.out.cell 7
      have b8 : w7.cell? ⟨G2, 8, Option.none⟩ = some (.int .i64 s.s) := B7.out.cell 8
      have b9 : w7.cell? ⟨G2, 9, Option.none⟩ = some (.int .i64 s.e) := B7.out.cell 9
      go_wp2_with fail
      refine (head_c _ (tab_later HT.out D7.out)).mono ?_
      rintro e w8 ⟨rfl, b8⟩
      go_wp2_with fail
      go_ret
      exact ⟨rfl, D7.out.trans (b8.mono D7.out.size)⟩
theorem whole_law (s : Sb) (today most : Int) (w : World) (hf : s.Fits) (hw : Tab w) : Calls Tryd.prog 6 #[s.val, .int .i64 today, .int .i64 most] w fun e w' => e = .returned (.bool true) ∧ Below w.heap.size w w' := by
  obtain ⟨m, hin⟩ := month_ex s.c
  by_cases h : s.Ok m
  · have hi := hin h.c
    by_cases hd : 1 ≤ today ∧ today ≤ 3652059
    · by_cases hm : 1 ≤ most ∧ most ≤ 1000
      · obtain ⟨n, hn⟩ := many_ex s m today most (by omega)
        by_cases heq : (n : Int) = most
        · exact whole_t s m today most n w hw hi h hd hm.1 hm.2 hn heq
        · exact whole_f s m today most n w hw hi h hd hm.1 hm.2 hn heq
      · have hm' : most < 1 ∨ (1 ≤ most ∧ 1000 < most) := by omega
        exact whole_no s today most w hw fun w hw => due_most s m today most w hw hi h hd hm'
    · exact whole_no s today most w hw fun w hw => due_day s m today most w hw hi h hd
  · exact whole_no s today most w hw fun w hw => due_bad s m today most w hw hf hin h
end Go.Proofs.YtjchecjonkmhgaaDoor.Su
