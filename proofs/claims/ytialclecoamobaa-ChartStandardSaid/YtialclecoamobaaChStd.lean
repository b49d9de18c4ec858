/- ChartStandard. -/
import Derived.Test.YtialclecoamobaaChHead
import Derived.Deep.RegionHeld3
import Derived.BigQuiet
namespace Go.Proofs.Ytialclecoamobaa.Ch
open Go Go.RowKit Ck Go.Maps
def codes : List Int := [1100, 1200, 2100, 2200, 3100, 4100]
/-- What a chart has: the one account, and the first ones of the standard. -/
def Inv (k : Int) (i : Nat) (M : Int → Option Acc) : Prop := ∀ c, (M c).isSome = true → c = k ∨ c ∈ codes.take i
theorem inv_zero (a : A5) : Inv a.code 0 (addM (fun _ => none) a).1 := by
  intro c hc
  left
  unfold addM at hc
  split at hc
  · cases hc
  split at hc
  · cases hc
  split at hc
  · dsimp only at hc
    unfold upd at hc
    by_cases e : c = a.code
    · exact e
    · rw [if_neg e] at hc; cases hc
  · cases hc
theorem std_valid : ∀ x ∈ stdL, x.validB = true ∧ x.up = 0 ∧ sideM x.cls ≠ 0 ∧ x.Fits := by
  intro x hx
  unfold stdL at hx
  simp only [List.mem_cons, List.not_mem_nil, or_false] at hx
  rcases hx with rfl | rfl | rfl | rfl | rfl | rfl <;> exact ⟨validB_of _ (by decide) (by decide) rfl (by decide) rfl, rfl, by decide, by unfold I64; decide, by unfold I64; decide, by decide⟩
theorem std_code (i : Nat) (hi : i < 6) : (stdL[i]'hi).code = codes[i]'hi := by
  match i, hi with
  | 0, _ => rfl
  | 1, _ => rfl
  | 2, _ => rfl
  | 3, _ => rfl
  | 4, _ => rfl
  | 5, _ => rfl
theorem codes_new (i : Nat) (hi : i < 6) : codes[i]'hi ∉ codes.take i := by
  match i, hi with
  | 0, _ => unfold codes; simp
  | 1, _ => unfold codes; simp
  | 2, _ => unfold codes; simp
  | 3, _ => unfold codes; simp
  | 4, _ => unfold codes; simp
  | 5, _ => unfold codes; simp
theorem inv_step {k : Int} {i : Nat} {M : Int → Option Acc} (h : Inv k i M) (hi : i < 6) {x : A5} (hx : x = stdL[i]'hi) : ((addM M x).2 = 0 ∨ ((addM M x).2 = 8 ∧ x.code = k)) ∧ addM (addM M x).1 x = ((addM M x).1, 8) ∧ Inv k (i + 1) (addM M x).1 := by
  obtain ⟨hv, hu, _, _⟩ := std_valid x (hx ▸ List.getElem_mem hi)
  have hc : x.code = codes[i]'hi := by rw [hx]; exact std_code i hi
  have hta : codes.take (i + 1) = codes.take i ++ [x.code] := by rw [hc]; exact List.take_succ_eq_append_getElem hi
  have hmore : ∀ c, c ∈ codes.take i → c ∈ codes.take (i + 1) := fun c hc => by rw [hta]; exact List.mem_append_left _ hc
  have hv' : ¬ x.validB = false := by rw [hv]; decide
  by_cases hs : (M x.code).isSome = true
  · have e : addM M x = (M, 8) := by
      unfold addM
      rw [if_neg hv', if_pos hs]
    rw [e]
    refine ⟨.inr ⟨rfl, ?_⟩, e, fun c hc => (h c hc).imp id (hmore c)⟩
    rcases h _ hs with h1 | h1
    · exact h1
    · rw [hc] at h1; exact absurd h1 (codes_new i hi)
  · have e : addM M x = (upd M x.code ⟨x.code, x.up, x.cls, x.name, x.shut, ((M 0).getD Acc.zero).depth + 1, 0⟩, 0) := by
      unfold addM
      rw [if_neg hv', if_neg hs, if_pos hu]
    rw [e]
    refine ⟨.inl rfl, ?_, fun c hc => ?_⟩
    · unfold addM
      rw [if_neg hv', if_pos (by dsimp only; rw [upd_at]; rfl)]
    · by_cases e : c = x.code
      · rw [hta, e]; exact .inr (by simp)
      · dsimp only at hc
        rw [upd_ne _ _ e] at hc
        exact (h c hc).imp id (hmore c)
section
variable {w : World} {c : Nat}
set_option maxRecDepth 100000 in
theorem leaf_nil (w : World) (k : Int) : Calls Try.prog 19 #[.pointer none, .int .i64 k] w fun e w' => e = .returned (.bool false) ∧ Below w.heap.size w w' := by
  have KG := Lib.hid (get_nil w k)
  unfold Acc.zero Acc.val at KG
  simp only at KG
  go_enter Try.func19, Try.ntmps19
  go_wp2_with fail
  refine KG.out.mono ?_
  rintro e u ⟨rfl, hb⟩
  have HB : Hid (Below w.heap.size w (u.alloc (.cells #[.int .i64 0, .int .i64 0, .int .u8 0, .string ⟨#[]⟩, .bool false, .int .i64 0, .int .i64 0] TAcc))) := hb.alloc hb.size _
  clear hb KG
  go_wp2_with fail
  go_ret
  exact ⟨rfl, HB.out⟩
set_option maxRecDepth 100000 in
theorem leaf_zero (h : Rw w c TCh [.map none, .slice none 0 0]) (k : Int) : Calls Try.prog 19 #[.pointer (some ⟨c, 0, none⟩), .int .i64 k] w fun e w' => e = .returned (.bool false) ∧ Below w.heap.size w w' := by
  have KG := Lib.hid (get_zero h k)
  unfold Acc.zero Acc.val at KG
  simp only at KG
  clear h
  go_enter Try.func19, Try.ntmps19
  go_wp2_with fail
  refine KG.out.mono ?_
  rintro e u ⟨rfl, hb⟩
  have HB : Hid (Below w.heap.size w (u.alloc (.cells #[.int .i64 0, .int .i64 0, .int .u8 0, .string ⟨#[]⟩, .bool false, .int .i64 0, .int .i64 0] TAcc))) := hb.alloc hb.size _
  clear hb KG
  go_wp2_with fail
  go_ret
  exact ⟨rfl, HB.out⟩
end
/-- A chart, the standard's list, and the law's argument. -/
structure Sx (w : World) (c lb : Nat) (k : Int) (acs : List Value) (M : Int → Option Acc) (N : Nat) (u : World) : Prop where
  l : Left w.heap.size w u
  c : ∃ K N', N' ≤ N ∧ Ct w.heap.size u c M K N'
  r : Rw u lb TAc (flatA stdL)
  b : Rw u w.heap.size TAc acs
section
variable {w u u' : World} {c lb N : Nat} {k : Int} {acs : List Value} {M : Int → Option Acc}
theorem Sx.later (h : Sx w c lb k acs M N u) (hb : Below u.heap.size u u') : Sx w c lb k acs M N u' := by
  obtain ⟨K, N', h1, h2⟩ := h.c
  exact ⟨h.l.trans (Left.of hb h.l.b.size), ⟨K, N', h1, h2.later hb⟩, h.r.later hb, h.b.later hb⟩
theorem Sx.drew (h : Sx w c lb k acs M N u) : Sx w c lb k acs M N u.drew := h.later (Below.refl _ u).drew
/-- A second time. -/
theorem Sx.again (h : Sx w c lb k acs M N u) {x : A5} (hf : x.Fits) (hN : N ≤ 400000) (hx : addM M x = (M, 8)) : Calls Try.prog 11 #[.pointer (some ⟨c, 0, none⟩), x.val] u fun e u' => e = .returned (.int .i64 8) ∧ Sx w c lb k acs M N u' := by
  obtain ⟨K, N', h1, h2⟩ := h.c
  refine (ct_there h2 h.l.b.size x hf (by omega) hx).mono ?_
  rintro e u' ⟨rfl, ⟨K', k1⟩, k2⟩
  exact ⟨rfl, h.l.trans k2, ⟨K', N', h1, k1⟩, k2.s.rw h.r, k2.s.rw h.b⟩
theorem Sx.more (h : Sx w c lb k acs M N u) {N' : Nat} (hN : N ≤ N') : Sx w c lb k acs M N' u := by
  obtain ⟨K, N1, h1, h2⟩ := h.c
  exact ⟨h.l, ⟨K, N1, by omega, h2⟩, h.r, h.b⟩
end
/-- What a walk reads. -/
def Sw (w : World) (c lb i : Nat) (k : Int) (acs : List Value) (x : A5) (M : Int → Option Acc) (N : Nat) (u : World) : Prop :=
  u.cell? ⟨lb, i * 5, none⟩ = some (.int .i64 x.code) ∧ u.cell? ⟨lb, i * 5 + 1, none⟩ = some (.int .i64 x.up) ∧ u.cell? ⟨lb, i * 5 + 2, none⟩ = some (.int .u8 x.cls) ∧ u.cell? ⟨lb, i * 5 + 3, none⟩ = some (.string x.name) ∧ u.cell? ⟨lb, i * 5 + 4, none⟩ = some (.bool x.shut) ∧ u.cell? ⟨w.heap.size, 0, none⟩ = some (.int .i64 k) ∧ Sx w c lb k acs M N u
theorem Sx.sw {w u : World} {c lb N i : Nat} {k : Int} {acs : List Value} {M : Int → Option Acc} (h : Sx w c lb k acs M N u) (hi : i < 6) (ha : acs[0]? = some (.int .i64 k)) {x : A5} (hx : x = stdL[i]'hi) : Sw w c lb i k acs x M N u := by
  have key := flatA_at stdL i hi
  subst hx
  refine ⟨(h.r.cell _).trans (key 0 _ rfl), (h.r.cell _).trans (key 1 _ rfl), (h.r.cell _).trans (key 2 _ rfl), (h.r.cell _).trans (key 3 _ rfl), (h.r.cell _).trans (key 4 _ rfl), (h.b.cell 0).trans ha, h⟩
/-- A nil chart, one that nobody made, what they tell, and the law's argument. -/
structure Zs (w u : World) (z b9 b11 : Nat) (acs : List Value) : Prop where
  b : Below w.heap.size w u
  z : Rw u z TCh [.map none, .slice none 0 0]
  x : Rw u b9 TAc [.int .i64 0, .int .i64 0, .int .u8 0, .string ⟨#[]⟩, .bool false]
  y : Rw u b11 TAc [.int .i64 0, .int .i64 0, .int .u8 0, .string ⟨#[]⟩, .bool false]
  a : Rw u w.heap.size TAc acs
theorem Zs.later {w u u' : World} {z b9 b11 : Nat} {acs : List Value} (h : Zs w u z b9 b11 acs) (k : Below u.heap.size u u') : Zs w u' z b9 b11 acs := ⟨h.b.trans (k.mono h.b.size), h.z.later k, h.x.later k, h.y.later k, h.a.later k⟩
theorem rw_five {u : World} {b : Nat} {v0 v1 v2 v3 v4 : Value} (h : Rw u b TAc [v0, v1, v2, v3, v4]) : u.cell? ⟨b, 0, none⟩ = some v0 ∧ u.cell? ⟨b, 1, none⟩ = some v1 ∧ u.cell? ⟨b, 2, none⟩ = some v2 ∧ u.cell? ⟨b, 3, none⟩ = some v3 ∧ u.cell? ⟨b, 4, none⟩ = some v4 := ⟨h.cell 0, h.cell 1, h.cell 2, h.cell 3, h.cell 4⟩
theorem Zs.reads {w u : World} {z b9 b11 : Nat} {v0 v1 v2 v3 v4 : Value} (h : Zs w u z b9 b11 [v0, v1, v2, v3, v4]) : u.cell? ⟨w.heap.size, 0, none⟩ = some v0 ∧ u.cell? ⟨w.heap.size, 1, none⟩ = some v1 ∧ u.cell? ⟨w.heap.size, 2, none⟩ = some v2 ∧ u.cell? ⟨w.heap.size, 3, none⟩ = some v3 ∧ u.cell? ⟨w.heap.size, 4, none⟩ = some v4 := rw_five h.a
theorem Zs.rx {w u : World} {z b9 b11 : Nat} {acs : List Value} (h : Zs w u z b9 b11 acs) : u.cell? ⟨b9, 0, none⟩ = some (.int .i64 0) ∧ u.cell? ⟨b9, 1, none⟩ = some (.int .i64 0) ∧ u.cell? ⟨b9, 2, none⟩ = some (.int .u8 0) ∧ u.cell? ⟨b9, 3, none⟩ = some (.string ⟨#[]⟩) ∧ u.cell? ⟨b9, 4, none⟩ = some (.bool false) := rw_five h.x
theorem Zs.ry {w u : World} {z b9 b11 : Nat} {acs : List Value} (h : Zs w u z b9 b11 acs) : u.cell? ⟨b11, 0, none⟩ = some (.int .i64 0) ∧ u.cell? ⟨b11, 1, none⟩ = some (.int .i64 0) ∧ u.cell? ⟨b11, 2, none⟩ = some (.int .u8 0) ∧ u.cell? ⟨b11, 3, none⟩ = some (.string ⟨#[]⟩) ∧ u.cell? ⟨b11, 4, none⟩ = some (.bool false) := rw_five h.y
set_option maxRecDepth 100000 in
set_option maxHeartbeats 12800000 in
theorem std_law (a : A5) (hf : a.Fits) (w : World) : Calls Try.prog 5 #[a.val] w fun e w' => e = .returned (.bool true) ∧ Below w.heap.size w w' := by
  have HF := Lib.hid hf
  have IV0 := Lib.hid (inv_zero a)
  obtain ⟨M0, hM0⟩ : ∃ M0, M0 = (addM (fun _ => none) a).1 := ⟨_, rfl⟩
  have KAD : Hid (∀ (u : World) (c : Nat), Ct w.heap.size u c (fun _ => none) [] 0 → w.heap.size ≤ u.heap.size → Calls Try.prog 11 #[.pointer (some ⟨c, 0, none⟩), a.val] u fun e w' => ∃ z, e = .returned (.int .i64 z) ∧ (∃ K', Ct w.heap.size w' c M0 K' 1) ∧ Left w.heap.size u w') := fun u c h1 h2 => by
    rw [hM0]
    exact (ct_add h1 h2 a hf (by omega)).mono fun e w' h => ⟨_, h.1, h.2.1, h.2.2⟩
  rw [← hM0] at IV0
  have KAN : Hid (∀ u, Calls Try.prog 11 #[.pointer none, a.val] u fun e w' => e = .returned (.int .i64 1) ∧ Below u.heap.size u w') := fun u => add_nil a u
  have KAZ : Hid (∀ u z, Rw u z TCh [.map none, .slice none 0 0] → Calls Try.prog 11 #[.pointer (some ⟨z, 0, none⟩), a.val] u fun e w' => e = .returned (.int .i64 1) ∧ Below u.heap.size u w') := fun u z h => add_zero h a
  have hn := hf.name
  clear hf hM0
  obtain ⟨code, up, cls, name, shut⟩ := a
  unfold A5.val at KAD KAN KAZ ⊢
  simp only at hn KAD KAN KAZ IV0 ⊢
  have HB0 : Hid (Below w.heap.size w (w.alloc (.cells #[.int .i64 code, .int .i64 up, .int .u8 cls, .string name, .bool shut] TAc))) := (Below.refl _ w).alloc (Nat.le_refl _) _
  have RB0 : Hid (Rw (w.alloc (.cells #[.int .i64 code, .int .i64 up, .int .u8 cls, .string name, .bool shut] TAc)) w.heap.size TAc [.int .i64 code, .int .i64 up, .int .u8 cls, .string name, .bool shut]) := Rw.new w [.int .i64 code, .int .i64 up, .int .u8 cls, .string name, .bool shut] TAc
  by_cases h200 : 200 < name.size
  · have h2 : (200 : Int) < (name.size : Int) := by omega
    clear h200 KAD KAN KAZ IV0
    go_enter Try.func5, Try.ntmps5
    go_wp2_with fail
    refine (head_c _).mono ?_
    rintro e w1 ⟨rfl, hb⟩
    go_wp2_with fail
    go_ret
    exact ⟨rfl, HB0.out.trans (hb.mono HB0.out.size)⟩
  have h2 : ¬ (200 : Int) < (name.size : Int) := by omega
  clear h200 hn
  go_enter Try.func5, Try.ntmps5
  go_wp2_with fail
  generalize w.alloc (.cells #[.int .i64 code, .int .i64 up, .int .u8 cls, .string name, .bool shut] TAc) = W0 at HB0 RB0 ⊢
  clear h2
  refine (ct_new W0).mono ?_
  rintro e w1 ⟨c, rfl, h1, l1⟩
  have H1 := Lib.hid (h1.lower HB0.out.size)
  have L1 : Hid (Left w.heap.size w w1) := (Left.of HB0.out (Nat.le_refl _)).trans ⟨l1.b.mono HB0.out.size, l1.s⟩
  have RB1 := Lib.hid (l1.s.rw RB0.out)
  clear h1 l1 RB0 HB0
  have b0 : w1.cell? ⟨w.heap.size, 0, none⟩ = some (.int .i64 code) := (RB1.out).cell 0
  have b1 : w1.cell? ⟨w.heap.size, 1, none⟩ = some (.int .i64 up) := (RB1.out).cell 1
  have b2 : w1.cell? ⟨w.heap.size, 2, none⟩ = some (.int .u8 cls) := (RB1.out).cell 2
  have b3 : w1.cell? ⟨w.heap.size, 3, none⟩ = some (.string name) := (RB1.out).cell 3
  have b4 : w1.cell? ⟨w.heap.size, 4, none⟩ = some (.bool shut) := (RB1.out).cell 4
  go_wp2_with fail
  refine (KAD.out w1 c H1.out L1.out.b.size).mono ?_
  rintro e w2 ⟨z, rfl, ⟨K2, h2⟩, l2⟩
  have RB2 := Lib.hid (l2.s.rw RB1.out)
  have L2 : Hid (Left w.heap.size w w2) := L1.out.trans l2
  have H2 := Lib.hid h2
  clear b0 b1 b2 b3 b4 h2 l2 RB1 L1 H1 KAD
  go_wp2_with fail
  refine (std_c w2).mono ?_
  rintro e w3 ⟨lb, rfl, _, hr3, hb3⟩
  have S3 : Hid (Sx w c lb code [.int .i64 code, .int .i64 up, .int .u8 cls, .string name, .bool shut] M0 1 w3) := ⟨L2.out.trans (Left.of hb3 L2.out.b.size), ⟨K2, 1, Nat.le_refl _, H2.out.later hb3⟩, hr3, RB2.out.later hb3⟩
  clear hr3 hb3 RB2 L2 H2
  go_wp2_with fail
  go_loopg [5] 6 (fun kx s5 wr => ∃ (i : Nat) (M : Int → Option Acc), s5 = .int .i64 (i : Int) ∧ i ≤ 6 ∧ Hid (Inv code i M) ∧ Hid (Sx w c lb code [.int .i64 code, .int .i64 up, .int .u8 cls, .string name, .bool shut] M (1 + 2 * i) wr) ∧ 6 ≤ i + kx)
  case atStart => exact ⟨0, M0, rfl, by omega, IV0, S3, by omega⟩
  case round =>
    obtain ⟨i, M, rfl, hi6, HI, SX, hkx⟩ := hrel
    by_cases hlt : i < 6
    · obtain ⟨x, hx⟩ : ∃ x, x = stdL[i]'hlt := ⟨_, rfl⟩
      obtain ⟨e1, e2, e3⟩ := inv_step HI.out hlt hx
      have hsd := (std_valid x (hx ▸ List.getElem_mem hlt)).2.2.1
      have hfx := (std_valid x (hx ▸ List.getElem_mem hlt)).2.2.2
      obtain ⟨M', hM'⟩ : ∃ M', M' = (addM M x).1 := ⟨_, rfl⟩
      obtain ⟨z, hz⟩ : ∃ z, z = (addM M x).2 := ⟨_, rfl⟩
      rw [← hM'] at e2 e3
      rw [← hz] at e1
      have E2 := Lib.hid e2
      have HI2 := Lib.hid e3
      have KA1 : Hid (Calls Try.prog 11 #[.pointer (some ⟨c, 0, none⟩), x.val] wr fun e u' => e = .returned (.int .i64 z) ∧ Sx w c lb code [.int .i64 code, .int .i64 up, .int .u8 cls, .string name, .bool shut] M' (1 + 2 * i + 1) u') := by
        obtain ⟨K, N', k1, k2⟩ := SX.out.c
        refine (ct_add k2 SX.out.l.b.size x hfx (by omega)).mono ?_
        rintro e u' ⟨rfl, ⟨K', k3⟩, k4⟩
        exact ⟨by rw [hz], SX.out.l.trans k4, ⟨K', N' + 1, by omega, by rw [hM']; exact k3⟩, k4.s.rw SX.out.r, k4.s.rw SX.out.b⟩
      have KA2 : Hid (∀ u, Sx w c lb code [.int .i64 code, .int .i64 up, .int .u8 cls, .string name, .bool shut] M' (1 + 2 * i + 1) u → Calls Try.prog 11 #[.pointer (some ⟨c, 0, none⟩), x.val] u fun e u' => e = .returned (.int .i64 8) ∧ Sx w c lb code [.int .i64 code, .int .i64 up, .int .u8 cls, .string name, .bool shut] M' (1 + 2 * i + 1) u') := fun u hu => hu.again hfx (by omega) e2
      obtain ⟨sd, hsdd⟩ : ∃ sd, sd = sideM x.cls := ⟨_, rfl⟩
      have KSD : Hid (∀ u, Calls Try.prog 13 #[.int .u8 x.cls] u fun e w' => e = .returned (.int .i64 sd) ∧ u = w') := fun u => by rw [hsdd]; exact side_c u x.cls
      have bsd : (sd == 0) = false := by rw [hsdd]; simpa using hsd
      have HSW : Hid (∀ N M u, Sx w c lb code [.int .i64 code, .int .i64 up, .int .u8 cls, .string name, .bool shut] M N u → Sw w c lb i code [.int .i64 code, .int .i64 up, .int .u8 cls, .string name, .bool shut] x M N u) := fun N M u h => h.sw hlt rfl hx
      clear e2 e3 hsd hsdd hM' hz hfx HI
      obtain ⟨xk, xu, xc, xn, xs⟩ := x
      unfold A5.val at KA1 KA2
      simp only at KA1 KA2 e1 KSD
      obtain ⟨p0, p1, p2, p3, p4, p5, -⟩ := HSW.out _ _ _ SX.out
      simp only at p0 p1 p2 p3 p4
      have j0 : (0 : Int) ≤ (i : Int) := by omega
      have j1 : (i : Int) < 6 := by omega
      have HLT := Lib.hid hlt
      have HKX := Lib.hid hkx
      have E1 := Lib.hid e1
      clear hx e1 hi6 hkx hlt
      go_wp2_with fail
      refine KA1.out.mono ?_
      rintro e u1 ⟨rfl, hs1⟩
      have S1 := Lib.hid hs1
      clear hs1 KA1 p0 p1 p2 p3 p4 p5 SX
      obtain ⟨p0, p1, p2, p3, p4, p5, -⟩ := HSW.out _ _ _ S1.out
      simp only at p0 p1 p2 p3 p4
      have hwhich : (z = 0 ∧ xk = code) ∨ (z = 0 ∧ xk ≠ code) ∨ (z = 8 ∧ xk = code) := by
        rcases E1.out with e | ⟨e, e'⟩
        · by_cases h : xk = code
          · exact .inl ⟨e, h⟩
          · exact .inr (.inl ⟨e, h⟩)
        · exact .inr (.inr ⟨e, e'⟩)
      clear E1
      rcases hwhich with ⟨rfl, rfl⟩ | ⟨rfl, hne⟩ | ⟨rfl, rfl⟩
      · have bxx : (xk != xk) = false := by simp
        go_wp2_with fail
        clear p0 p1 p2 p3 p4 p5

        refine wp_region_held_drew (S := (fun u => u.cell? ⟨lb, i * 5, none⟩ = some (.int .i64 xk) ∧ u.cell? ⟨lb, i * 5 + 1, none⟩ = some (.int .i64 xu) ∧ u.cell? ⟨lb, i * 5 + 2, none⟩ = some (.int .u8 xc) ∧ u.cell? ⟨lb, i * 5 + 3, none⟩ = some (.string xn) ∧ u.cell? ⟨lb, i * 5 + 4, none⟩ = some (.bool xs) ∧ u.cell? ⟨w.heap.size, 0, none⟩ = some (.int .i64 xk) ∧ Sx w c lb xk [.int .i64 xk, .int .i64 up, .int .u8 cls, .string name, .bool shut] M' (1 + 2 * i + 1) u)) (by kernel_rfl) ?_ (fun hHeld => ?_)
        · exact HSW.out _ _ _ S1.out.drew
        refine wpAnyH_take (i := 0) (oi := { dst := some 35, op := Op.move (Operand.tmp 4), type := 25, pos := "law.go:133", after := #[], guard := none }) (v := (.slice (some ⟨lb, 0, none⟩) 6 6)) rfl (by kernel_rfl) (by kernel_rfl) (by kernel_rfl) (fun _ _ _ h => h) (Or.inl ⟨by rfl, ?_⟩) hHeld ?_
        · rintro u ⟨p0, p1, p2, p3, p4, p5, -⟩
          go_simp
        try simp only [Act.put, List.setIfInBounds_toArray, List.set_cons_zero, List.set_cons_succ]
        refine wpAnyH_take (i := 1) (oi := { dst := some 36, op := Op.move (Operand.tmp 5), type := 3, pos := "law.go:133", after := #[], guard := none }) (v := (.int .i64 (i : Int))) rfl (by kernel_rfl) (by kernel_rfl) (by kernel_rfl) (fun _ _ _ h => h) (Or.inl ⟨by rfl, ?_⟩) hHeld ?_
        · rintro u ⟨p0, p1, p2, p3, p4, p5, -⟩
          go_simp
        try simp only [Act.put, List.setIfInBounds_toArray, List.set_cons_zero, List.set_cons_succ]
        refine wpAnyH_take (i := 2) (oi := { dst := some 37, op := Op.indexAddr 25 (Operand.tmp 35) (Operand.tmp 36), type := 0, pos := "law.go:133", after := #[{ on := 0, ground := Ground.data }, { on := 1, ground := Ground.data }], guard := none }) (v := (.pointer (some ⟨lb, i * 5, none⟩))) rfl (by kernel_rfl) (by kernel_rfl) (by kernel_rfl) (fun _ _ _ h => h) (Or.inl ⟨by rfl, ?_⟩) hHeld ?_
        · rintro u ⟨p0, p1, p2, p3, p4, p5, -⟩
          go_simp
        try simp only [Act.put, List.setIfInBounds_toArray, List.set_cons_zero, List.set_cons_succ]
        refine wpAnyH_take (i := 3) (oi := { dst := some 38, op := Op.fieldAddr 27 (Operand.tmp 37) 0, type := 0, pos := "law.go:133", after := #[{ on := 2, ground := Ground.data }], guard := none }) (v := (.pointer (some ⟨lb, i * 5, none⟩))) rfl (by kernel_rfl) (by kernel_rfl) (by kernel_rfl) (fun _ _ _ h => h) (Or.inl ⟨by rfl, ?_⟩) hHeld ?_
        · rintro u ⟨p0, p1, p2, p3, p4, p5, -⟩
          go_simp
        try simp only [Act.put, List.setIfInBounds_toArray, List.set_cons_zero, List.set_cons_succ]
        refine wpAnyH_take (i := 4) (oi := { dst := some 39, op := Op.load 3 (Operand.tmp 38), type := 3, pos := "law.go:133", after := #[{ on := 3, ground := Ground.data }], guard := none }) (v := (.int .i64 xk)) rfl (by kernel_rfl) (by kernel_rfl) (by kernel_rfl) (fun _ _ _ h => h) (Or.inl ⟨by rfl, ?_⟩) hHeld ?_
        · rintro u ⟨p0, p1, p2, p3, p4, p5, -⟩
          go_simp
        try simp only [Act.put, List.setIfInBounds_toArray, List.set_cons_zero, List.set_cons_succ]
        refine wpAnyH_take (i := 5) (oi := { dst := some 40, op := Op.fieldAddr 27 (Operand.tmp 1) 0, type := 0, pos := "law.go:133", after := #[], guard := none }) (v := (.pointer (some ⟨w.heap.size, 0, none⟩))) rfl (by kernel_rfl) (by kernel_rfl) (by kernel_rfl) (fun _ _ _ h => h) (Or.inl ⟨by rfl, ?_⟩) hHeld ?_
        · rintro u ⟨p0, p1, p2, p3, p4, p5, -⟩
          go_simp
        try simp only [Act.put, List.setIfInBounds_toArray, List.set_cons_zero, List.set_cons_succ]
        refine wpAnyH_take (i := 6) (oi := { dst := some 41, op := Op.load 3 (Operand.tmp 40), type := 3, pos := "law.go:133", after := #[{ on := 5, ground := Ground.data }], guard := none }) (v := (.int .i64 xk)) rfl (by kernel_rfl) (by kernel_rfl) (by kernel_rfl) (fun _ _ _ h => h) (Or.inl ⟨by rfl, ?_⟩) hHeld ?_
        · rintro u ⟨p0, p1, p2, p3, p4, p5, -⟩
          go_simp
        try simp only [Act.put, List.setIfInBounds_toArray, List.set_cons_zero, List.set_cons_succ]
        refine wpAnyH_take (i := 7) (oi := { dst := some 42, op := Op.binOp BinOp.neq 3 (Operand.tmp 39) (Operand.tmp 41) 3, type := 4, pos := "law.go:133", after := #[{ on := 4, ground := Ground.data }, { on := 6, ground := Ground.data }], guard := none }) (v := (.bool false)) rfl (by kernel_rfl) (by kernel_rfl) (by kernel_rfl) (fun _ _ _ h => h) (Or.inl ⟨by rfl, ?_⟩) hHeld ?_
        · rintro u ⟨p0, p1, p2, p3, p4, p5, -⟩
          go_simp
        try simp only [Act.put, List.setIfInBounds_toArray, List.set_cons_zero, List.set_cons_succ]
        refine wpAnyH_take (i := 8) (oi := { dst := some 43, op := Op.move (Operand.tmp 42), type := 4, pos := "law.go:133", after := #[{ on := 7, ground := Ground.data }], guard := none }) (v := (.bool false)) rfl (by kernel_rfl) (by kernel_rfl) (by kernel_rfl) (fun _ _ _ h => h) (Or.inl ⟨by rfl, ?_⟩) hHeld ?_
        · rintro u ⟨p0, p1, p2, p3, p4, p5, -⟩
          go_simp
        try simp only [Act.put, List.setIfInBounds_toArray, List.set_cons_zero, List.set_cons_succ]
        refine wpAnyH_take (i := 9) (oi := { dst := some 44, op := Op.move (Operand.tmp 6), type := 33, pos := "law.go:133", after := #[{ on := 8, ground := Ground.guard }], guard := some (8, true) }) (v := undef) rfl (by kernel_rfl) (by kernel_rfl) (by kernel_rfl) (fun _ _ _ h => h) (Or.inr ⟨by rfl, rfl⟩) hHeld ?_
        try simp only [Act.put, List.setIfInBounds_toArray, List.set_cons_zero, List.set_cons_succ]
        refine wpAnyH_take (i := 10) (oi := { dst := some 45, op := Op.binOp BinOp.neq 33 (Operand.tmp 44) (Operand.const (Value.int IntKind.i64 0)) 33, type := 4, pos := "law.go:133", after := #[{ on := 9, ground := Ground.data }, { on := 8, ground := Ground.guard }], guard := some (8, true) }) (v := undef) rfl (by kernel_rfl) (by kernel_rfl) (by kernel_rfl) (fun _ _ _ h => h) (Or.inr ⟨by rfl, rfl⟩) hHeld ?_
        try simp only [Act.put, List.setIfInBounds_toArray, List.set_cons_zero, List.set_cons_succ]
        refine wpAnyH_take (i := 11) (oi := { dst := some 46, op := Op.pick (Operand.tmp 43) (Operand.tmp 45) (Operand.const (Value.bool false)), type := 4, pos := "law.go:133", after := #[{ on := 8, ground := Ground.data }, { on := 10, ground := Ground.data }], guard := none }) (v := (.bool false)) rfl (by kernel_rfl) (by kernel_rfl) (by kernel_rfl) (fun _ _ _ h => h) (Or.inl ⟨by rfl, ?_⟩) hHeld ?_
        · rintro u ⟨p0, p1, p2, p3, p4, p5, -⟩
          go_simp
        try simp only [Act.put, List.setIfInBounds_toArray, List.set_cons_zero, List.set_cons_succ]
        refine wpAnyH_take (i := 12) (oi := { dst := some 47, op := Op.move (Operand.tmp 46), type := 4, pos := "law.go:133", after := #[{ on := 11, ground := Ground.data }, { on := 8, ground := Ground.chain }], guard := none }) (v := (.bool false)) rfl (by kernel_rfl) (by kernel_rfl) (by kernel_rfl) (fun _ _ _ h => h) (Or.inl ⟨by rfl, ?_⟩) hHeld ?_
        · rintro u ⟨p0, p1, p2, p3, p4, p5, -⟩
          go_simp
        try simp only [Act.put, List.setIfInBounds_toArray, List.set_cons_zero, List.set_cons_succ]
        refine wpAnyH_take (i := 13) (oi := { dst := some 48, op := Op.move (Operand.tmp 6), type := 33, pos := "law.go:133", after := #[{ on := 12, ground := Ground.guard }], guard := some (12, false) }) (v := (.int .i64 0)) rfl (by kernel_rfl) (by kernel_rfl) (by kernel_rfl) (fun _ _ _ h => h) (Or.inl ⟨by rfl, ?_⟩) hHeld ?_
        · rintro u ⟨p0, p1, p2, p3, p4, p5, -⟩
          go_simp
        try simp only [Act.put, List.setIfInBounds_toArray, List.set_cons_zero, List.set_cons_succ]
        refine wpAnyH_take (i := 14) (oi := { dst := some 49, op := Op.binOp BinOp.neq 33 (Operand.tmp 48) (Operand.const (Value.int IntKind.i64 0)) 33, type := 4, pos := "law.go:133", after := #[{ on := 13, ground := Ground.data }, { on := 12, ground := Ground.guard }], guard := some (12, false) }) (v := (.bool false)) rfl (by kernel_rfl) (by kernel_rfl) (by kernel_rfl) (fun _ _ _ h => h) (Or.inl ⟨by rfl, ?_⟩) hHeld ?_
        · rintro u ⟨p0, p1, p2, p3, p4, p5, -⟩
          go_simp
        try simp only [Act.put, List.setIfInBounds_toArray, List.set_cons_zero, List.set_cons_succ]
        refine wpAnyH_take (i := 15) (oi := { dst := some 50, op := Op.move (Operand.tmp 49), type := 4, pos := "law.go:133", after := #[{ on := 14, ground := Ground.data }, { on := 12, ground := Ground.chain }, { on := 12, ground := Ground.guard }], guard := some (12, false) }) (v := (.bool false)) rfl (by kernel_rfl) (by kernel_rfl) (by kernel_rfl) (fun _ _ _ h => h) (Or.inl ⟨by rfl, ?_⟩) hHeld ?_
        · rintro u ⟨p0, p1, p2, p3, p4, p5, -⟩
          go_simp
        try simp only [Act.put, List.setIfInBounds_toArray, List.set_cons_zero, List.set_cons_succ]
        refine wpAnyH_take (i := 16) (oi := { dst := some 51, op := Op.move (Operand.tmp 6), type := 33, pos := "law.go:133", after := #[{ on := 15, ground := Ground.guard }], guard := some (15, true) }) (v := undef) rfl (by kernel_rfl) (by kernel_rfl) (by kernel_rfl) (fun _ _ _ h => h) (Or.inr ⟨by rfl, rfl⟩) hHeld ?_
        try simp only [Act.put, List.setIfInBounds_toArray, List.set_cons_zero, List.set_cons_succ]
        refine wpAnyH_take (i := 17) (oi := { dst := some 52, op := Op.binOp BinOp.neq 33 (Operand.tmp 51) (Operand.const (Value.int IntKind.i64 8)) 33, type := 4, pos := "law.go:133", after := #[{ on := 16, ground := Ground.data }, { on := 15, ground := Ground.guard }], guard := some (15, true) }) (v := undef) rfl (by kernel_rfl) (by kernel_rfl) (by kernel_rfl) (fun _ _ _ h => h) (Or.inr ⟨by rfl, rfl⟩) hHeld ?_
        try simp only [Act.put, List.setIfInBounds_toArray, List.set_cons_zero, List.set_cons_succ]
        refine wpAnyH_take (i := 18) (oi := { dst := some 53, op := Op.pick (Operand.tmp 50) (Operand.tmp 52) (Operand.const (Value.bool false)), type := 4, pos := "law.go:133", after := #[{ on := 15, ground := Ground.data }, { on := 17, ground := Ground.data }, { on := 12, ground := Ground.guard }], guard := some (12, false) }) (v := (.bool false)) rfl (by kernel_rfl) (by kernel_rfl) (by kernel_rfl) (fun _ _ _ h => h) (Or.inl ⟨by rfl, ?_⟩) hHeld ?_
        · rintro u ⟨p0, p1, p2, p3, p4, p5, -⟩
          go_simp
        try simp only [Act.put, List.setIfInBounds_toArray, List.set_cons_zero, List.set_cons_succ]
        refine wpAnyH_take (i := 19) (oi := { dst := some 54, op := Op.pick (Operand.tmp 47) (Operand.const (Value.bool true)) (Operand.tmp 53), type := 4, pos := "law.go:133", after := #[{ on := 12, ground := Ground.data }, { on := 18, ground := Ground.data }], guard := none }) (v := (.bool false)) rfl (by kernel_rfl) (by kernel_rfl) (by kernel_rfl) (fun _ _ _ h => h) (Or.inl ⟨by rfl, ?_⟩) hHeld ?_
        · rintro u ⟨p0, p1, p2, p3, p4, p5, -⟩
          go_simp
        try simp only [Act.put, List.setIfInBounds_toArray, List.set_cons_zero, List.set_cons_succ]
        refine wpAnyH_take (i := 20) (oi := { dst := some 55, op := Op.move (Operand.tmp 54), type := 4, pos := "law.go:133", after := #[{ on := 19, ground := Ground.data }, { on := 15, ground := Ground.chain }], guard := none }) (v := (.bool false)) rfl (by kernel_rfl) (by kernel_rfl) (by kernel_rfl) (fun _ _ _ h => h) (Or.inl ⟨by rfl, ?_⟩) hHeld ?_
        · rintro u ⟨p0, p1, p2, p3, p4, p5, -⟩
          go_simp
        try simp only [Act.put, List.setIfInBounds_toArray, List.set_cons_zero, List.set_cons_succ]
        refine wpAnyH_take (i := 21) (oi := { dst := some 56, op := Op.move (Operand.tmp 3), type := 23, pos := "law.go:133", after := #[{ on := 20, ground := Ground.guard }], guard := some (20, false) }) (v := (.pointer (some ⟨c, 0, none⟩))) rfl (by kernel_rfl) (by kernel_rfl) (by kernel_rfl) (fun _ _ _ h => h) (Or.inl ⟨by rfl, ?_⟩) hHeld ?_
        · rintro u ⟨p0, p1, p2, p3, p4, p5, -⟩
          go_simp
        try simp only [Act.put, List.setIfInBounds_toArray, List.set_cons_zero, List.set_cons_succ]
        refine wpAnyH_take (i := 22) (oi := { dst := some 57, op := Op.move (Operand.tmp 4), type := 25, pos := "law.go:133", after := #[{ on := 20, ground := Ground.guard }], guard := some (20, false) }) (v := (.slice (some ⟨lb, 0, none⟩) 6 6)) rfl (by kernel_rfl) (by kernel_rfl) (by kernel_rfl) (fun _ _ _ h => h) (Or.inl ⟨by rfl, ?_⟩) hHeld ?_
        · rintro u ⟨p0, p1, p2, p3, p4, p5, -⟩
          go_simp
        try simp only [Act.put, List.setIfInBounds_toArray, List.set_cons_zero, List.set_cons_succ]
        refine wpAnyH_take (i := 23) (oi := { dst := some 58, op := Op.move (Operand.tmp 5), type := 3, pos := "law.go:133", after := #[{ on := 20, ground := Ground.guard }], guard := some (20, false) }) (v := (.int .i64 (i : Int))) rfl (by kernel_rfl) (by kernel_rfl) (by kernel_rfl) (fun _ _ _ h => h) (Or.inl ⟨by rfl, ?_⟩) hHeld ?_
        · rintro u ⟨p0, p1, p2, p3, p4, p5, -⟩
          go_simp
        try simp only [Act.put, List.setIfInBounds_toArray, List.set_cons_zero, List.set_cons_succ]
        refine wpAnyH_take (i := 24) (oi := { dst := some 59, op := Op.indexAddr 25 (Operand.tmp 57) (Operand.tmp 58), type := 0, pos := "law.go:133", after := #[{ on := 22, ground := Ground.data }, { on := 23, ground := Ground.data }, { on := 20, ground := Ground.guard }], guard := some (20, false) }) (v := (.pointer (some ⟨lb, i * 5, none⟩))) rfl (by kernel_rfl) (by kernel_rfl) (by kernel_rfl) (fun _ _ _ h => h) (Or.inl ⟨by rfl, ?_⟩) hHeld ?_
        · rintro u ⟨p0, p1, p2, p3, p4, p5, -⟩
          go_simp
        try simp only [Act.put, List.setIfInBounds_toArray, List.set_cons_zero, List.set_cons_succ]
        refine wpAnyH_take (i := 25) (oi := { dst := some 60, op := Op.load 27 (Operand.tmp 59), type := 27, pos := "law.go:133", after := #[{ on := 24, ground := Ground.data }, { on := 20, ground := Ground.guard }], guard := some (20, false) }) (v := (.agg #[.int .i64 xk, .int .i64 xu, .int .u8 xc, .string xn, .bool xs])) rfl (by kernel_rfl) (by kernel_rfl) (by kernel_rfl) (fun _ _ _ h => h) (Or.inl ⟨by rfl, ?_⟩) hHeld ?_
        · rintro u ⟨p0, p1, p2, p3, p4, p5, -⟩
          go_simp
        try simp only [Act.put, List.setIfInBounds_toArray, List.set_cons_zero, List.set_cons_succ]
        refine wpAnyH_ready (rs := [26]) (by kernel_rfl) (by simp) ?_
        refine AllReadyH.cons (o := { dst := some 61, op := Op.call { callee := Callee.value (Operand.func 11), args := #[Operand.tmp 56, Operand.tmp 60], argTypes := #[23, 27] }, type := 33, pos := "law.go:133", after := #[{ on := 21, ground := Ground.data }, { on := 25, ground := Ground.data }, { on := 20, ground := Ground.chain }, { on := 20, ground := Ground.guard }], guard := some (20, false) }) rfl (fun K hK => ?_) AllReadyH.nil
        go_simp
        refine (KA2.out _ hHeld.2.2.2.2.2.2).mono ?_
        rintro e u2 ⟨rfl, J1⟩
        go_wp2_with fail
        refine hK.out _ _ (HSW.out _ _ _ J1) (fun hHeld2 => ?_)
        clear hK K
        try simp only [Act.put, List.setIfInBounds_toArray, List.set_cons_zero, List.set_cons_succ]
        refine wpAnyH_take (i := 27) (oi := { dst := some 62, op := Op.binOp BinOp.neq 33 (Operand.tmp 61) (Operand.const (Value.int IntKind.i64 8)) 33, type := 4, pos := "law.go:133", after := #[{ on := 26, ground := Ground.data }, { on := 20, ground := Ground.guard }], guard := some (20, false) }) (v := (.bool false)) rfl (by kernel_rfl) (by kernel_rfl) (by kernel_rfl) (fun _ _ _ h => h) (Or.inl ⟨by rfl, ?_⟩) hHeld2 ?_
        · rintro u ⟨p0, p1, p2, p3, p4, p5, -⟩
          go_simp
        try simp only [Act.put, List.setIfInBounds_toArray, List.set_cons_zero, List.set_cons_succ]
        refine wpAnyH_take (i := 28) (oi := { dst := some 63, op := Op.pick (Operand.tmp 55) (Operand.const (Value.bool true)) (Operand.tmp 62), type := 4, pos := "law.go:133", after := #[{ on := 20, ground := Ground.data }, { on := 27, ground := Ground.data }], guard := none }) (v := (.bool false)) rfl (by kernel_rfl) (by kernel_rfl) (by kernel_rfl) (fun _ _ _ h => h) (Or.inl ⟨by rfl, ?_⟩) hHeld2 ?_
        · rintro u ⟨p0, p1, p2, p3, p4, p5, -⟩
          go_simp
        try simp only [Act.put, List.setIfInBounds_toArray, List.set_cons_zero, List.set_cons_succ]
        refine wpAnyH_take (i := 29) (oi := { dst := some 64, op := Op.move (Operand.tmp 63), type := 4, pos := "law.go:133", after := #[{ on := 28, ground := Ground.data }, { on := 26, ground := Ground.chain }], guard := none }) (v := (.bool false)) rfl (by kernel_rfl) (by kernel_rfl) (by kernel_rfl) (fun _ _ _ h => h) (Or.inl ⟨by rfl, ?_⟩) hHeld2 ?_
        · rintro u ⟨p0, p1, p2, p3, p4, p5, -⟩
          go_simp
        try simp only [Act.put, List.setIfInBounds_toArray, List.set_cons_zero, List.set_cons_succ]
        refine wpAnyH_take (i := 30) (oi := { dst := some 65, op := Op.move (Operand.tmp 4), type := 25, pos := "law.go:133", after := #[{ on := 29, ground := Ground.guard }], guard := some (29, false) }) (v := (.slice (some ⟨lb, 0, none⟩) 6 6)) rfl (by kernel_rfl) (by kernel_rfl) (by kernel_rfl) (fun _ _ _ h => h) (Or.inl ⟨by rfl, ?_⟩) hHeld2 ?_
        · rintro u ⟨p0, p1, p2, p3, p4, p5, -⟩
          go_simp
        try simp only [Act.put, List.setIfInBounds_toArray, List.set_cons_zero, List.set_cons_succ]
        refine wpAnyH_take (i := 31) (oi := { dst := some 66, op := Op.move (Operand.tmp 5), type := 3, pos := "law.go:133", after := #[{ on := 29, ground := Ground.guard }], guard := some (29, false) }) (v := (.int .i64 (i : Int))) rfl (by kernel_rfl) (by kernel_rfl) (by kernel_rfl) (fun _ _ _ h => h) (Or.inl ⟨by rfl, ?_⟩) hHeld2 ?_
        · rintro u ⟨p0, p1, p2, p3, p4, p5, -⟩
          go_simp
        try simp only [Act.put, List.setIfInBounds_toArray, List.set_cons_zero, List.set_cons_succ]
        refine wpAnyH_take (i := 32) (oi := { dst := some 67, op := Op.indexAddr 25 (Operand.tmp 65) (Operand.tmp 66), type := 0, pos := "law.go:133", after := #[{ on := 30, ground := Ground.data }, { on := 31, ground := Ground.data }, { on := 29, ground := Ground.guard }], guard := some (29, false) }) (v := (.pointer (some ⟨lb, i * 5, none⟩))) rfl (by kernel_rfl) (by kernel_rfl) (by kernel_rfl) (fun _ _ _ h => h) (Or.inl ⟨by rfl, ?_⟩) hHeld2 ?_
        · rintro u ⟨p0, p1, p2, p3, p4, p5, -⟩
          go_simp
        try simp only [Act.put, List.setIfInBounds_toArray, List.set_cons_zero, List.set_cons_succ]
        refine wpAnyH_take (i := 33) (oi := { dst := some 68, op := Op.fieldAddr 27 (Operand.tmp 67) 2, type := 0, pos := "law.go:133", after := #[{ on := 32, ground := Ground.data }, { on := 29, ground := Ground.guard }], guard := some (29, false) }) (v := (.pointer (some ⟨lb, i * 5 + 2, none⟩))) rfl (by kernel_rfl) (by kernel_rfl) (by kernel_rfl) (fun _ _ _ h => h) (Or.inl ⟨by rfl, ?_⟩) hHeld2 ?_
        · rintro u ⟨p0, p1, p2, p3, p4, p5, -⟩
          go_simp
        try simp only [Act.put, List.setIfInBounds_toArray, List.set_cons_zero, List.set_cons_succ]
        refine wpAnyH_take (i := 34) (oi := { dst := some 69, op := Op.load 5 (Operand.tmp 68), type := 5, pos := "law.go:133", after := #[{ on := 33, ground := Ground.data }, { on := 29, ground := Ground.guard }], guard := some (29, false) }) (v := (.int .u8 xc)) rfl (by kernel_rfl) (by kernel_rfl) (by kernel_rfl) (fun _ _ _ h => h) (Or.inl ⟨by rfl, ?_⟩) hHeld2 ?_
        · rintro u ⟨p0, p1, p2, p3, p4, p5, -⟩
          go_simp
        try simp only [Act.put, List.setIfInBounds_toArray, List.set_cons_zero, List.set_cons_succ]
        refine wpAnyH_ready (rs := [35]) (by kernel_rfl) (by simp) ?_
        refine AllReadyH.cons (o := { dst := some 70, op := Op.call { callee := Callee.value (Operand.func 13), args := #[Operand.tmp 69], argTypes := #[5] }, type := 3, pos := "law.go:133", after := #[{ on := 34, ground := Ground.data }, { on := 29, ground := Ground.chain }, { on := 29, ground := Ground.guard }], guard := some (29, false) }) rfl (fun K hK => ?_) AllReadyH.nil
        go_simp
        refine (KSD.out _).mono ?_
        rintro e u3 ⟨rfl, rfl⟩
        go_wp2_with fail
        refine hK.out _ _ (HSW.out _ _ _ J1) (fun hHeld3 => ?_)
        clear hK K
        try simp only [Act.put, List.setIfInBounds_toArray, List.set_cons_zero, List.set_cons_succ]
        refine wpAnyH_take (i := 36) (oi := { dst := some 71, op := Op.binOp BinOp.eql 3 (Operand.tmp 70) (Operand.const (Value.int IntKind.i64 0)) 3, type := 4, pos := "law.go:133", after := #[{ on := 35, ground := Ground.data }, { on := 29, ground := Ground.guard }], guard := some (29, false) }) (v := (.bool false)) rfl (by kernel_rfl) (by kernel_rfl) (by kernel_rfl) (fun _ _ _ h => h) (Or.inl ⟨by rfl, ?_⟩) hHeld3 ?_
        · rintro u ⟨p0, p1, p2, p3, p4, p5, -⟩
          go_simp
        try simp only [Act.put, List.setIfInBounds_toArray, List.set_cons_zero, List.set_cons_succ]
        refine wpAnyH_take (i := 37) (oi := { dst := some 72, op := Op.pick (Operand.tmp 64) (Operand.const (Value.bool true)) (Operand.tmp 71), type := 4, pos := "law.go:133", after := #[{ on := 29, ground := Ground.data }, { on := 36, ground := Ground.data }], guard := none }) (v := (.bool false)) rfl (by kernel_rfl) (by kernel_rfl) (by kernel_rfl) (fun _ _ _ h => h) (Or.inl ⟨by rfl, ?_⟩) hHeld3 ?_
        · rintro u ⟨p0, p1, p2, p3, p4, p5, -⟩
          go_simp
        try simp only [Act.put, List.setIfInBounds_toArray, List.set_cons_zero, List.set_cons_succ]
        refine wpAnyH_done (by kernel_rfl) ?_ _

        have S9 := Lib.hid (show Sx w c lb xk [.int .i64 xk, .int .i64 up, .int .u8 cls, .string name, .bool shut] M' (1 + 2 * i + 1) u2 by assumption)
        go_wp2_with fail
        have hlt := HLT.out
        have hkx := HKX.out
        go_roundg (6 - (i + 1))
        case measure => omega
        case rel => exact ⟨i + 1, M', by simp, by omega, HI2, S9.out.more (by omega), by omega⟩
      · have bne : (xk != code) = true := by simpa using hne
        clear hne
        go_wp2_with fail
        clear p0 p1 p2 p3 p4 p5

        refine wp_region_held_drew (S := (fun u => u.cell? ⟨lb, i * 5, none⟩ = some (.int .i64 xk) ∧ u.cell? ⟨lb, i * 5 + 1, none⟩ = some (.int .i64 xu) ∧ u.cell? ⟨lb, i * 5 + 2, none⟩ = some (.int .u8 xc) ∧ u.cell? ⟨lb, i * 5 + 3, none⟩ = some (.string xn) ∧ u.cell? ⟨lb, i * 5 + 4, none⟩ = some (.bool xs) ∧ u.cell? ⟨w.heap.size, 0, none⟩ = some (.int .i64 code) ∧ Sx w c lb code [.int .i64 code, .int .i64 up, .int .u8 cls, .string name, .bool shut] M' (1 + 2 * i + 1) u)) (by kernel_rfl) ?_ (fun hHeld => ?_)
        · exact HSW.out _ _ _ S1.out.drew
        refine wpAnyH_take (i := 0) (oi := { dst := some 35, op := Op.move (Operand.tmp 4), type := 25, pos := "law.go:133", after := #[], guard := none }) (v := (.slice (some ⟨lb, 0, none⟩) 6 6)) rfl (by kernel_rfl) (by kernel_rfl) (by kernel_rfl) (fun _ _ _ h => h) (Or.inl ⟨by rfl, ?_⟩) hHeld ?_
        · rintro u ⟨p0, p1, p2, p3, p4, p5, -⟩
          go_simp
        try simp only [Act.put, List.setIfInBounds_toArray, List.set_cons_zero, List.set_cons_succ]
        refine wpAnyH_take (i := 1) (oi := { dst := some 36, op := Op.move (Operand.tmp 5), type := 3, pos := "law.go:133", after := #[], guard := none }) (v := (.int .i64 (i : Int))) rfl (by kernel_rfl) (by kernel_rfl) (by kernel_rfl) (fun _ _ _ h => h) (Or.inl ⟨by rfl, ?_⟩) hHeld ?_
        · rintro u ⟨p0, p1, p2, p3, p4, p5, -⟩
          go_simp
        try simp only [Act.put, List.setIfInBounds_toArray, List.set_cons_zero, List.set_cons_succ]
        refine wpAnyH_take (i := 2) (oi := { dst := some 37, op := Op.indexAddr 25 (Operand.tmp 35) (Operand.tmp 36), type := 0, pos := "law.go:133", after := #[{ on := 0, ground := Ground.data }, { on := 1, ground := Ground.data }], guard := none }) (v := (.pointer (some ⟨lb, i * 5, none⟩))) rfl (by kernel_rfl) (by kernel_rfl) (by kernel_rfl) (fun _ _ _ h => h) (Or.inl ⟨by rfl, ?_⟩) hHeld ?_
        · rintro u ⟨p0, p1, p2, p3, p4, p5, -⟩
          go_simp
        try simp only [Act.put, List.setIfInBounds_toArray, List.set_cons_zero, List.set_cons_succ]
        refine wpAnyH_take (i := 3) (oi := { dst := some 38, op := Op.fieldAddr 27 (Operand.tmp 37) 0, type := 0, pos := "law.go:133", after := #[{ on := 2, ground := Ground.data }], guard := none }) (v := (.pointer (some ⟨lb, i * 5, none⟩))) rfl (by kernel_rfl) (by kernel_rfl) (by kernel_rfl) (fun _ _ _ h => h) (Or.inl ⟨by rfl, ?_⟩) hHeld ?_
        · rintro u ⟨p0, p1, p2, p3, p4, p5, -⟩
          go_simp
        try simp only [Act.put, List.setIfInBounds_toArray, List.set_cons_zero, List.set_cons_succ]
        refine wpAnyH_take (i := 4) (oi := { dst := some 39, op := Op.load 3 (Operand.tmp 38), type := 3, pos := "law.go:133", after := #[{ on := 3, ground := Ground.data }], guard := none }) (v := (.int .i64 xk)) rfl (by kernel_rfl) (by kernel_rfl) (by kernel_rfl) (fun _ _ _ h => h) (Or.inl ⟨by rfl, ?_⟩) hHeld ?_
        · rintro u ⟨p0, p1, p2, p3, p4, p5, -⟩
          go_simp
        try simp only [Act.put, List.setIfInBounds_toArray, List.set_cons_zero, List.set_cons_succ]
        refine wpAnyH_take (i := 5) (oi := { dst := some 40, op := Op.fieldAddr 27 (Operand.tmp 1) 0, type := 0, pos := "law.go:133", after := #[], guard := none }) (v := (.pointer (some ⟨w.heap.size, 0, none⟩))) rfl (by kernel_rfl) (by kernel_rfl) (by kernel_rfl) (fun _ _ _ h => h) (Or.inl ⟨by rfl, ?_⟩) hHeld ?_
        · rintro u ⟨p0, p1, p2, p3, p4, p5, -⟩
          go_simp
        try simp only [Act.put, List.setIfInBounds_toArray, List.set_cons_zero, List.set_cons_succ]
        refine wpAnyH_take (i := 6) (oi := { dst := some 41, op := Op.load 3 (Operand.tmp 40), type := 3, pos := "law.go:133", after := #[{ on := 5, ground := Ground.data }], guard := none }) (v := (.int .i64 code)) rfl (by kernel_rfl) (by kernel_rfl) (by kernel_rfl) (fun _ _ _ h => h) (Or.inl ⟨by rfl, ?_⟩) hHeld ?_
        · rintro u ⟨p0, p1, p2, p3, p4, p5, -⟩
          go_simp
        try simp only [Act.put, List.setIfInBounds_toArray, List.set_cons_zero, List.set_cons_succ]
        refine wpAnyH_take (i := 7) (oi := { dst := some 42, op := Op.binOp BinOp.neq 3 (Operand.tmp 39) (Operand.tmp 41) 3, type := 4, pos := "law.go:133", after := #[{ on := 4, ground := Ground.data }, { on := 6, ground := Ground.data }], guard := none }) (v := (.bool true)) rfl (by kernel_rfl) (by kernel_rfl) (by kernel_rfl) (fun _ _ _ h => h) (Or.inl ⟨by rfl, ?_⟩) hHeld ?_
        · rintro u ⟨p0, p1, p2, p3, p4, p5, -⟩
          go_simp
        try simp only [Act.put, List.setIfInBounds_toArray, List.set_cons_zero, List.set_cons_succ]
        refine wpAnyH_take (i := 8) (oi := { dst := some 43, op := Op.move (Operand.tmp 42), type := 4, pos := "law.go:133", after := #[{ on := 7, ground := Ground.data }], guard := none }) (v := (.bool true)) rfl (by kernel_rfl) (by kernel_rfl) (by kernel_rfl) (fun _ _ _ h => h) (Or.inl ⟨by rfl, ?_⟩) hHeld ?_
        · rintro u ⟨p0, p1, p2, p3, p4, p5, -⟩
          go_simp
        try simp only [Act.put, List.setIfInBounds_toArray, List.set_cons_zero, List.set_cons_succ]
        refine wpAnyH_take (i := 9) (oi := { dst := some 44, op := Op.move (Operand.tmp 6), type := 33, pos := "law.go:133", after := #[{ on := 8, ground := Ground.guard }], guard := some (8, true) }) (v := (.int .i64 0)) rfl (by kernel_rfl) (by kernel_rfl) (by kernel_rfl) (fun _ _ _ h => h) (Or.inl ⟨by rfl, ?_⟩) hHeld ?_
        · rintro u ⟨p0, p1, p2, p3, p4, p5, -⟩
          go_simp
        try simp only [Act.put, List.setIfInBounds_toArray, List.set_cons_zero, List.set_cons_succ]
        refine wpAnyH_take (i := 10) (oi := { dst := some 45, op := Op.binOp BinOp.neq 33 (Operand.tmp 44) (Operand.const (Value.int IntKind.i64 0)) 33, type := 4, pos := "law.go:133", after := #[{ on := 9, ground := Ground.data }, { on := 8, ground := Ground.guard }], guard := some (8, true) }) (v := (.bool false)) rfl (by kernel_rfl) (by kernel_rfl) (by kernel_rfl) (fun _ _ _ h => h) (Or.inl ⟨by rfl, ?_⟩) hHeld ?_
        · rintro u ⟨p0, p1, p2, p3, p4, p5, -⟩
          go_simp
        try simp only [Act.put, List.setIfInBounds_toArray, List.set_cons_zero, List.set_cons_succ]
        refine wpAnyH_take (i := 11) (oi := { dst := some 46, op := Op.pick (Operand.tmp 43) (Operand.tmp 45) (Operand.const (Value.bool false)), type := 4, pos := "law.go:133", after := #[{ on := 8, ground := Ground.data }, { on := 10, ground := Ground.data }], guard := none }) (v := (.bool false)) rfl (by kernel_rfl) (by kernel_rfl) (by kernel_rfl) (fun _ _ _ h => h) (Or.inl ⟨by rfl, ?_⟩) hHeld ?_
        · rintro u ⟨p0, p1, p2, p3, p4, p5, -⟩
          go_simp
        try simp only [Act.put, List.setIfInBounds_toArray, List.set_cons_zero, List.set_cons_succ]
        refine wpAnyH_take (i := 12) (oi := { dst := some 47, op := Op.move (Operand.tmp 46), type := 4, pos := "law.go:133", after := #[{ on := 11, ground := Ground.data }, { on := 8, ground := Ground.chain }], guard := none }) (v := (.bool false)) rfl (by kernel_rfl) (by kernel_rfl) (by kernel_rfl) (fun _ _ _ h => h) (Or.inl ⟨by rfl, ?_⟩) hHeld ?_
        · rintro u ⟨p0, p1, p2, p3, p4, p5, -⟩
          go_simp
        try simp only [Act.put, List.setIfInBounds_toArray, List.set_cons_zero, List.set_cons_succ]
        refine wpAnyH_take (i := 13) (oi := { dst := some 48, op := Op.move (Operand.tmp 6), type := 33, pos := "law.go:133", after := #[{ on := 12, ground := Ground.guard }], guard := some (12, false) }) (v := (.int .i64 0)) rfl (by kernel_rfl) (by kernel_rfl) (by kernel_rfl) (fun _ _ _ h => h) (Or.inl ⟨by rfl, ?_⟩) hHeld ?_
        · rintro u ⟨p0, p1, p2, p3, p4, p5, -⟩
          go_simp
        try simp only [Act.put, List.setIfInBounds_toArray, List.set_cons_zero, List.set_cons_succ]
        refine wpAnyH_take (i := 14) (oi := { dst := some 49, op := Op.binOp BinOp.neq 33 (Operand.tmp 48) (Operand.const (Value.int IntKind.i64 0)) 33, type := 4, pos := "law.go:133", after := #[{ on := 13, ground := Ground.data }, { on := 12, ground := Ground.guard }], guard := some (12, false) }) (v := (.bool false)) rfl (by kernel_rfl) (by kernel_rfl) (by kernel_rfl) (fun _ _ _ h => h) (Or.inl ⟨by rfl, ?_⟩) hHeld ?_
        · rintro u ⟨p0, p1, p2, p3, p4, p5, -⟩
          go_simp
        try simp only [Act.put, List.setIfInBounds_toArray, List.set_cons_zero, List.set_cons_succ]
        refine wpAnyH_take (i := 15) (oi := { dst := some 50, op := Op.move (Operand.tmp 49), type := 4, pos := "law.go:133", after := #[{ on := 14, ground := Ground.data }, { on := 12, ground := Ground.chain }, { on := 12, ground := Ground.guard }], guard := some (12, false) }) (v := (.bool false)) rfl (by kernel_rfl) (by kernel_rfl) (by kernel_rfl) (fun _ _ _ h => h) (Or.inl ⟨by rfl, ?_⟩) hHeld ?_
        · rintro u ⟨p0, p1, p2, p3, p4, p5, -⟩
          go_simp
        try simp only [Act.put, List.setIfInBounds_toArray, List.set_cons_zero, List.set_cons_succ]
        refine wpAnyH_take (i := 16) (oi := { dst := some 51, op := Op.move (Operand.tmp 6), type := 33, pos := "law.go:133", after := #[{ on := 15, ground := Ground.guard }], guard := some (15, true) }) (v := undef) rfl (by kernel_rfl) (by kernel_rfl) (by kernel_rfl) (fun _ _ _ h => h) (Or.inr ⟨by rfl, rfl⟩) hHeld ?_
        try simp only [Act.put, List.setIfInBounds_toArray, List.set_cons_zero, List.set_cons_succ]
        refine wpAnyH_take (i := 17) (oi := { dst := some 52, op := Op.binOp BinOp.neq 33 (Operand.tmp 51) (Operand.const (Value.int IntKind.i64 8)) 33, type := 4, pos := "law.go:133", after := #[{ on := 16, ground := Ground.data }, { on := 15, ground := Ground.guard }], guard := some (15, true) }) (v := undef) rfl (by kernel_rfl) (by kernel_rfl) (by kernel_rfl) (fun _ _ _ h => h) (Or.inr ⟨by rfl, rfl⟩) hHeld ?_
        try simp only [Act.put, List.setIfInBounds_toArray, List.set_cons_zero, List.set_cons_succ]
        refine wpAnyH_take (i := 18) (oi := { dst := some 53, op := Op.pick (Operand.tmp 50) (Operand.tmp 52) (Operand.const (Value.bool false)), type := 4, pos := "law.go:133", after := #[{ on := 15, ground := Ground.data }, { on := 17, ground := Ground.data }, { on := 12, ground := Ground.guard }], guard := some (12, false) }) (v := (.bool false)) rfl (by kernel_rfl) (by kernel_rfl) (by kernel_rfl) (fun _ _ _ h => h) (Or.inl ⟨by rfl, ?_⟩) hHeld ?_
        · rintro u ⟨p0, p1, p2, p3, p4, p5, -⟩
          go_simp
        try simp only [Act.put, List.setIfInBounds_toArray, List.set_cons_zero, List.set_cons_succ]
        refine wpAnyH_take (i := 19) (oi := { dst := some 54, op := Op.pick (Operand.tmp 47) (Operand.const (Value.bool true)) (Operand.tmp 53), type := 4, pos := "law.go:133", after := #[{ on := 12, ground := Ground.data }, { on := 18, ground := Ground.data }], guard := none }) (v := (.bool false)) rfl (by kernel_rfl) (by kernel_rfl) (by kernel_rfl) (fun _ _ _ h => h) (Or.inl ⟨by rfl, ?_⟩) hHeld ?_
        · rintro u ⟨p0, p1, p2, p3, p4, p5, -⟩
          go_simp
        try simp only [Act.put, List.setIfInBounds_toArray, List.set_cons_zero, List.set_cons_succ]
        refine wpAnyH_take (i := 20) (oi := { dst := some 55, op := Op.move (Operand.tmp 54), type := 4, pos := "law.go:133", after := #[{ on := 19, ground := Ground.data }, { on := 15, ground := Ground.chain }], guard := none }) (v := (.bool false)) rfl (by kernel_rfl) (by kernel_rfl) (by kernel_rfl) (fun _ _ _ h => h) (Or.inl ⟨by rfl, ?_⟩) hHeld ?_
        · rintro u ⟨p0, p1, p2, p3, p4, p5, -⟩
          go_simp
        try simp only [Act.put, List.setIfInBounds_toArray, List.set_cons_zero, List.set_cons_succ]
        refine wpAnyH_take (i := 21) (oi := { dst := some 56, op := Op.move (Operand.tmp 3), type := 23, pos := "law.go:133", after := #[{ on := 20, ground := Ground.guard }], guard := some (20, false) }) (v := (.pointer (some ⟨c, 0, none⟩))) rfl (by kernel_rfl) (by kernel_rfl) (by kernel_rfl) (fun _ _ _ h => h) (Or.inl ⟨by rfl, ?_⟩) hHeld ?_
        · rintro u ⟨p0, p1, p2, p3, p4, p5, -⟩
          go_simp
        try simp only [Act.put, List.setIfInBounds_toArray, List.set_cons_zero, List.set_cons_succ]
        refine wpAnyH_take (i := 22) (oi := { dst := some 57, op := Op.move (Operand.tmp 4), type := 25, pos := "law.go:133", after := #[{ on := 20, ground := Ground.guard }], guard := some (20, false) }) (v := (.slice (some ⟨lb, 0, none⟩) 6 6)) rfl (by kernel_rfl) (by kernel_rfl) (by kernel_rfl) (fun _ _ _ h => h) (Or.inl ⟨by rfl, ?_⟩) hHeld ?_
        · rintro u ⟨p0, p1, p2, p3, p4, p5, -⟩
          go_simp
        try simp only [Act.put, List.setIfInBounds_toArray, List.set_cons_zero, List.set_cons_succ]
        refine wpAnyH_take (i := 23) (oi := { dst := some 58, op := Op.move (Operand.tmp 5), type := 3, pos := "law.go:133", after := #[{ on := 20, ground := Ground.guard }], guard := some (20, false) }) (v := (.int .i64 (i : Int))) rfl (by kernel_rfl) (by kernel_rfl) (by kernel_rfl) (fun _ _ _ h => h) (Or.inl ⟨by rfl, ?_⟩) hHeld ?_
        · rintro u ⟨p0, p1, p2, p3, p4, p5, -⟩
          go_simp
        try simp only [Act.put, List.setIfInBounds_toArray, List.set_cons_zero, List.set_cons_succ]
        refine wpAnyH_take (i := 24) (oi := { dst := some 59, op := Op.indexAddr 25 (Operand.tmp 57) (Operand.tmp 58), type := 0, pos := "law.go:133", after := #[{ on := 22, ground := Ground.data }, { on := 23, ground := Ground.data }, { on := 20, ground := Ground.guard }], guard := some (20, false) }) (v := (.pointer (some ⟨lb, i * 5, none⟩))) rfl (by kernel_rfl) (by kernel_rfl) (by kernel_rfl) (fun _ _ _ h => h) (Or.inl ⟨by rfl, ?_⟩) hHeld ?_
        · rintro u ⟨p0, p1, p2, p3, p4, p5, -⟩
          go_simp
        try simp only [Act.put, List.setIfInBounds_toArray, List.set_cons_zero, List.set_cons_succ]
        refine wpAnyH_take (i := 25) (oi := { dst := some 60, op := Op.load 27 (Operand.tmp 59), type := 27, pos := "law.go:133", after := #[{ on := 24, ground := Ground.data }, { on := 20, ground := Ground.guard }], guard := some (20, false) }) (v := (.agg #[.int .i64 xk, .int .i64 xu, .int .u8 xc, .string xn, .bool xs])) rfl (by kernel_rfl) (by kernel_rfl) (by kernel_rfl) (fun _ _ _ h => h) (Or.inl ⟨by rfl, ?_⟩) hHeld ?_
        · rintro u ⟨p0, p1, p2, p3, p4, p5, -⟩
          go_simp
        try simp only [Act.put, List.setIfInBounds_toArray, List.set_cons_zero, List.set_cons_succ]
        refine wpAnyH_ready (rs := [26]) (by kernel_rfl) (by simp) ?_
        refine AllReadyH.cons (o := { dst := some 61, op := Op.call { callee := Callee.value (Operand.func 11), args := #[Operand.tmp 56, Operand.tmp 60], argTypes := #[23, 27] }, type := 33, pos := "law.go:133", after := #[{ on := 21, ground := Ground.data }, { on := 25, ground := Ground.data }, { on := 20, ground := Ground.chain }, { on := 20, ground := Ground.guard }], guard := some (20, false) }) rfl (fun K hK => ?_) AllReadyH.nil
        go_simp
        refine (KA2.out _ hHeld.2.2.2.2.2.2).mono ?_
        rintro e u2 ⟨rfl, J1⟩
        go_wp2_with fail
        refine hK.out _ _ (HSW.out _ _ _ J1) (fun hHeld2 => ?_)
        clear hK K
        try simp only [Act.put, List.setIfInBounds_toArray, List.set_cons_zero, List.set_cons_succ]
        refine wpAnyH_take (i := 27) (oi := { dst := some 62, op := Op.binOp BinOp.neq 33 (Operand.tmp 61) (Operand.const (Value.int IntKind.i64 8)) 33, type := 4, pos := "law.go:133", after := #[{ on := 26, ground := Ground.data }, { on := 20, ground := Ground.guard }], guard := some (20, false) }) (v := (.bool false)) rfl (by kernel_rfl) (by kernel_rfl) (by kernel_rfl) (fun _ _ _ h => h) (Or.inl ⟨by rfl, ?_⟩) hHeld2 ?_
        · rintro u ⟨p0, p1, p2, p3, p4, p5, -⟩
          go_simp
        try simp only [Act.put, List.setIfInBounds_toArray, List.set_cons_zero, List.set_cons_succ]
        refine wpAnyH_take (i := 28) (oi := { dst := some 63, op := Op.pick (Operand.tmp 55) (Operand.const (Value.bool true)) (Operand.tmp 62), type := 4, pos := "law.go:133", after := #[{ on := 20, ground := Ground.data }, { on := 27, ground := Ground.data }], guard := none }) (v := (.bool false)) rfl (by kernel_rfl) (by kernel_rfl) (by kernel_rfl) (fun _ _ _ h => h) (Or.inl ⟨by rfl, ?_⟩) hHeld2 ?_
        · rintro u ⟨p0, p1, p2, p3, p4, p5, -⟩
          go_simp
        try simp only [Act.put, List.setIfInBounds_toArray, List.set_cons_zero, List.set_cons_succ]
        refine wpAnyH_take (i := 29) (oi := { dst := some 64, op := Op.move (Operand.tmp 63), type := 4, pos := "law.go:133", after := #[{ on := 28, ground := Ground.data }, { on := 26, ground := Ground.chain }], guard := none }) (v := (.bool false)) rfl (by kernel_rfl) (by kernel_rfl) (by kernel_rfl) (fun _ _ _ h => h) (Or.inl ⟨by rfl, ?_⟩) hHeld2 ?_
        · rintro u ⟨p0, p1, p2, p3, p4, p5, -⟩
          go_simp
        try simp only [Act.put, List.setIfInBounds_toArray, List.set_cons_zero, List.set_cons_succ]
        refine wpAnyH_take (i := 30) (oi := { dst := some 65, op := Op.move (Operand.tmp 4), type := 25, pos := "law.go:133", after := #[{ on := 29, ground := Ground.guard }], guard := some (29, false) }) (v := (.slice (some ⟨lb, 0, none⟩) 6 6)) rfl (by kernel_rfl) (by kernel_rfl) (by kernel_rfl) (fun _ _ _ h => h) (Or.inl ⟨by rfl, ?_⟩) hHeld2 ?_
        · rintro u ⟨p0, p1, p2, p3, p4, p5, -⟩
          go_simp
        try simp only [Act.put, List.setIfInBounds_toArray, List.set_cons_zero, List.set_cons_succ]
        refine wpAnyH_take (i := 31) (oi := { dst := some 66, op := Op.move (Operand.tmp 5), type := 3, pos := "law.go:133", after := #[{ on := 29, ground := Ground.guard }], guard := some (29, false) }) (v := (.int .i64 (i : Int))) rfl (by kernel_rfl) (by kernel_rfl) (by kernel_rfl) (fun _ _ _ h => h) (Or.inl ⟨by rfl, ?_⟩) hHeld2 ?_
        · rintro u ⟨p0, p1, p2, p3, p4, p5, -⟩
          go_simp
        try simp only [Act.put, List.setIfInBounds_toArray, List.set_cons_zero, List.set_cons_succ]
        refine wpAnyH_take (i := 32) (oi := { dst := some 67, op := Op.indexAddr 25 (Operand.tmp 65) (Operand.tmp 66), type := 0, pos := "law.go:133", after := #[{ on := 30, ground := Ground.data }, { on := 31, ground := Ground.data }, { on := 29, ground := Ground.guard }], guard := some (29, false) }) (v := (.pointer (some ⟨lb, i * 5, none⟩))) rfl (by kernel_rfl) (by kernel_rfl) (by kernel_rfl) (fun _ _ _ h => h) (Or.inl ⟨by rfl, ?_⟩) hHeld2 ?_
        · rintro u ⟨p0, p1, p2, p3, p4, p5, -⟩
          go_simp
        try simp only [Act.put, List.setIfInBounds_toArray, List.set_cons_zero, List.set_cons_succ]
        refine wpAnyH_take (i := 33) (oi := { dst := some 68, op := Op.fieldAddr 27 (Operand.tmp 67) 2, type := 0, pos := "law.go:133", after := #[{ on := 32, ground := Ground.data }, { on := 29, ground := Ground.guard }], guard := some (29, false) }) (v := (.pointer (some ⟨lb, i * 5 + 2, none⟩))) rfl (by kernel_rfl) (by kernel_rfl) (by kernel_rfl) (fun _ _ _ h => h) (Or.inl ⟨by rfl, ?_⟩) hHeld2 ?_
        · rintro u ⟨p0, p1, p2, p3, p4, p5, -⟩
          go_simp
        try simp only [Act.put, List.setIfInBounds_toArray, List.set_cons_zero, List.set_cons_succ]
        refine wpAnyH_take (i := 34) (oi := { dst := some 69, op := Op.load 5 (Operand.tmp 68), type := 5, pos := "law.go:133", after := #[{ on := 33, ground := Ground.data }, { on := 29, ground := Ground.guard }], guard := some (29, false) }) (v := (.int .u8 xc)) rfl (by kernel_rfl) (by kernel_rfl) (by kernel_rfl) (fun _ _ _ h => h) (Or.inl ⟨by rfl, ?_⟩) hHeld2 ?_
        · rintro u ⟨p0, p1, p2, p3, p4, p5, -⟩
          go_simp
        try simp only [Act.put, List.setIfInBounds_toArray, List.set_cons_zero, List.set_cons_succ]
        refine wpAnyH_ready (rs := [35]) (by kernel_rfl) (by simp) ?_
        refine AllReadyH.cons (o := { dst := some 70, op := Op.call { callee := Callee.value (Operand.func 13), args := #[Operand.tmp 69], argTypes := #[5] }, type := 3, pos := "law.go:133", after := #[{ on := 34, ground := Ground.data }, { on := 29, ground := Ground.chain }, { on := 29, ground := Ground.guard }], guard := some (29, false) }) rfl (fun K hK => ?_) AllReadyH.nil
        go_simp
        refine (KSD.out _).mono ?_
        rintro e u3 ⟨rfl, rfl⟩
        go_wp2_with fail
        refine hK.out _ _ (HSW.out _ _ _ J1) (fun hHeld3 => ?_)
        clear hK K
        try simp only [Act.put, List.setIfInBounds_toArray, List.set_cons_zero, List.set_cons_succ]
        refine wpAnyH_take (i := 36) (oi := { dst := some 71, op := Op.binOp BinOp.eql 3 (Operand.tmp 70) (Operand.const (Value.int IntKind.i64 0)) 3, type := 4, pos := "law.go:133", after := #[{ on := 35, ground := Ground.data }, { on := 29, ground := Ground.guard }], guard := some (29, false) }) (v := (.bool false)) rfl (by kernel_rfl) (by kernel_rfl) (by kernel_rfl) (fun _ _ _ h => h) (Or.inl ⟨by rfl, ?_⟩) hHeld3 ?_
        · rintro u ⟨p0, p1, p2, p3, p4, p5, -⟩
          go_simp
        try simp only [Act.put, List.setIfInBounds_toArray, List.set_cons_zero, List.set_cons_succ]
        refine wpAnyH_take (i := 37) (oi := { dst := some 72, op := Op.pick (Operand.tmp 64) (Operand.const (Value.bool true)) (Operand.tmp 71), type := 4, pos := "law.go:133", after := #[{ on := 29, ground := Ground.data }, { on := 36, ground := Ground.data }], guard := none }) (v := (.bool false)) rfl (by kernel_rfl) (by kernel_rfl) (by kernel_rfl) (fun _ _ _ h => h) (Or.inl ⟨by rfl, ?_⟩) hHeld3 ?_
        · rintro u ⟨p0, p1, p2, p3, p4, p5, -⟩
          go_simp
        try simp only [Act.put, List.setIfInBounds_toArray, List.set_cons_zero, List.set_cons_succ]
        refine wpAnyH_done (by kernel_rfl) ?_ _

        have S9 := Lib.hid (show Sx w c lb code [.int .i64 code, .int .i64 up, .int .u8 cls, .string name, .bool shut] M' (1 + 2 * i + 1) u2 by assumption)
        go_wp2_with fail
        have hlt := HLT.out
        have hkx := HKX.out
        go_roundg (6 - (i + 1))
        case measure => omega
        case rel => exact ⟨i + 1, M', by simp, by omega, HI2, S9.out.more (by omega), by omega⟩
      · have bxx : (xk != xk) = false := by simp
        go_wp2_with fail
        clear p0 p1 p2 p3 p4 p5

        refine wp_region_held_drew (S := (fun u => u.cell? ⟨lb, i * 5, none⟩ = some (.int .i64 xk) ∧ u.cell? ⟨lb, i * 5 + 1, none⟩ = some (.int .i64 xu) ∧ u.cell? ⟨lb, i * 5 + 2, none⟩ = some (.int .u8 xc) ∧ u.cell? ⟨lb, i * 5 + 3, none⟩ = some (.string xn) ∧ u.cell? ⟨lb, i * 5 + 4, none⟩ = some (.bool xs) ∧ u.cell? ⟨w.heap.size, 0, none⟩ = some (.int .i64 xk) ∧ Sx w c lb xk [.int .i64 xk, .int .i64 up, .int .u8 cls, .string name, .bool shut] M' (1 + 2 * i + 1) u)) (by kernel_rfl) ?_ (fun hHeld => ?_)
        · exact HSW.out _ _ _ S1.out.drew
        refine wpAnyH_take (i := 0) (oi := { dst := some 35, op := Op.move (Operand.tmp 4), type := 25, pos := "law.go:133", after := #[], guard := none }) (v := (.slice (some ⟨lb, 0, none⟩) 6 6)) rfl (by kernel_rfl) (by kernel_rfl) (by kernel_rfl) (fun _ _ _ h => h) (Or.inl ⟨by rfl, ?_⟩) hHeld ?_
        · rintro u ⟨p0, p1, p2, p3, p4, p5, -⟩
          go_simp
        try simp only [Act.put, List.setIfInBounds_toArray, List.set_cons_zero, List.set_cons_succ]
        refine wpAnyH_take (i := 1) (oi := { dst := some 36, op := Op.move (Operand.tmp 5), type := 3, pos := "law.go:133", after := #[], guard := none }) (v := (.int .i64 (i : Int))) rfl (by kernel_rfl) (by kernel_rfl) (by kernel_rfl) (fun _ _ _ h => h) (Or.inl ⟨by rfl, ?_⟩) hHeld ?_
        · rintro u ⟨p0, p1, p2, p3, p4, p5, -⟩
          go_simp
        try simp only [Act.put, List.setIfInBounds_toArray, List.set_cons_zero, List.set_cons_succ]
        refine wpAnyH_take (i := 2) (oi := { dst := some 37, op := Op.indexAddr 25 (Operand.tmp 35) (Operand.tmp 36), type := 0, pos := "law.go:133", after := #[{ on := 0, ground := Ground.data }, { on := 1, ground := Ground.data }], guard := none }) (v := (.pointer (some ⟨lb, i * 5, none⟩))) rfl (by kernel_rfl) (by kernel_rfl) (by kernel_rfl) (fun _ _ _ h => h) (Or.inl ⟨by rfl, ?_⟩) hHeld ?_
        · rintro u ⟨p0, p1, p2, p3, p4, p5, -⟩
          go_simp
        try simp only [Act.put, List.setIfInBounds_toArray, List.set_cons_zero, List.set_cons_succ]
        refine wpAnyH_take (i := 3) (oi := { dst := some 38, op := Op.fieldAddr 27 (Operand.tmp 37) 0, type := 0, pos := "law.go:133", after := #[{ on := 2, ground := Ground.data }], guard := none }) (v := (.pointer (some ⟨lb, i * 5, none⟩))) rfl (by kernel_rfl) (by kernel_rfl) (by kernel_rfl) (fun _ _ _ h => h) (Or.inl ⟨by rfl, ?_⟩) hHeld ?_
        · rintro u ⟨p0, p1, p2, p3, p4, p5, -⟩
          go_simp
        try simp only [Act.put, List.setIfInBounds_toArray, List.set_cons_zero, List.set_cons_succ]
        refine wpAnyH_take (i := 4) (oi := { dst := some 39, op := Op.load 3 (Operand.tmp 38), type := 3, pos := "law.go:133", after := #[{ on := 3, ground := Ground.data }], guard := none }) (v := (.int .i64 xk)) rfl (by kernel_rfl) (by kernel_rfl) (by kernel_rfl) (fun _ _ _ h => h) (Or.inl ⟨by rfl, ?_⟩) hHeld ?_
        · rintro u ⟨p0, p1, p2, p3, p4, p5, -⟩
          go_simp
        try simp only [Act.put, List.setIfInBounds_toArray, List.set_cons_zero, List.set_cons_succ]
        refine wpAnyH_take (i := 5) (oi := { dst := some 40, op := Op.fieldAddr 27 (Operand.tmp 1) 0, type := 0, pos := "law.go:133", after := #[], guard := none }) (v := (.pointer (some ⟨w.heap.size, 0, none⟩))) rfl (by kernel_rfl) (by kernel_rfl) (by kernel_rfl) (fun _ _ _ h => h) (Or.inl ⟨by rfl, ?_⟩) hHeld ?_
        · rintro u ⟨p0, p1, p2, p3, p4, p5, -⟩
          go_simp
        try simp only [Act.put, List.setIfInBounds_toArray, List.set_cons_zero, List.set_cons_succ]
        refine wpAnyH_take (i := 6) (oi := { dst := some 41, op := Op.load 3 (Operand.tmp 40), type := 3, pos := "law.go:133", after := #[{ on := 5, ground := Ground.data }], guard := none }) (v := (.int .i64 xk)) rfl (by kernel_rfl) (by kernel_rfl) (by kernel_rfl) (fun _ _ _ h => h) (Or.inl ⟨by rfl, ?_⟩) hHeld ?_
        · rintro u ⟨p0, p1, p2, p3, p4, p5, -⟩
          go_simp
        try simp only [Act.put, List.setIfInBounds_toArray, List.set_cons_zero, List.set_cons_succ]
        refine wpAnyH_take (i := 7) (oi := { dst := some 42, op := Op.binOp BinOp.neq 3 (Operand.tmp 39) (Operand.tmp 41) 3, type := 4, pos := "law.go:133", after := #[{ on := 4, ground := Ground.data }, { on := 6, ground := Ground.data }], guard := none }) (v := (.bool false)) rfl (by kernel_rfl) (by kernel_rfl) (by kernel_rfl) (fun _ _ _ h => h) (Or.inl ⟨by rfl, ?_⟩) hHeld ?_
        · rintro u ⟨p0, p1, p2, p3, p4, p5, -⟩
          go_simp
        try simp only [Act.put, List.setIfInBounds_toArray, List.set_cons_zero, List.set_cons_succ]
        refine wpAnyH_take (i := 8) (oi := { dst := some 43, op := Op.move (Operand.tmp 42), type := 4, pos := "law.go:133", after := #[{ on := 7, ground := Ground.data }], guard := none }) (v := (.bool false)) rfl (by kernel_rfl) (by kernel_rfl) (by kernel_rfl) (fun _ _ _ h => h) (Or.inl ⟨by rfl, ?_⟩) hHeld ?_
        · rintro u ⟨p0, p1, p2, p3, p4, p5, -⟩
          go_simp
        try simp only [Act.put, List.setIfInBounds_toArray, List.set_cons_zero, List.set_cons_succ]
        refine wpAnyH_take (i := 9) (oi := { dst := some 44, op := Op.move (Operand.tmp 6), type := 33, pos := "law.go:133", after := #[{ on := 8, ground := Ground.guard }], guard := some (8, true) }) (v := undef) rfl (by kernel_rfl) (by kernel_rfl) (by kernel_rfl) (fun _ _ _ h => h) (Or.inr ⟨by rfl, rfl⟩) hHeld ?_
        try simp only [Act.put, List.setIfInBounds_toArray, List.set_cons_zero, List.set_cons_succ]
        refine wpAnyH_take (i := 10) (oi := { dst := some 45, op := Op.binOp BinOp.neq 33 (Operand.tmp 44) (Operand.const (Value.int IntKind.i64 0)) 33, type := 4, pos := "law.go:133", after := #[{ on := 9, ground := Ground.data }, { on := 8, ground := Ground.guard }], guard := some (8, true) }) (v := undef) rfl (by kernel_rfl) (by kernel_rfl) (by kernel_rfl) (fun _ _ _ h => h) (Or.inr ⟨by rfl, rfl⟩) hHeld ?_
        try simp only [Act.put, List.setIfInBounds_toArray, List.set_cons_zero, List.set_cons_succ]
        refine wpAnyH_take (i := 11) (oi := { dst := some 46, op := Op.pick (Operand.tmp 43) (Operand.tmp 45) (Operand.const (Value.bool false)), type := 4, pos := "law.go:133", after := #[{ on := 8, ground := Ground.data }, { on := 10, ground := Ground.data }], guard := none }) (v := (.bool false)) rfl (by kernel_rfl) (by kernel_rfl) (by kernel_rfl) (fun _ _ _ h => h) (Or.inl ⟨by rfl, ?_⟩) hHeld ?_
        · rintro u ⟨p0, p1, p2, p3, p4, p5, -⟩
          go_simp
        try simp only [Act.put, List.setIfInBounds_toArray, List.set_cons_zero, List.set_cons_succ]
        refine wpAnyH_take (i := 12) (oi := { dst := some 47, op := Op.move (Operand.tmp 46), type := 4, pos := "law.go:133", after := #[{ on := 11, ground := Ground.data }, { on := 8, ground := Ground.chain }], guard := none }) (v := (.bool false)) rfl (by kernel_rfl) (by kernel_rfl) (by kernel_rfl) (fun _ _ _ h => h) (Or.inl ⟨by rfl, ?_⟩) hHeld ?_
        · rintro u ⟨p0, p1, p2, p3, p4, p5, -⟩
          go_simp
        try simp only [Act.put, List.setIfInBounds_toArray, List.set_cons_zero, List.set_cons_succ]
        refine wpAnyH_take (i := 13) (oi := { dst := some 48, op := Op.move (Operand.tmp 6), type := 33, pos := "law.go:133", after := #[{ on := 12, ground := Ground.guard }], guard := some (12, false) }) (v := (.int .i64 8)) rfl (by kernel_rfl) (by kernel_rfl) (by kernel_rfl) (fun _ _ _ h => h) (Or.inl ⟨by rfl, ?_⟩) hHeld ?_
        · rintro u ⟨p0, p1, p2, p3, p4, p5, -⟩
          go_simp
        try simp only [Act.put, List.setIfInBounds_toArray, List.set_cons_zero, List.set_cons_succ]
        refine wpAnyH_take (i := 14) (oi := { dst := some 49, op := Op.binOp BinOp.neq 33 (Operand.tmp 48) (Operand.const (Value.int IntKind.i64 0)) 33, type := 4, pos := "law.go:133", after := #[{ on := 13, ground := Ground.data }, { on := 12, ground := Ground.guard }], guard := some (12, false) }) (v := (.bool true)) rfl (by kernel_rfl) (by kernel_rfl) (by kernel_rfl) (fun _ _ _ h => h) (Or.inl ⟨by rfl, ?_⟩) hHeld ?_
        · rintro u ⟨p0, p1, p2, p3, p4, p5, -⟩
          go_simp
        try simp only [Act.put, List.setIfInBounds_toArray, List.set_cons_zero, List.set_cons_succ]
        refine wpAnyH_take (i := 15) (oi := { dst := some 50, op := Op.move (Operand.tmp 49), type := 4, pos := "law.go:133", after := #[{ on := 14, ground := Ground.data }, { on := 12, ground := Ground.chain }, { on := 12, ground := Ground.guard }], guard := some (12, false) }) (v := (.bool true)) rfl (by kernel_rfl) (by kernel_rfl) (by kernel_rfl) (fun _ _ _ h => h) (Or.inl ⟨by rfl, ?_⟩) hHeld ?_
        · rintro u ⟨p0, p1, p2, p3, p4, p5, -⟩
          go_simp
        try simp only [Act.put, List.setIfInBounds_toArray, List.set_cons_zero, List.set_cons_succ]
        refine wpAnyH_take (i := 16) (oi := { dst := some 51, op := Op.move (Operand.tmp 6), type := 33, pos := "law.go:133", after := #[{ on := 15, ground := Ground.guard }], guard := some (15, true) }) (v := (.int .i64 8)) rfl (by kernel_rfl) (by kernel_rfl) (by kernel_rfl) (fun _ _ _ h => h) (Or.inl ⟨by rfl, ?_⟩) hHeld ?_
        · rintro u ⟨p0, p1, p2, p3, p4, p5, -⟩
          go_simp
        try simp only [Act.put, List.setIfInBounds_toArray, List.set_cons_zero, List.set_cons_succ]
        refine wpAnyH_take (i := 17) (oi := { dst := some 52, op := Op.binOp BinOp.neq 33 (Operand.tmp 51) (Operand.const (Value.int IntKind.i64 8)) 33, type := 4, pos := "law.go:133", after := #[{ on := 16, ground := Ground.data }, { on := 15, ground := Ground.guard }], guard := some (15, true) }) (v := (.bool false)) rfl (by kernel_rfl) (by kernel_rfl) (by kernel_rfl) (fun _ _ _ h => h) (Or.inl ⟨by rfl, ?_⟩) hHeld ?_
        · rintro u ⟨p0, p1, p2, p3, p4, p5, -⟩
          go_simp
        try simp only [Act.put, List.setIfInBounds_toArray, List.set_cons_zero, List.set_cons_succ]
        refine wpAnyH_take (i := 18) (oi := { dst := some 53, op := Op.pick (Operand.tmp 50) (Operand.tmp 52) (Operand.const (Value.bool false)), type := 4, pos := "law.go:133", after := #[{ on := 15, ground := Ground.data }, { on := 17, ground := Ground.data }, { on := 12, ground := Ground.guard }], guard := some (12, false) }) (v := (.bool false)) rfl (by kernel_rfl) (by kernel_rfl) (by kernel_rfl) (fun _ _ _ h => h) (Or.inl ⟨by rfl, ?_⟩) hHeld ?_
        · rintro u ⟨p0, p1, p2, p3, p4, p5, -⟩
          go_simp
        try simp only [Act.put, List.setIfInBounds_toArray, List.set_cons_zero, List.set_cons_succ]
        refine wpAnyH_take (i := 19) (oi := { dst := some 54, op := Op.pick (Operand.tmp 47) (Operand.const (Value.bool true)) (Operand.tmp 53), type := 4, pos := "law.go:133", after := #[{ on := 12, ground := Ground.data }, { on := 18, ground := Ground.data }], guard := none }) (v := (.bool false)) rfl (by kernel_rfl) (by kernel_rfl) (by kernel_rfl) (fun _ _ _ h => h) (Or.inl ⟨by rfl, ?_⟩) hHeld ?_
        · rintro u ⟨p0, p1, p2, p3, p4, p5, -⟩
          go_simp
        try simp only [Act.put, List.setIfInBounds_toArray, List.set_cons_zero, List.set_cons_succ]
        refine wpAnyH_take (i := 20) (oi := { dst := some 55, op := Op.move (Operand.tmp 54), type := 4, pos := "law.go:133", after := #[{ on := 19, ground := Ground.data }, { on := 15, ground := Ground.chain }], guard := none }) (v := (.bool false)) rfl (by kernel_rfl) (by kernel_rfl) (by kernel_rfl) (fun _ _ _ h => h) (Or.inl ⟨by rfl, ?_⟩) hHeld ?_
        · rintro u ⟨p0, p1, p2, p3, p4, p5, -⟩
          go_simp
        try simp only [Act.put, List.setIfInBounds_toArray, List.set_cons_zero, List.set_cons_succ]
        refine wpAnyH_take (i := 21) (oi := { dst := some 56, op := Op.move (Operand.tmp 3), type := 23, pos := "law.go:133", after := #[{ on := 20, ground := Ground.guard }], guard := some (20, false) }) (v := (.pointer (some ⟨c, 0, none⟩))) rfl (by kernel_rfl) (by kernel_rfl) (by kernel_rfl) (fun _ _ _ h => h) (Or.inl ⟨by rfl, ?_⟩) hHeld ?_
        · rintro u ⟨p0, p1, p2, p3, p4, p5, -⟩
          go_simp
        try simp only [Act.put, List.setIfInBounds_toArray, List.set_cons_zero, List.set_cons_succ]
        refine wpAnyH_take (i := 22) (oi := { dst := some 57, op := Op.move (Operand.tmp 4), type := 25, pos := "law.go:133", after := #[{ on := 20, ground := Ground.guard }], guard := some (20, false) }) (v := (.slice (some ⟨lb, 0, none⟩) 6 6)) rfl (by kernel_rfl) (by kernel_rfl) (by kernel_rfl) (fun _ _ _ h => h) (Or.inl ⟨by rfl, ?_⟩) hHeld ?_
        · rintro u ⟨p0, p1, p2, p3, p4, p5, -⟩
          go_simp
        try simp only [Act.put, List.setIfInBounds_toArray, List.set_cons_zero, List.set_cons_succ]
        refine wpAnyH_take (i := 23) (oi := { dst := some 58, op := Op.move (Operand.tmp 5), type := 3, pos := "law.go:133", after := #[{ on := 20, ground := Ground.guard }], guard := some (20, false) }) (v := (.int .i64 (i : Int))) rfl (by kernel_rfl) (by kernel_rfl) (by kernel_rfl) (fun _ _ _ h => h) (Or.inl ⟨by rfl, ?_⟩) hHeld ?_
        · rintro u ⟨p0, p1, p2, p3, p4, p5, -⟩
          go_simp
        try simp only [Act.put, List.setIfInBounds_toArray, List.set_cons_zero, List.set_cons_succ]
        refine wpAnyH_take (i := 24) (oi := { dst := some 59, op := Op.indexAddr 25 (Operand.tmp 57) (Operand.tmp 58), type := 0, pos := "law.go:133", after := #[{ on := 22, ground := Ground.data }, { on := 23, ground := Ground.data }, { on := 20, ground := Ground.guard }], guard := some (20, false) }) (v := (.pointer (some ⟨lb, i * 5, none⟩))) rfl (by kernel_rfl) (by kernel_rfl) (by kernel_rfl) (fun _ _ _ h => h) (Or.inl ⟨by rfl, ?_⟩) hHeld ?_
        · rintro u ⟨p0, p1, p2, p3, p4, p5, -⟩
          go_simp
        try simp only [Act.put, List.setIfInBounds_toArray, List.set_cons_zero, List.set_cons_succ]
        refine wpAnyH_take (i := 25) (oi := { dst := some 60, op := Op.load 27 (Operand.tmp 59), type := 27, pos := "law.go:133", after := #[{ on := 24, ground := Ground.data }, { on := 20, ground := Ground.guard }], guard := some (20, false) }) (v := (.agg #[.int .i64 xk, .int .i64 xu, .int .u8 xc, .string xn, .bool xs])) rfl (by kernel_rfl) (by kernel_rfl) (by kernel_rfl) (fun _ _ _ h => h) (Or.inl ⟨by rfl, ?_⟩) hHeld ?_
        · rintro u ⟨p0, p1, p2, p3, p4, p5, -⟩
          go_simp
        try simp only [Act.put, List.setIfInBounds_toArray, List.set_cons_zero, List.set_cons_succ]
        refine wpAnyH_ready (rs := [26]) (by kernel_rfl) (by simp) ?_
        refine AllReadyH.cons (o := { dst := some 61, op := Op.call { callee := Callee.value (Operand.func 11), args := #[Operand.tmp 56, Operand.tmp 60], argTypes := #[23, 27] }, type := 33, pos := "law.go:133", after := #[{ on := 21, ground := Ground.data }, { on := 25, ground := Ground.data }, { on := 20, ground := Ground.chain }, { on := 20, ground := Ground.guard }], guard := some (20, false) }) rfl (fun K hK => ?_) AllReadyH.nil
        go_simp
        refine (KA2.out _ hHeld.2.2.2.2.2.2).mono ?_
        rintro e u2 ⟨rfl, J1⟩
        go_wp2_with fail
        refine hK.out _ _ (HSW.out _ _ _ J1) (fun hHeld2 => ?_)
        clear hK K
        try simp only [Act.put, List.setIfInBounds_toArray, List.set_cons_zero, List.set_cons_succ]
        refine wpAnyH_take (i := 27) (oi := { dst := some 62, op := Op.binOp BinOp.neq 33 (Operand.tmp 61) (Operand.const (Value.int IntKind.i64 8)) 33, type := 4, pos := "law.go:133", after := #[{ on := 26, ground := Ground.data }, { on := 20, ground := Ground.guard }], guard := some (20, false) }) (v := (.bool false)) rfl (by kernel_rfl) (by kernel_rfl) (by kernel_rfl) (fun _ _ _ h => h) (Or.inl ⟨by rfl, ?_⟩) hHeld2 ?_
        · rintro u ⟨p0, p1, p2, p3, p4, p5, -⟩
          go_simp
        try simp only [Act.put, List.setIfInBounds_toArray, List.set_cons_zero, List.set_cons_succ]
        refine wpAnyH_take (i := 28) (oi := { dst := some 63, op := Op.pick (Operand.tmp 55) (Operand.const (Value.bool true)) (Operand.tmp 62), type := 4, pos := "law.go:133", after := #[{ on := 20, ground := Ground.data }, { on := 27, ground := Ground.data }], guard := none }) (v := (.bool false)) rfl (by kernel_rfl) (by kernel_rfl) (by kernel_rfl) (fun _ _ _ h => h) (Or.inl ⟨by rfl, ?_⟩) hHeld2 ?_
        · rintro u ⟨p0, p1, p2, p3, p4, p5, -⟩
          go_simp
        try simp only [Act.put, List.setIfInBounds_toArray, List.set_cons_zero, List.set_cons_succ]
        refine wpAnyH_take (i := 29) (oi := { dst := some 64, op := Op.move (Operand.tmp 63), type := 4, pos := "law.go:133", after := #[{ on := 28, ground := Ground.data }, { on := 26, ground := Ground.chain }], guard := none }) (v := (.bool false)) rfl (by kernel_rfl) (by kernel_rfl) (by kernel_rfl) (fun _ _ _ h => h) (Or.inl ⟨by rfl, ?_⟩) hHeld2 ?_
        · rintro u ⟨p0, p1, p2, p3, p4, p5, -⟩
          go_simp
        try simp only [Act.put, List.setIfInBounds_toArray, List.set_cons_zero, List.set_cons_succ]
        refine wpAnyH_take (i := 30) (oi := { dst := some 65, op := Op.move (Operand.tmp 4), type := 25, pos := "law.go:133", after := #[{ on := 29, ground := Ground.guard }], guard := some (29, false) }) (v := (.slice (some ⟨lb, 0, none⟩) 6 6)) rfl (by kernel_rfl) (by kernel_rfl) (by kernel_rfl) (fun _ _ _ h => h) (Or.inl ⟨by rfl, ?_⟩) hHeld2 ?_
        · rintro u ⟨p0, p1, p2, p3, p4, p5, -⟩
          go_simp
        try simp only [Act.put, List.setIfInBounds_toArray, List.set_cons_zero, List.set_cons_succ]
        refine wpAnyH_take (i := 31) (oi := { dst := some 66, op := Op.move (Operand.tmp 5), type := 3, pos := "law.go:133", after := #[{ on := 29, ground := Ground.guard }], guard := some (29, false) }) (v := (.int .i64 (i : Int))) rfl (by kernel_rfl) (by kernel_rfl) (by kernel_rfl) (fun _ _ _ h => h) (Or.inl ⟨by rfl, ?_⟩) hHeld2 ?_
        · rintro u ⟨p0, p1, p2, p3, p4, p5, -⟩
          go_simp
        try simp only [Act.put, List.setIfInBounds_toArray, List.set_cons_zero, List.set_cons_succ]
        refine wpAnyH_take (i := 32) (oi := { dst := some 67, op := Op.indexAddr 25 (Operand.tmp 65) (Operand.tmp 66), type := 0, pos := "law.go:133", after := #[{ on := 30, ground := Ground.data }, { on := 31, ground := Ground.data }, { on := 29, ground := Ground.guard }], guard := some (29, false) }) (v := (.pointer (some ⟨lb, i * 5, none⟩))) rfl (by kernel_rfl) (by kernel_rfl) (by kernel_rfl) (fun _ _ _ h => h) (Or.inl ⟨by rfl, ?_⟩) hHeld2 ?_
        · rintro u ⟨p0, p1, p2, p3, p4, p5, -⟩
          go_simp
        try simp only [Act.put, List.setIfInBounds_toArray, List.set_cons_zero, List.set_cons_succ]
        refine wpAnyH_take (i := 33) (oi := { dst := some 68, op := Op.fieldAddr 27 (Operand.tmp 67) 2, type := 0, pos := "law.go:133", after := #[{ on := 32, ground := Ground.data }, { on := 29, ground := Ground.guard }], guard := some (29, false) }) (v := (.pointer (some ⟨lb, i * 5 + 2, none⟩))) rfl (by kernel_rfl) (by kernel_rfl) (by kernel_rfl) (fun _ _ _ h => h) (Or.inl ⟨by rfl, ?_⟩) hHeld2 ?_
        · rintro u ⟨p0, p1, p2, p3, p4, p5, -⟩
          go_simp
        try simp only [Act.put, List.setIfInBounds_toArray, List.set_cons_zero, List.set_cons_succ]
        refine wpAnyH_take (i := 34) (oi := { dst := some 69, op := Op.load 5 (Operand.tmp 68), type := 5, pos := "law.go:133", after := #[{ on := 33, ground := Ground.data }, { on := 29, ground := Ground.guard }], guard := some (29, false) }) (v := (.int .u8 xc)) rfl (by kernel_rfl) (by kernel_rfl) (by kernel_rfl) (fun _ _ _ h => h) (Or.inl ⟨by rfl, ?_⟩) hHeld2 ?_
        · rintro u ⟨p0, p1, p2, p3, p4, p5, -⟩
          go_simp
        try simp only [Act.put, List.setIfInBounds_toArray, List.set_cons_zero, List.set_cons_succ]
        refine wpAnyH_ready (rs := [35]) (by kernel_rfl) (by simp) ?_
        refine AllReadyH.cons (o := { dst := some 70, op := Op.call { callee := Callee.value (Operand.func 13), args := #[Operand.tmp 69], argTypes := #[5] }, type := 3, pos := "law.go:133", after := #[{ on := 34, ground := Ground.data }, { on := 29, ground := Ground.chain }, { on := 29, ground := Ground.guard }], guard := some (29, false) }) rfl (fun K hK => ?_) AllReadyH.nil
        go_simp
        refine (KSD.out _).mono ?_
        rintro e u3 ⟨rfl, rfl⟩
        go_wp2_with fail
        refine hK.out _ _ (HSW.out _ _ _ J1) (fun hHeld3 => ?_)
        clear hK K
        try simp only [Act.put, List.setIfInBounds_toArray, List.set_cons_zero, List.set_cons_succ]
        refine wpAnyH_take (i := 36) (oi := { dst := some 71, op := Op.binOp BinOp.eql 3 (Operand.tmp 70) (Operand.const (Value.int IntKind.i64 0)) 3, type := 4, pos := "law.go:133", after := #[{ on := 35, ground := Ground.data }, { on := 29, ground := Ground.guard }], guard := some (29, false) }) (v := (.bool false)) rfl (by kernel_rfl) (by kernel_rfl) (by kernel_rfl) (fun _ _ _ h => h) (Or.inl ⟨by rfl, ?_⟩) hHeld3 ?_
        · rintro u ⟨p0, p1, p2, p3, p4, p5, -⟩
          go_simp
        try simp only [Act.put, List.setIfInBounds_toArray, List.set_cons_zero, List.set_cons_succ]
        refine wpAnyH_take (i := 37) (oi := { dst := some 72, op := Op.pick (Operand.tmp 64) (Operand.const (Value.bool true)) (Operand.tmp 71), type := 4, pos := "law.go:133", after := #[{ on := 29, ground := Ground.data }, { on := 36, ground := Ground.data }], guard := none }) (v := (.bool false)) rfl (by kernel_rfl) (by kernel_rfl) (by kernel_rfl) (fun _ _ _ h => h) (Or.inl ⟨by rfl, ?_⟩) hHeld3 ?_
        · rintro u ⟨p0, p1, p2, p3, p4, p5, -⟩
          go_simp
        try simp only [Act.put, List.setIfInBounds_toArray, List.set_cons_zero, List.set_cons_succ]
        refine wpAnyH_done (by kernel_rfl) ?_ _

        have S9 := Lib.hid (show Sx w c lb xk [.int .i64 xk, .int .i64 up, .int .u8 cls, .string name, .bool shut] M' (1 + 2 * i + 1) u2 by assumption)
        go_wp2_with fail
        have hlt := HLT.out
        have hkx := HKX.out
        go_roundg (6 - (i + 1))
        case measure => omega
        case rel => exact ⟨i + 1, M', by simp, by omega, HI2, S9.out.more (by omega), by omega⟩
    · obtain rfl : i = 6 := by omega
      have SZ := Lib.hid SX.out
      clear hkx hlt hi6 HI SX
      have a0 : wr.cell? ⟨w.heap.size, 0, none⟩ = some (.int .i64 code) := SZ.out.b.cell 0
      have B0 : Hid (Below w.heap.size w (wr.alloc (.cells #[.map none, .slice none 0 0] TCh))) := SZ.out.l.b.alloc SZ.out.l.b.size _
      have Z0 : Hid (Rw (wr.alloc (.cells #[.map none, .slice none 0 0] TCh)) wr.heap.size TCh [.map none, .slice none 0 0]) := Rw.new wr [.map none, .slice none 0 0] TCh
      have A0 := Lib.hid (SZ.out.b.later ((Below.refl _ wr).alloc (Nat.le_refl _) (.cells #[.map none, .slice none 0 0] TCh)))
      go_upto_region 14 with (fail)
      obtain ⟨z, hz⟩ : ∃ z, z = wr.heap.size := ⟨_, rfl⟩
      generalize wr.alloc (.cells #[.map none, .slice none 0 0] TCh) = V0 at B0 Z0 A0 ⊢
      rw [← hz] at Z0 ⊢
      clear hz a0 SZ
      have a0 : V0.cell? ⟨w.heap.size, 0, none⟩ = some (.int .i64 code) := A0.out.cell 0
      have KG := Lib.hid (gets_nil code V0)
      unfold A5.zero A5.val at KG
      simp only at KG
      go_wp2_with fail
      refine KG.out.mono ?_
      rintro e u ⟨rfl, hb⟩
      have B1 : Hid (Below w.heap.size w (u.alloc (.cells #[.int .i64 0, .int .i64 0, .int .u8 0, .string ⟨#[]⟩, .bool false] TAc))) := (B0.out.trans (hb.mono B0.out.size)).alloc (Nat.le_trans B0.out.size hb.size) _
      have hbu : Below V0.heap.size V0 (u.alloc (.cells #[.int .i64 0, .int .i64 0, .int .u8 0, .string ⟨#[]⟩, .bool false] TAc)) := hb.alloc hb.size _
      have X1 : Hid (Rw (u.alloc (.cells #[.int .i64 0, .int .i64 0, .int .u8 0, .string ⟨#[]⟩, .bool false] TAc)) u.heap.size TAc [.int .i64 0, .int .i64 0, .int .u8 0, .string ⟨#[]⟩, .bool false]) := Rw.new u [.int .i64 0, .int .i64 0, .int .u8 0, .string ⟨#[]⟩, .bool false] TAc
      have Z1 := Lib.hid (Z0.out.later hbu)
      have A1 := Lib.hid (A0.out.later hbu)
      clear hb hbu KG B0 Z0 A0 a0
      go_upto_region 15 with (fail)
      obtain ⟨bx, hbx⟩ : ∃ bx, bx = u.heap.size := ⟨_, rfl⟩
      generalize u.alloc (.cells #[.int .i64 0, .int .i64 0, .int .u8 0, .string ⟨#[]⟩, .bool false] TAc) = V1 at B1 X1 Z1 A1 ⊢
      rw [← hbx] at X1 ⊢
      clear hbx
      have a0 : V1.cell? ⟨w.heap.size, 0, none⟩ = some (.int .i64 code) := A1.out.cell 0
      have KG := Lib.hid (gets_zero Z1.out code)
      unfold A5.zero A5.val at KG
      simp only at KG
      go_wp2_with fail
      refine KG.out.mono ?_
      rintro e u ⟨rfl, hb⟩
      have hbu : Below V1.heap.size V1 (u.alloc (.cells #[.int .i64 0, .int .i64 0, .int .u8 0, .string ⟨#[]⟩, .bool false] TAc)) := hb.alloc hb.size _
      have ZS : Hid (Zs w (u.alloc (.cells #[.int .i64 0, .int .i64 0, .int .u8 0, .string ⟨#[]⟩, .bool false] TAc)) z bx u.heap.size [.int .i64 code, .int .i64 up, .int .u8 cls, .string name, .bool shut]) := ⟨B1.out.trans (hbu.mono B1.out.size), Z1.out.later hbu, X1.out.later hbu, Rw.new u [.int .i64 0, .int .i64 0, .int .u8 0, .string ⟨#[]⟩, .bool false] TAc, A1.out.later hbu⟩
      clear hb hbu KG B1 Z1 A1 X1 a0
      obtain ⟨a0, a1, a2, a3, a4⟩ := ZS.out.reads
      go_wp2_with fail
      generalize u.alloc (.cells #[.int .i64 0, .int .i64 0, .int .u8 0, .string ⟨#[]⟩, .bool false] TAc) = V2 at ZS a0 a1 a2 a3 a4 ⊢

      refine (KAN.out _).mono ?_
      rintro e v0 ⟨rfl, hb⟩
      have ZS0 := Lib.hid (ZS.out.later hb)
      clear hb ZS
      clear a0 a1 a2 a3 a4
      obtain ⟨a0, a1, a2, a3, a4⟩ := ZS0.out.reads
      go_wp2_with fail
      refine (KAZ.out _ z ZS0.out.z).mono ?_
      rintro e v1 ⟨rfl, hb⟩
      have ZS1 := Lib.hid (ZS0.out.later hb)
      clear hb ZS0
      clear a0 a1 a2 a3 a4
      go_wp2_with fail
      refine (shut_nil _ 1).mono ?_
      rintro e v2 ⟨rfl, hb⟩
      have ZS2 := Lib.hid (ZS1.out.later hb)
      clear hb ZS1
      go_wp2_with fail
      refine (shut_zero ZS2.out.z 1).mono ?_
      rintro e v3 ⟨rfl, hb⟩
      have ZS3 := Lib.hid (ZS2.out.later hb)
      clear hb ZS2
      obtain ⟨p0, p1, p2, p3, p4⟩ := ZS3.out.rx
      obtain ⟨q0, q1, q2, q3, q4⟩ := ZS3.out.ry
      go_wp2_with fail
      clear p0 p1 p2 p3 p4 q0 q1 q2 q3 q4
      refine (all_nil _).mono ?_
      rintro e v4 ⟨rfl, hb⟩
      have ZS4 := Lib.hid (ZS3.out.later hb)
      clear hb ZS3
      go_wp2_with fail
      refine (all_zero ZS4.out.z).mono ?_
      rintro e v5 ⟨rfl, hb⟩
      have ZS5 := Lib.hid (ZS4.out.later hb)
      clear hb ZS4
      go_wp2_with fail
      refine (under_nil _ 1).mono ?_
      rintro e v6 ⟨rfl, hb⟩
      have ZS6 := Lib.hid (ZS5.out.later hb)
      clear hb ZS5
      go_wp2_with fail
      refine (under_zero ZS6.out.z 1).mono ?_
      rintro e v7 ⟨rfl, hb⟩
      have ZS7 := Lib.hid (ZS6.out.later hb)
      clear hb ZS6
      go_wp2_with fail
      refine (leaf_nil _ 1).mono ?_
      rintro e v8 ⟨rfl, hb⟩
      have ZS8 := Lib.hid (ZS7.out.later hb)
      clear hb ZS7
      go_wp2_with fail
      refine (leaf_zero ZS8.out.z 1).mono ?_
      rintro e v9 ⟨rfl, hb⟩
      have ZS9 := Lib.hid (ZS8.out.later hb)
      clear hb ZS8
      go_wp2_with fail
      refine (head_c _).mono ?_
      rintro e v99 ⟨rfl, hb⟩
      go_wp2_with fail
      go_ret
      exact ⟨rfl, ZS9.out.b.trans (hb.mono ZS9.out.b.size)⟩
end Go.Proofs.Ytialclecoamobaa.Ch
