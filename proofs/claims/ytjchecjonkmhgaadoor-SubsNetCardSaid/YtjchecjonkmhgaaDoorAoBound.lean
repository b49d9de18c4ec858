/- Package anchor: Bound. -/
import Derived.Test.YtjchecjonkmhgaaDoorAoBounds
import Derived.Test.YtjchecjonkmhgaaDoorSjE
namespace Go.Proofs.YtjchecjonkmhgaaDoor.An
open Go.RowKit Go.Shelf Pr Cw Rf
attribute [local go_sem] Oper.semAt_some
/-- What stands of the result boxes when a call has come back. -/
theorem boxed_cells {W : World} {B : Nat} {t : TypeId} {v : Value} (h : Boxed W B t v) : W.cell? ⟨B, 0, none⟩ = some v ∧ W.frozen? ⟨B, 0, none⟩ = false ∧ B < W.heap.size := ⟨h.cell, h.frozen, h.lt⟩
theorem boxed_put {W : World} {B l : Nat} {t : TypeId} {v : Value} {o : Obj} (h : Boxed W B t v) (o' : Obj) (hl : W.heap[l]? = some o) (ho : o.isCells = false) : Boxed (W.putObj l o') B t v :=
  h.kept (grownBy_putObj' W l o') (by intro e; cases e; rw [show W.heap[B]? = _ from h] at hl; cases hl; cases ho)
theorem put2 {W : World} {a b t u : Nat} {v v' : Value} (p q : Value) (ha : Boxed W a t v) (hb : Boxed W b u v') (hne : a ≠ b) :
    Boxed ((W.setCell ⟨a, 0, none⟩ p).setCell ⟨b, 0, none⟩ q) a t p ∧ Boxed ((W.setCell ⟨a, 0, none⟩ p).setCell ⟨b, 0, none⟩ q) b u q :=
  ⟨boxed_other (ha.set p) q hne, (boxed_other hb p hne.symm).set q⟩
set_option maxHeartbeats 400000 in
theorem res_bound {W : World} {tmps : Array Value} {a b : Nat} {p q : Int} (h4 : tmps[4]?.getD undef = .pointer (some ⟨a, 0, none⟩)) (h5 : tmps[5]?.getD undef = .pointer (some ⟨b, 0, none⟩))
    (P4 : Boxed W a 3 (.int .i64 p)) (P5 : Boxed W b 28 (.int .i64 q)) : (results Tryd.f33 tmps).run Tryd.prog W = .ok (.tuple #[.int .i64 p, .int .i64 q]) W := by
  have c4 := P4.cell
  have c5 := P5.cell
  simp [results, Tryd.results33, h4, h5, go_sem, c4, c5]
/-- The boxes as a call of Bound lays them. -/
theorem lay_bound (c : Cy) (w : World) : Boxed (((w.alloc (.cells #[.int .i64 c.s, .int .i64 c.a, .int .i64 c.e] 24)).alloc (.cells #[.int .i64 0] 3)).alloc (.cells #[.int .i64 0] 28)) (w.heap.size + 1) 3 (.int .i64 0) ∧
    Boxed (((w.alloc (.cells #[.int .i64 c.s, .int .i64 c.a, .int .i64 c.e] 24)).alloc (.cells #[.int .i64 0] 3)).alloc (.cells #[.int .i64 0] 28)) (w.heap.size + 1 + 1) 28 (.int .i64 0) ∧
    Below w.heap.size w (((w.alloc (.cells #[.int .i64 c.s, .int .i64 c.a, .int .i64 c.e] 24)).alloc (.cells #[.int .i64 0] 3)).alloc (.cells #[.int .i64 0] 28)) ∧
    Cb w.heap.size c (((w.alloc (.cells #[.int .i64 c.s, .int .i64 c.a, .int .i64 c.e] 24)).alloc (.cells #[.int .i64 0] 3)).alloc (.cells #[.int .i64 0] 28)) := by
  refine ⟨?_, ?_, (((Below.refl _ w).alloc (Nat.le_refl _) _).alloc (by simp) _).alloc (by simp; omega) _, ((Cb.box c w).alloc _).alloc _⟩
  · have := (Boxed.new (w.alloc (.cells #[.int .i64 c.s, .int .i64 c.a, .int .i64 c.e] 24)) 3 (.int .i64 0)).alloc (.cells #[.int .i64 0] 28)
    rwa [World.size_alloc] at this
  · have := Boxed.new ((w.alloc (.cells #[.int .i64 c.s, .int .i64 c.a, .int .i64 c.e] 24)).alloc (.cells #[.int .i64 0] 3)) 28 (.int .i64 0)
    simpa using this
set_option maxRecDepth 100000 in
set_option maxHeartbeats 1600000 in
theorem bound_no (c : Cy) (k : Int) (w : World) (h : ¬ c.Ok ∨ (c.Ok ∧ k < 0)) :
    Calls Tryd.prog 33 #[c.val, .int .i64 k] w fun e w' => e = .returned (.tuple #[.int .i64 0, .int .i64 2]) ∧ Below w.heap.size w w' := by
  have HL := Lib.hid (lay_bound c w)
  rcases h with h | ⟨h, hk⟩
  · have KC := Lib.hid (fun w => check_no c w h)
    clear h
    obtain ⟨a0, a1, a2, alt⟩ := HL.out.2.2.2
    go_enter Tryd.func33, Tryd.ntmps33
    unfold Cy.val
    go_wp2_with fail
    refine (KC.out _).mono ?_
    rintro e w1 ⟨rfl, b1⟩
    have D1 := Lib.hid (then_below HL.out.2.2.1 b1)
    have Q4 := Lib.hid (boxed_later HL.out.1 b1)
    have Q5 := Lib.hid (boxed_later HL.out.2.1 b1)
    obtain ⟨r4, f4, l4⟩ := boxed_cells Q4.out
    obtain ⟨r5, f5, l5⟩ := boxed_cells Q5.out
    clear b1 a0 a1 a2 alt
    go_wp2_with fail
    obtain ⟨P4, P5⟩ := put2 (.int .i64 0) (.int .i64 2) Q4.out Q5.out (by omega)
    exact bodyPost_ret (res_bound rfl rfl P4 P5) rfl ⟨rfl, (D1.out.setCell (by simp) _).setCell (by simp; omega) _⟩
  · have KC := Lib.hid (fun w => check_yes c w h)
    clear h
    obtain ⟨a0, a1, a2, alt⟩ := HL.out.2.2.2
    go_enter Tryd.func33, Tryd.ntmps33
    unfold Cy.val
    go_wp2_with fail
    refine (KC.out _).mono ?_
    rintro e w1 ⟨rfl, b1⟩
    have D1 := Lib.hid (then_below HL.out.2.2.1 b1)
    have Q4 := Lib.hid (boxed_later HL.out.1 b1)
    have Q5 := Lib.hid (boxed_later HL.out.2.1 b1)
    obtain ⟨r4, f4, l4⟩ := boxed_cells Q4.out
    obtain ⟨r5, f5, l5⟩ := boxed_cells Q5.out
    clear b1 a0 a1 a2 alt
    go_wp2_with fail
    obtain ⟨P4, P5⟩ := put2 (.int .i64 0) (.int .i64 2) Q4.out Q5.out (by omega)
    exact bodyPost_ret (res_bound rfl rfl P4 P5) rfl ⟨rfl, (D1.out.setCell (by simp) _).setCell (by simp; omega) _⟩
theorem yields (c : Cy) (m : Int) (k0 n b : Nat) (W0 : World) (hn : 0 < n) (h : c.Ok) (hin : In m c.s) (h0 : Kb b c (k0 : Int) W0) : BY c m k0 n b W0 := by
  rcases k0 with _|j0
  · exact yields_0 c m n b W0 hn h hin h0
  · by_cases hk : j0 + 1 ≤ 119988
    · exact yields_pos c m j0 hk n b W0 hn h hin h0
    · exact yields_hi c m (j0 + 1) (by omega) n b W0 hn h hin h0
def BoundRes (c : Cy) (m : Int) (j : Nat) (w : World) (e : Ending) (w' : World) : Prop :=
  (Has c m j → e = .returned (.tuple #[.int .i64 (bnd c m j), .int .i64 0])) ∧ (¬ Has c m j → e = .returned (.tuple #[.int .i64 0, .int .i64 7])) ∧ Below w.heap.size w w'
set_option maxRecDepth 100000 in
set_option maxHeartbeats 2000000 in
theorem bound_in (c : Cy) (m : Int) (j : Nat) (w : World) (hw : Tab w) (h : c.Ok) (hin : In m c.s) : Calls Tryd.prog 33 #[c.val, .int .i64 (j : Int)] w (BoundRes c m j w) := by
  have HL := Lib.hid (lay_bound c w)
  have KC := Lib.hid (fun w => check_yes c w h)
  obtain ⟨q, hq⟩ : ∃ q : Int, (j : Int) = q := ⟨_, rfl⟩
  have q0 : 0 ≤ q := by omega
  have HQ := Lib.hid hq
  have HT := Lib.hid hw
  rw [hq]
  clear hq hw
  obtain ⟨a0, a1, a2, alt⟩ := HL.out.2.2.2
  refine (callsIn_wide (n := 4)).1 ?_
  refine callsIn_of_wp_marks Tryd.func33 rfl trivial ?_ rfl
  simp only [Tryd.ntmps33, List.size_toArray, List.length_cons, List.length_nil, Nat.reduceAdd, Nat.reduceSub, Array.replicate_succ, Array.replicate_zero, List.push_toArray, List.append_toArray, List.nil_append, List.cons_append]
  unfold Cy.val
  gi_wp2_with fail
  refine ⟨trivial, (callsIn_wide.2 (KC.out _)).mono ?_⟩
  rintro e w1 ⟨rfl, b1⟩
  have D1 := Lib.hid (then_below HL.out.2.2.1 b1)
  have Q4 := Lib.hid (boxed_later HL.out.1 b1)
  have Q5 := Lib.hid (boxed_later HL.out.2.1 b1)
  have QC := Lib.hid (HL.out.2.2.2.later b1)
  obtain ⟨r4, f4, l4⟩ := boxed_cells Q4.out
  obtain ⟨r5, f5, l5⟩ := boxed_cells Q5.out
  clear b1 a0 a1 a2 alt
  obtain ⟨a0, a1, a2, alt⟩ := QC.out
  gi_wp2_with fail
  refine ⟨trivial, (callsIn_wide.2 (bounds_c c q _)).mono ?_⟩
  rintro e w3 ⟨rfl, rfl⟩
  gi_wp2_with fail
  obtain ⟨d, hd⟩ : ∃ d, w1.heap.size = d := ⟨_, rfl⟩
  have hd1 : w.heap.size + 1 + 1 < d := by rw [← hd]; exact l5
  obtain ⟨W3, hW3⟩ : ∃ W3, (w1.alloc (.cells #[.int .i64 c.s, .int .i64 c.a, .int .i64 c.e] 24)).alloc (.cells #[.int .i64 q] 3) = W3 := ⟨_, rfl⟩
  have hbl : Below w1.heap.size w1 W3 := by rw [← hW3]; exact ((Below.refl _ w1).alloc (Nat.le_refl _) _).alloc (by simp) _
  have hz3 : W3.heap.size = d + 2 := by rw [← hW3, ← hd]; simp
  have hkb : Kb d c (j : Int) W3 := by
    rw [HQ.out]
    refine ⟨?_, ?_, ?_, ?_, ?_, by omega, tab_later HT.out (then_below D1.out hbl)⟩ <;> (rw [← hW3, ← hd]; simp [go_sem])
  have h0 : Bxs w [(w.heap.size + 1, 3, .int .i64 0), (w.heap.size + 1 + 1, 28, .int .i64 0)] W3 := by
    refine ⟨fun x hx => ?_, then_below D1.out hbl⟩
    rcases List.mem_cons.1 hx with rfl | hx
    · exact boxed_later Q4.out hbl
    · rw [List.mem_singleton] at hx
      subst hx
      exact boxed_later Q5.out hbl
  rw [hW3, hd]
  clear hW3 hd hbl r4 f4 l4 r5 f5 l5 a0 a1 a2 alt
  refine law (gf := 69) (lb := #[.pointer (some ⟨d + 1, 0, none⟩), .pointer (some ⟨d, 0, none⟩)]) rfl (enters_of Tryd.func69 (by kernel_rfl) rfl)
    (yields c m j 1 d W3 (by omega) h hin hkb) (Below.refl _ _)
    (fun _ _ _ p q => fun j hj => (q j hj).trans (p j hj)) (fun W l o o' hl ho hc => fun j hj => World.putObj_heap_other (by omega)) (fun _ => rfl)
    (fun pre W => pre = [] ∧ Bxs w [(w.heap.size + 1, 3, .int .i64 0), (w.heap.size + 1 + 1, 28, .int .i64 0)] W)
    (fun cd _ W => (cd = .ret ∧ Has c m j) ∧ Bxs w [(w.heap.size + 1, 3, .int .i64 (bnd c m j)), (w.heap.size + 1 + 1, 28, .int .i64 0)] W)
    (Bears.pure _ (Bxs.bears (fun _ => _) (by omega))) (fun cd => Bears.pure (fun _ => cd = .ret ∧ Has c m j) (Bxs.bears (fun _ => _) (by omega)))
    (Stands.pure _ (Bxs.stands (fun _ => _) (fun b s hb => by subst hb; simp; omega))) (fun cd => Stands.pure (fun _ => cd = .ret ∧ Has c m j) (Bxs.stands (fun _ => _) (fun b s hb => by subst hb; simp; omega))) ⟨rfl, h0⟩
    (fun y => { tmps := #[.agg #[.int .i64 c.s, .int .i64 c.a, .int .i64 c.e], .int .i64 q, .pointer (some { block := w.heap.size, off := 0 }), undef, .pointer (some { block := w.heap.size + 1, off := 0 }), .pointer (some { block := w.heap.size + 1 + 1, off := 0 }), undef, .int .i64 y.2, .agg #[.int .i64 c.s, .int .i64 c.a, .int .i64 c.e], .int .i64 0, .bool false, .bool false, .int .i64 q, .bool (decide (q < 0)), .bool (decide (q < 0)), .agg #[.int .i64 c.s, .int .i64 c.a, .int .i64 c.e], .int .i64 q, .func (Fn.func 69) #[] #[.pointer (some { block := d + 1, off := 0 }), .pointer (some { block := d, off := 0 })], .int .i64 y.1, .int .i64 y.2, undef], defers := [] }) ?assign ?body ?done ?stop
  case assign =>
    intro l y W K hK
    gi_wp2
    exact hK
  case body =>
    rintro l pre y W ⟨rfl, hb⟩ ⟨rfl, hH⟩ hlt
    have Q4 := Lib.hid (hb.all _ (List.mem_cons_self))
    have Q5 := Lib.hid (hb.all _ (List.mem_cons_of_mem _ List.mem_cons_self))
    obtain ⟨r4, f4, l4⟩ := boxed_cells Q4.out
    obtain ⟨r5, f5, l5⟩ := boxed_cells Q5.out
    have HB := Lib.hid hb.b
    have HH := Lib.hid hH
    clear hb hH
    gi_wp2
    obtain ⟨P4, P5⟩ := put2 (.int .i64 (bnd c m j)) (.int .i64 0) Q4.out Q5.out (by simp)
    refine ⟨((KeepsOthers.setCell _ _ _).trans (KeepsOthers.setCell _ _ _)).from _, ⟨rfl, by simpa using HH.out⟩, fun x hx => ?_, (HB.out.setCell (by simp) _).setCell (by simp; omega) _⟩
    rcases List.mem_cons.1 hx with rfl | hx
    · exact P4
    · rw [List.mem_singleton] at hx
      subst hx
      exact P5
  case done =>
    rintro xs W hS ⟨rfl, hb⟩ hK
    have Q4 := Lib.hid (hb.all _ (List.mem_cons_self))
    have Q5 := Lib.hid (hb.all _ (List.mem_cons_of_mem _ List.mem_cons_self))
    obtain ⟨r4, f4, l4⟩ := boxed_cells Q4.out
    obtain ⟨r5, f5, l5⟩ := boxed_cells Q5.out
    have HB := Lib.hid hb.b
    have HS := Lib.hid hS
    rw [hz3] at hK
    have HKK := Lib.hid hK
    clear hb hS hK
    gi_wp2
    obtain ⟨P4, P5⟩ := put2 (.int .i64 0) (.int .i64 7) Q4.out Q5.out (by simp)
    have hK2 := (KeepsOthers.same ((KeepsOthers.setCell W ⟨w.heap.size + 1, 0, none⟩ (.int .i64 0)).trans (KeepsOthers.setCell _ ⟨w.heap.size + 1 + 1, 0, none⟩ (.int .i64 7))) _ _ HKK.out rfl)
    refine ⟨by simp, .inl ⟨_, _, rfl, run_takeDeferred hK2, ?_⟩⟩
    have hp := fun (B : Nat) (t : TypeId) (v : Value) (hh : Boxed ((W.setCell ⟨w.heap.size + 1, 0, none⟩ (.int .i64 0)).setCell ⟨w.heap.size + 1 + 1, 0, none⟩ (.int .i64 7)) B t v) => boxed_put hh (.deferred none) hK2 rfl
    exact ⟨_, res_bound rfl rfl (hp _ _ _ P4) (hp _ _ _ P5), fun hh => absurd hh (by simpa using HS.out), fun _ => rfl, ((HB.out.setCell (by simp) _).setCell (by simp; omega) _).grown (grownBy_putObj' _ _ _) (by simp [World.setCell]; have := HB.out.size; omega) (fun j e => by cases e; omega)⟩
  case stop =>
    rintro cd pre W _ ⟨⟨rfl, hH⟩, hb⟩ hK
    have Q4 := Lib.hid (hb.all _ (List.mem_cons_self))
    have Q5 := Lib.hid (hb.all _ (List.mem_cons_of_mem _ List.mem_cons_self))
    have HB := Lib.hid hb.b
    have HH := Lib.hid hH
    rw [hz3] at hK
    have HKK := Lib.hid hK
    clear hb hH hK
    gi_wp2
    refine ⟨by simp, .inl ⟨_, _, rfl, run_takeDeferred HKK.out, ?_⟩⟩
    exact ⟨_, res_bound rfl rfl (boxed_put Q4.out (.deferred none) HKK.out rfl) (boxed_put Q5.out (.deferred none) HKK.out rfl), fun _ => rfl, fun hh => absurd HH.out hh, HB.out.grown (grownBy_putObj' _ _ _) HB.out.size (fun j e => by cases e; omega)⟩
end Go.Proofs.YtjchecjonkmhgaaDoor.An
