/- Package anchor: Find. (gen_anfind.py writes this.) -/
import Derived.Test.YtjchecjonkmhgaaDoorAoRBound
namespace Go.Proofs.YtjchecjonkmhgaaDoor.An
open Go.RowKit Go.Shelf Pr Cw Rf
attribute [local go_sem] Oper.semAt_some
/-- The five boxes of a call of Find, and what they hold. -/
def fl (w : World) (day a b d e : Int) : List (Nat × TypeId × Value) := [(w.heap.size + 1, 3, .int .i64 day), (w.heap.size + 1 + 1, 3, .int .i64 a), (w.heap.size + 1 + 1 + 1, 3, .int .i64 b), (w.heap.size + 1 + 1 + 1 + 1, 3, .int .i64 d), (w.heap.size + 1 + 1 + 1 + 1 + 1, 28, .int .i64 e)]
structure Fx (w : World) (day a b d e : Int) (W : World) : Prop where
  d0 : Boxed W (w.heap.size + 1) 3 (.int .i64 day)
  r4 : Boxed W (w.heap.size + 1 + 1) 3 (.int .i64 a)
  r5 : Boxed W (w.heap.size + 1 + 1 + 1) 3 (.int .i64 b)
  r6 : Boxed W (w.heap.size + 1 + 1 + 1 + 1) 3 (.int .i64 d)
  r7 : Boxed W (w.heap.size + 1 + 1 + 1 + 1 + 1) 28 (.int .i64 e)
  b : Below w.heap.size w W
theorem Fx.bxs {w W : World} {day a b d e : Int} (h : Fx w day a b d e W) : Bxs w (fl w day a b d e) W := by
  refine ⟨fun x hx => ?_, h.b⟩
  simp only [fl, List.mem_cons, List.not_mem_nil, or_false] at hx
  rcases hx with rfl | rfl | rfl | rfl | rfl
  · exact h.d0
  · exact h.r4
  · exact h.r5
  · exact h.r6
  · exact h.r7
theorem Fx.of {w W : World} {day a b d e : Int} (h : Bxs w (fl w day a b d e) W) : Fx w day a b d e W :=
  ⟨h.all (w.heap.size + 1, 3, .int .i64 day) (by simp [fl]), h.all (w.heap.size + 1 + 1, 3, .int .i64 a) (by simp [fl]), h.all (w.heap.size + 1 + 1 + 1, 3, .int .i64 b) (by simp [fl]), h.all (w.heap.size + 1 + 1 + 1 + 1, 3, .int .i64 d) (by simp [fl]), h.all (w.heap.size + 1 + 1 + 1 + 1 + 1, 28, .int .i64 e) (by simp [fl]), h.b⟩
theorem Fx.later {w W W' : World} {day a b d e : Int} (h : Fx w day a b d e W) (k : Below W.heap.size W W') : Fx w day a b d e W' :=
  ⟨boxed_later h.d0 k, boxed_later h.r4 k, boxed_later h.r5 k, boxed_later h.r6 k, boxed_later h.r7 k, h.b.trans (k.mono h.b.size)⟩
theorem Fx.stands {β : Type} {w : World} {Tb : Nat → Prop} (f : β → Int × Int × Int × Int × Int) (hT : ∀ b, Tb b → w.heap.size + 1 + 1 + 1 + 1 + 1 < b) : Stands Tb (fun s W => Fx w (f s).1 (f s).2.1 (f s).2.2.1 (f s).2.2.2.1 (f s).2.2.2.2 W) where
  below := fun _ _ _ hh k => hh.later k
  put := fun s W b v hb hh => by
    have h1 := hT b hb
    exact ⟨boxed_other hh.d0 v (by omega), boxed_other hh.r4 v (by omega), boxed_other hh.r5 v (by omega), boxed_other hh.r6 v (by omega), boxed_other hh.r7 v (by omega), hh.b.setCell (by simp; omega) _⟩
theorem Fx.bears {β : Type} {w : World} {B : Nat} (f : β → Int × Int × Int × Int × Int) (hB : w.heap.size ≤ B) : Bears B (fun s W => Fx w (f s).1 (f s).2.1 (f s).2.2.1 (f s).2.2.2.1 (f s).2.2.2.2 W) :=
  fun _ W l o o' hl ho hc hh => ⟨boxed_put hh.d0 o' ho hc, boxed_put hh.r4 o' ho hc, boxed_put hh.r5 o' ho hc, boxed_put hh.r6 o' ho hc, boxed_put hh.r7 o' ho hc, hh.b.grown (grownBy_putObj' _ _ _) hh.b.size (fun j e => by cases e; omega)⟩
theorem Fx.s4 {w W : World} {day a b d e : Int} (h : Fx w day a b d e W) (x : Int) : Fx w day x b d e (W.setCell ⟨w.heap.size + 1 + 1, 0, none⟩ (.int .i64 x)) :=
  ⟨boxed_other h.d0 _ (by omega), h.r4.set _, boxed_other h.r5 _ (by omega), boxed_other h.r6 _ (by omega), boxed_other h.r7 _ (by omega), h.b.setCell (by simp; omega) _⟩
theorem Fx.s5 {w W : World} {day a b d e : Int} (h : Fx w day a b d e W) (x : Int) : Fx w day a x d e (W.setCell ⟨w.heap.size + 1 + 1 + 1, 0, none⟩ (.int .i64 x)) :=
  ⟨boxed_other h.d0 _ (by omega), boxed_other h.r4 _ (by omega), h.r5.set _, boxed_other h.r6 _ (by omega), boxed_other h.r7 _ (by omega), h.b.setCell (by simp; omega) _⟩
theorem Fx.s6 {w W : World} {day a b d e : Int} (h : Fx w day a b d e W) (x : Int) : Fx w day a b x e (W.setCell ⟨w.heap.size + 1 + 1 + 1 + 1, 0, none⟩ (.int .i64 x)) :=
  ⟨boxed_other h.d0 _ (by omega), boxed_other h.r4 _ (by omega), boxed_other h.r5 _ (by omega), h.r6.set _, boxed_other h.r7 _ (by omega), h.b.setCell (by simp; omega) _⟩
theorem Fx.s7 {w W : World} {day a b d e : Int} (h : Fx w day a b d e W) (x : Int) : Fx w day a b d x (W.setCell ⟨w.heap.size + 1 + 1 + 1 + 1 + 1, 0, none⟩ (.int .i64 x)) :=
  ⟨boxed_other h.d0 _ (by omega), boxed_other h.r4 _ (by omega), boxed_other h.r5 _ (by omega), boxed_other h.r6 _ (by omega), h.r7.set _, h.b.setCell (by simp; omega) _⟩
theorem Fx.all {w W : World} {day a b d e : Int} (h : Fx w day a b d e W) (x y z u : Int) : Fx w day x y z u ((((W.setCell ⟨w.heap.size + 1 + 1, 0, none⟩ (.int .i64 x)).setCell ⟨w.heap.size + 1 + 1 + 1, 0, none⟩ (.int .i64 y)).setCell ⟨w.heap.size + 1 + 1 + 1 + 1, 0, none⟩ (.int .i64 z)).setCell ⟨w.heap.size + 1 + 1 + 1 + 1 + 1, 0, none⟩ (.int .i64 u)) :=
  (((h.s4 x).s5 y).s6 z).s7 u
theorem Fx.drew {w W : World} {day a b d e : Int} (h : Fx w day a b d e W) : Fx w day a b d e W.drew := ⟨h.d0, h.r4, h.r5, h.r6, h.r7, h.b.drew⟩
theorem Fx.put {w W : World} {day a b d e : Int} (h : Fx w day a b d e W) {l : Nat} (hl : W.heap[l]? = some (.deferred (some []))) (hw : w.heap.size ≤ l) : Fx w day a b d e (W.putObj l (.deferred none)) :=
  ⟨boxed_put h.d0 _ hl rfl, boxed_put h.r4 _ hl rfl, boxed_put h.r5 _ hl rfl, boxed_put h.r6 _ hl rfl, boxed_put h.r7 _ hl rfl, h.b.grown (grownBy_putObj' _ _ _) h.b.size (fun j e => by cases e; exact hw)⟩
set_option maxHeartbeats 400000 in
theorem res_find {w W : World} {day a b d e : Int} {tmps : Array Value} (h : Fx w day a b d e W) (h4 : tmps[4]?.getD undef = .pointer (some ⟨w.heap.size + 1 + 1, 0, none⟩)) (h5 : tmps[5]?.getD undef = .pointer (some ⟨w.heap.size + 1 + 1 + 1, 0, none⟩)) (h6 : tmps[6]?.getD undef = .pointer (some ⟨w.heap.size + 1 + 1 + 1 + 1, 0, none⟩)) (h7 : tmps[7]?.getD undef = .pointer (some ⟨w.heap.size + 1 + 1 + 1 + 1 + 1, 0, none⟩)) :
    (results Tryd.f57 tmps).run Tryd.prog W = .ok (.tuple #[.int .i64 a, .int .i64 b, .int .i64 d, .int .i64 e]) W := by
  have c4 := h.r4.cell
  have c5 := h.r5.cell
  have c6 := h.r6.cell
  have c7 := h.r7.cell
  simp [results, Tryd.results57, h4, h5, h6, h7, go_sem, c4, c5, c6, c7]
/-- The boxes as a call of Find lays them. -/
theorem lay_find (c : Cy) (day : Int) (w : World) : Fx w day 0 0 0 0 ((((((w.alloc (.cells #[.int .i64 c.s, .int .i64 c.a, .int .i64 c.e] 24)).alloc (.cells #[.int .i64 day] 3)).alloc (.cells #[.int .i64 0] 3)).alloc (.cells #[.int .i64 0] 3)).alloc (.cells #[.int .i64 0] 3)).alloc (.cells #[.int .i64 0] 28)) ∧ Cb w.heap.size c ((((((w.alloc (.cells #[.int .i64 c.s, .int .i64 c.a, .int .i64 c.e] 24)).alloc (.cells #[.int .i64 day] 3)).alloc (.cells #[.int .i64 0] 3)).alloc (.cells #[.int .i64 0] 3)).alloc (.cells #[.int .i64 0] 3)).alloc (.cells #[.int .i64 0] 28)) := by
  have b1 : Below w.heap.size w (w.alloc (.cells #[.int .i64 c.s, .int .i64 c.a, .int .i64 c.e] 24)) := (Below.refl _ w).alloc (Nat.le_refl _) _
  refine ⟨⟨?_, ?_, ?_, ?_, ?_, ((((b1.alloc (by simp) _).alloc (by simp; omega) _).alloc (by simp; omega) _).alloc (by simp; omega) _).alloc (by simp; omega) _⟩, (((((Cb.box c w).alloc _).alloc _).alloc _).alloc _).alloc _⟩
  · have := ((((Boxed.new (w.alloc (.cells #[.int .i64 c.s, .int .i64 c.a, .int .i64 c.e] 24)) 3 (.int .i64 day)).alloc (.cells #[.int .i64 0] 3)).alloc (.cells #[.int .i64 0] 3)).alloc (.cells #[.int .i64 0] 3)).alloc (.cells #[.int .i64 0] 28)
    simpa using this
  · have := (((Boxed.new ((w.alloc (.cells #[.int .i64 c.s, .int .i64 c.a, .int .i64 c.e] 24)).alloc (.cells #[.int .i64 day] 3)) 3 (.int .i64 0)).alloc (.cells #[.int .i64 0] 3)).alloc (.cells #[.int .i64 0] 3)).alloc (.cells #[.int .i64 0] 28)
    simpa using this
  · have := ((Boxed.new (((w.alloc (.cells #[.int .i64 c.s, .int .i64 c.a, .int .i64 c.e] 24)).alloc (.cells #[.int .i64 day] 3)).alloc (.cells #[.int .i64 0] 3)) 3 (.int .i64 0)).alloc (.cells #[.int .i64 0] 3)).alloc (.cells #[.int .i64 0] 28)
    simpa using this
  · have := (Boxed.new ((((w.alloc (.cells #[.int .i64 c.s, .int .i64 c.a, .int .i64 c.e] 24)).alloc (.cells #[.int .i64 day] 3)).alloc (.cells #[.int .i64 0] 3)).alloc (.cells #[.int .i64 0] 3)) 3 (.int .i64 0)).alloc (.cells #[.int .i64 0] 28)
    simpa using this
  · have := Boxed.new (((((w.alloc (.cells #[.int .i64 c.s, .int .i64 c.a, .int .i64 c.e] 24)).alloc (.cells #[.int .i64 day] 3)).alloc (.cells #[.int .i64 0] 3)).alloc (.cells #[.int .i64 0] 3)).alloc (.cells #[.int .i64 0] 3)) 28 (.int .i64 0)
    simpa using this
set_option maxRecDepth 100000 in
set_option maxHeartbeats 4000000 in
theorem find_no (c : Cy) (day : Int) (w : World) (h : ¬ c.Ok ∨ (c.Ok ∧ dayB day = false)) :
    Calls Tryd.prog 57 #[c.val, .int .i64 day] w fun e w' => e = .returned (.tuple #[.int .i64 0, .int .i64 0, .int .i64 0, .int .i64 2]) ∧ Below w.heap.size w w' := by
  have H0 := Lib.hid (lay_find c day w).1
  have C0 := Lib.hid (lay_find c day w).2
  obtain ⟨cd, fd, ld⟩ := boxed_cells H0.out.d0
  obtain ⟨r4, f4, l4⟩ := boxed_cells H0.out.r4
  obtain ⟨r5, f5, l5⟩ := boxed_cells H0.out.r5
  obtain ⟨r6, f6, l6⟩ := boxed_cells H0.out.r6
  obtain ⟨r7, f7, l7⟩ := boxed_cells H0.out.r7
  obtain ⟨a0, a1, a2, alt⟩ := C0.out
  rcases h with h | ⟨h, hd⟩
  · have KC := Lib.hid (fun w => check_no c w h)
    clear h
    go_enter Tryd.func57, Tryd.ntmps57
    unfold Cy.val
    go_wp2_with fail
    refine (KC.out _).mono ?_
    rintro e w1 ⟨rfl, b1⟩
    have H1 := Lib.hid (H0.out.later b1)
    have C1 := Lib.hid (C0.out.later b1)
    clear b1 cd fd ld r4 f4 l4 r5 f5 l5 r6 f6 l6 r7 f7 l7 a0 a1 a2 alt
    obtain ⟨cd, fd, ld⟩ := boxed_cells H1.out.d0
    obtain ⟨r4, f4, l4⟩ := boxed_cells H1.out.r4
    obtain ⟨r5, f5, l5⟩ := boxed_cells H1.out.r5
    obtain ⟨r6, f6, l6⟩ := boxed_cells H1.out.r6
    obtain ⟨r7, f7, l7⟩ := boxed_cells H1.out.r7
    obtain ⟨a0, a1, a2, alt⟩ := C1.out
    go_wp2_with fail
    exact bodyPost_ret (res_find (H1.out.all 0 0 0 2) rfl rfl rfl rfl) rfl ⟨rfl, (H1.out.all 0 0 0 2).b⟩
  · have KC := Lib.hid (fun w => check_yes c w h)
    have KD := Lib.hid (fun w => (hd ▸ isDay_c day w : Calls Tryd.prog 68 #[.int .i64 day] w fun e w' => e = .returned (.bool false) ∧ Below w.heap.size w w'))
    clear h hd
    go_enter Tryd.func57, Tryd.ntmps57
    unfold Cy.val
    go_wp2_with fail
    refine (KC.out _).mono ?_
    rintro e w1 ⟨rfl, b1⟩
    have H1 := Lib.hid (H0.out.later b1)
    have C1 := Lib.hid (C0.out.later b1)
    clear b1 cd fd ld r4 f4 l4 r5 f5 l5 r6 f6 l6 r7 f7 l7 a0 a1 a2 alt
    obtain ⟨cd, fd, ld⟩ := boxed_cells H1.out.d0
    obtain ⟨r4, f4, l4⟩ := boxed_cells H1.out.r4
    obtain ⟨r5, f5, l5⟩ := boxed_cells H1.out.r5
    obtain ⟨r6, f6, l6⟩ := boxed_cells H1.out.r6
    obtain ⟨r7, f7, l7⟩ := boxed_cells H1.out.r7
    obtain ⟨a0, a1, a2, alt⟩ := C1.out
    go_wp2_with fail
    refine (KD.out _).mono ?_
    rintro e w2 ⟨rfl, b2⟩
    have H2 := Lib.hid (H1.out.later b2)
    have C2 := Lib.hid (C1.out.later b2)
    clear b2 cd fd ld r4 f4 l4 r5 f5 l5 r6 f6 l6 r7 f7 l7 a0 a1 a2 alt
    obtain ⟨cd, fd, ld⟩ := boxed_cells H2.out.d0
    obtain ⟨r4, f4, l4⟩ := boxed_cells H2.out.r4
    obtain ⟨r5, f5, l5⟩ := boxed_cells H2.out.r5
    obtain ⟨r6, f6, l6⟩ := boxed_cells H2.out.r6
    obtain ⟨r7, f7, l7⟩ := boxed_cells H2.out.r7
    obtain ⟨a0, a1, a2, alt⟩ := C2.out
    go_wp2_with fail
    exact bodyPost_ret (res_find (H2.out.all 0 0 0 2) rfl rfl rfl rfl) rfl ⟨rfl, (H2.out.all 0 0 0 2).b⟩
set_option maxRecDepth 100000 in
set_option maxHeartbeats 4000000 in
theorem find_early (c : Cy) (m day : Int) (w : World) (h : c.Ok) (hin : In m c.s) (hd : dayB day = true) (hs : day < c.s) : Calls Tryd.prog 57 #[c.val, .int .i64 day] w (FindRes c m day w) := by
  have H0 := Lib.hid (lay_find c day w).1
  have C0 := Lib.hid (lay_find c day w).2
  obtain ⟨cd, fd, ld⟩ := boxed_cells H0.out.d0
  obtain ⟨r4, f4, l4⟩ := boxed_cells H0.out.r4
  obtain ⟨r5, f5, l5⟩ := boxed_cells H0.out.r5
  obtain ⟨r6, f6, l6⟩ := boxed_cells H0.out.r6
  obtain ⟨r7, f7, l7⟩ := boxed_cells H0.out.r7
  obtain ⟨a0, a1, a2, alt⟩ := C0.out
  have KC := Lib.hid (fun w => check_yes c w h)
  have KD := Lib.hid (fun w => (hd ▸ isDay_c day w : Calls Tryd.prog 68 #[.int .i64 day] w fun e w' => e = .returned (.bool true) ∧ Below w.heap.size w w'))
  have HNO := Lib.hid (show ∀ i, ¬ Per c m day i from fun i hp => by have h1 := hp.2.1; have h2 := bnd_le (i := 0) (j := i) h hin (Nat.zero_le _); rw [bnd_0] at h2; omega)
  clear hd
  go_enter Tryd.func57, Tryd.ntmps57
  unfold Cy.val
  go_wp2_with fail
  refine (KC.out _).mono ?_
  rintro e w1 ⟨rfl, b1⟩
  have H1 := Lib.hid (H0.out.later b1)
  have C1 := Lib.hid (C0.out.later b1)
  clear b1 cd fd ld r4 f4 l4 r5 f5 l5 r6 f6 l6 r7 f7 l7 a0 a1 a2 alt
  obtain ⟨cd, fd, ld⟩ := boxed_cells H1.out.d0
  obtain ⟨r4, f4, l4⟩ := boxed_cells H1.out.r4
  obtain ⟨r5, f5, l5⟩ := boxed_cells H1.out.r5
  obtain ⟨r6, f6, l6⟩ := boxed_cells H1.out.r6
  obtain ⟨r7, f7, l7⟩ := boxed_cells H1.out.r7
  obtain ⟨a0, a1, a2, alt⟩ := C1.out
  go_wp2_with fail
  refine (KD.out _).mono ?_
  rintro e w2 ⟨rfl, b2⟩
  have H2 := Lib.hid (H1.out.later b2)
  have C2 := Lib.hid (C1.out.later b2)
  clear b2 cd fd ld r4 f4 l4 r5 f5 l5 r6 f6 l6 r7 f7 l7 a0 a1 a2 alt
  obtain ⟨cd, fd, ld⟩ := boxed_cells H2.out.d0
  obtain ⟨r4, f4, l4⟩ := boxed_cells H2.out.r4
  obtain ⟨r5, f5, l5⟩ := boxed_cells H2.out.r5
  obtain ⟨r6, f6, l6⟩ := boxed_cells H2.out.r6
  obtain ⟨r7, f7, l7⟩ := boxed_cells H2.out.r7
  obtain ⟨a0, a1, a2, alt⟩ := C2.out
  go_wp2_with fail
  exact bodyPost_ret (res_find (H2.out.all 0 0 0 7) rfl rfl rfl rfl) rfl ⟨Or.inr ⟨HNO.out, rfl⟩, (H2.out.all 0 0 0 7).b⟩
theorem cut_at {G : Prop} (K : Act → World → Prop) (P : World → Prop) {A : Act} (main : (∀ wr, P wr → K A wr) → G) (rest : ∀ wr, P wr → K A wr) : G := main rest
/-- What the loop last kept of a bound. -/
def lastB (c : Cy) (m : Int) (nr n : Nat) : Int := match n with | 0 => 0 | p + 1 => bnd c m (nr + p)
theorem bears_ex {β γ : Type} {B : Nat} {J : γ → β → World → Prop} (h : ∀ i, Bears B (J i)) : Bears B (fun s W => ∃ i, J i s W) := fun s W l o o' h1 h2 h3 ⟨i, hi⟩ => ⟨i, h i s W l o o' h1 h2 h3 hi⟩
/-- The bound from which Find looks: it is not behind the day. -/
theorem near_le {c : Cy} {m md day : Int} {nr : Nat} (h : c.Ok) (hmd : In md day) (hs : c.s ≤ day) (hn : (nr : Int) = 0 ∨ (1 ≤ (nr : Int) ∧ (nr : Int) = (md - m) / c.e - 1)) : bnd c m nr ≤ day := by
  rcases nr with _|j
  · rw [bnd_0]; exact hs
  · rw [bnd_s]
    have he := h.e0
    have h1 : ((j + 1 : Nat) : Int) = (j : Int) + 1 := by omega
    rw [h1] at hn
    have hj : (j : Int) + 2 = (md - m) / c.e := by omega
    have h2 : ((j : Int) + 2) * c.e ≤ md - m := by rw [hj]; exact Int.ediv_mul_le _ (by omega)
    rw [Int.add_mul] at h2
    have h3 := (fst_bd (m := m) h).2
    have h4 := (atv_bd (fst c m + (j : Int) * c.e) c.a h.a0).2
    have h5 : E (fst c m + (j : Int) * c.e) ≤ B md := B_mono (by omega)
    have h6 := hmd.a
    omega
set_option maxRecDepth 100000 in
set_option maxHeartbeats 4000000 in
theorem find_in (c : Cy) (m md day : Int) (w : World) (hw : Tab w) (h : c.Ok) (hin : In m c.s) (hmd : In md day) (hs : c.s ≤ day) : Calls Tryd.prog 57 #[c.val, .int .i64 day] w (FindRes c m day w) := by
  have H0 := Lib.hid (lay_find c day w).1
  have C0 := Lib.hid (lay_find c day w).2
  obtain ⟨cd, fd, ld⟩ := boxed_cells H0.out.d0
  obtain ⟨r4, f4, l4⟩ := boxed_cells H0.out.r4
  obtain ⟨r5, f5, l5⟩ := boxed_cells H0.out.r5
  obtain ⟨r6, f6, l6⟩ := boxed_cells H0.out.r6
  obtain ⟨r7, f7, l7⟩ := boxed_cells H0.out.r7
  obtain ⟨a0, a1, a2, alt⟩ := C0.out
  have hdd := hmd.day
  have hd : dayB day = true := by unfold dayB; rw [decide_eq_true hdd.1, decide_eq_true hdd.2]; rfl
  have KC := Lib.hid (fun w => check_yes c w h)
  have KD := Lib.hid (fun w => (hd ▸ isDay_c day w : Calls Tryd.prog 68 #[.int .i64 day] w fun e w' => e = .returned (.bool true) ∧ Below w.heap.size w w'))
  have KO := Lib.hid (of_in hin)
  have KP := Lib.hid (of_in hmd)
  have HT := Lib.hid hw
  have e0 := h.e0
  have e1 := h.e1
  have m0 := hin.lo
  have m1 := hmd.hi
  have hmm : m ≤ md := by
    rcases Int.lt_or_le md m with hl | hl
    · have := B_mono (k := md) (j := m) (by omega)
      have := hmd.b
      have := hin.a
      omega
    · exact hl
  obtain ⟨qd, hqd⟩ : ∃ qd, (md - m) / c.e = qd := ⟨_, rfl⟩
  have q0 : 0 ≤ qd := by rw [← hqd]; exact Int.ediv_nonneg (by omega) (by omega)
  have q1 : qd ≤ md - m := by rw [← hqd]; exact Int.ediv_le_self _ (by omega)
  obtain ⟨nr, hnr⟩ : ∃ nr : Nat, (nr : Int) = (if 0 ≤ qd - 1 then qd - 1 else 0) := ⟨(if 0 ≤ qd - 1 then qd - 1 else 0).toNat, by split <;> omega⟩
  have HNR := Lib.hid (near_le (nr := nr) h hmd hs (by rw [hqd]; split at hnr <;> omega))
  have HQ := Lib.hid hnr
  clear hd hw hnr
  refine (callsIn_wide (n := 4)).1 ?_
  refine callsIn_of_wp_marks Tryd.func57 rfl trivial ?_ rfl
  simp only [Tryd.ntmps57, List.size_toArray, List.length_cons, List.length_nil, Nat.reduceAdd, Nat.reduceSub, Array.replicate_succ, Array.replicate_zero, List.push_toArray, List.append_toArray, List.nil_append, List.cons_append]
  unfold Cy.val
  gi_wp2_with fail
  refine ⟨trivial, (callsIn_wide.2 (KC.out _)).mono ?_⟩
  rintro e w1 ⟨rfl, b1⟩
  have H1 := Lib.hid (H0.out.later b1)
  have C1 := Lib.hid (C0.out.later b1)
  clear b1 cd fd ld r4 f4 l4 r5 f5 l5 r6 f6 l6 r7 f7 l7 a0 a1 a2 alt
  obtain ⟨cd, fd, ld⟩ := boxed_cells H1.out.d0
  obtain ⟨r4, f4, l4⟩ := boxed_cells H1.out.r4
  obtain ⟨r5, f5, l5⟩ := boxed_cells H1.out.r5
  obtain ⟨r6, f6, l6⟩ := boxed_cells H1.out.r6
  obtain ⟨r7, f7, l7⟩ := boxed_cells H1.out.r7
  obtain ⟨a0, a1, a2, alt⟩ := C1.out
  gi_wp2_with fail
  refine ⟨trivial, (callsIn_wide.2 (KD.out _)).mono ?_⟩
  rintro e w2 ⟨rfl, b2⟩
  have H2 := Lib.hid (H1.out.later b2)
  have C2 := Lib.hid (C1.out.later b2)
  clear b2 cd fd ld r4 f4 l4 r5 f5 l5 r6 f6 l6 r7 f7 l7 a0 a1 a2 alt
  obtain ⟨cd, fd, ld⟩ := boxed_cells H2.out.d0
  obtain ⟨r4, f4, l4⟩ := boxed_cells H2.out.r4
  obtain ⟨r5, f5, l5⟩ := boxed_cells H2.out.r5
  obtain ⟨r6, f6, l6⟩ := boxed_cells H2.out.r6
  obtain ⟨r7, f7, l7⟩ := boxed_cells H2.out.r7
  obtain ⟨a0, a1, a2, alt⟩ := C2.out
  gi_wp2_with fail
  refine ⟨trivial, (callsIn_wide.2 (KO.out _ (tab_later HT.out H2.out.b))).mono ?_⟩
  rintro e w' ⟨rfl, rfl⟩
  gi_wp2_with fail
  refine ⟨trivial, (callsIn_wide.2 (KP.out _ (tab_later HT.out H2.out.b))).mono ?_⟩
  rintro e w' ⟨rfl, rfl⟩
  by_cases hq : 0 ≤ qd - 1
  · have hnq : (nr : Int) = qd - 1 := by have := HQ.out; rw [if_pos hq] at this; exact this
    have HNQ := Lib.hid hnq
    clear hnq
    gi_wp2_with fail
    refine ⟨trivial, (callsIn_wide.2 (bounds_c c _ _)).mono ?_⟩
    rintro e w3 ⟨rfl, rfl⟩
    gi_wp2_with fail
    obtain ⟨d, hd⟩ : ∃ d, w2.heap.size = d := ⟨_, rfl⟩
    have hd1 : w.heap.size + 1 + 1 + 1 + 1 + 1 < d := by rw [← hd]; exact l7
    obtain ⟨W3, hW3⟩ : ∃ W3, (w2.alloc (.cells #[.int .i64 c.s, .int .i64 c.a, .int .i64 c.e] 24)).alloc (.cells #[.int .i64 (qd - 1)] 3) = W3 := ⟨_, rfl⟩
    have hbl : Below w2.heap.size w2 W3 := by rw [← hW3]; exact ((Below.refl _ w2).alloc (Nat.le_refl _) _).alloc (by simp) _
    have hz3 : W3.heap.size = d + 2 := by rw [← hW3, ← hd]; simp
    have hkb : Kb d c (nr : Int) W3 := by
      rw [HNQ.out]
      refine ⟨?_, ?_, ?_, ?_, ?_, by omega, tab_later HT.out (then_below H2.out.b hbl)⟩ <;> (rw [← hW3, ← hd]; simp [go_sem])
    have h0 : Fx w day 0 0 0 0 W3 := H2.out.later hbl
    rw [hW3, hd]
    clear hW3 hd hbl cd fd ld r4 f4 l4 r5 f5 l5 r6 f6 l6 r7 f7 l7 a0 a1 a2 alt
    refine law (gf := 69) (lb := #[.pointer (some ⟨d + 1, 0, none⟩), .pointer (some ⟨d, 0, none⟩)]) rfl (enters_of Tryd.func69 (by kernel_rfl) rfl)
      (yields c m nr 1 d W3 (by omega) h hin hkb) (Below.refl _ _)
      (fun _ _ _ p q => fun j hj => (q j hj).trans (p j hj)) (fun W l o o' hl ho hc => fun j hj => World.putObj_heap_other (by omega)) (fun _ => rfl)
      (fun pre W => (∀ i, i < pre.length → bnd c m (nr + i) ≤ day) ∧ Fx w day 0 (lastB c m nr pre.length) 0 0 W)
      (fun cd _ W => ∃ i : Nat, (cd = .ret ∧ Per c m day i) ∧ Fx w day (i : Int) (bnd c m i) (bnd c m (i + 1)) 0 W)
      (Bears.pure _ (Fx.bears (w := w) (fun pre : List (Int × Int) => (day, 0, lastB c m nr pre.length, 0, 0)) (by omega)))
      (fun cd => bears_ex fun i => Bears.pure (fun _ => cd = .ret ∧ Per c m day i) (Fx.bears (w := w) (fun _ : List (Int × Int) => (day, (i : Int), bnd c m i, bnd c m (i + 1), 0)) (by omega)))
      (Stands.pure _ (Fx.stands (w := w) (Tb := fun k => k = d + 1) (fun pre : List (Int × Int) => (day, 0, lastB c m nr pre.length, 0, 0)) (fun b hb => by subst hb; omega)))
      (fun cd => Stands.ex fun i => Stands.pure (fun _ => cd = .ret ∧ Per c m day i) (Fx.stands (w := w) (Tb := fun k => k = d + 1) (fun _ : List (Int × Int) => (day, (i : Int), bnd c m i, bnd c m (i + 1), 0)) (fun b hb => by subst hb; omega)))
      ⟨fun i hi => absurd hi (by simp), h0⟩
      (fun y => { tmps := #[.agg #[.int .i64 c.s, .int .i64 c.a, .int .i64 c.e], .int .i64 day, .pointer (some { block := w.heap.size, off := 0 }), .pointer (some { block := w.heap.size + 1, off := 0 }), .pointer (some { block := w.heap.size + 1 + 1, off := 0 }), .pointer (some { block := w.heap.size + 1 + 1 + 1, off := 0 }), .pointer (some { block := w.heap.size + 1 + 1 + 1 + 1, off := 0 }), .pointer (some { block := w.heap.size + 1 + 1 + 1 + 1 + 1, off := 0 }), .int .i64 m, .int .i64 0, .int .i64 md, .int .i64 0, .int .i64 (qd - 1), .int .i64 y.1, .int .i64 y.2, .agg #[.int .i64 c.s, .int .i64 c.a, .int .i64 c.e], .int .i64 0, .bool false, .bool false, .int .i64 day, .bool true, .bool false, .bool false, .int .i64 day, .pointer (some { block := w.heap.size, off := 0 }), .int .i64 c.s, .bool (decide (day < c.s)), .tuple #[.int .i64 m, .int .i64 0], .pointer (some { block := w.heap.size, off := 0 }), .int .i64 c.s, .tuple #[.int .i64 m, .int .i64 0], .int .i64 m, .int .i64 0, .tuple #[.int .i64 md, .int .i64 0], .int .i64 day, .tuple #[.int .i64 md, .int .i64 0], .int .i64 md, .int .i64 0, .int .i64 md, .int .i64 m, .int .i64 (md - m), (.pointer (some { block := w.heap.size, off := 2 })), .int .i64 c.e, .int .i64 qd, .int .i64 (qd - 1), .int .i64 (qd - 1), .agg #[.int .i64 c.s, .int .i64 c.a, .int .i64 c.e], .int .i64 (qd - 1), (.func (Fn.func 69) #[] #[.pointer (some { block := d + 1, off := 0 }), .pointer (some { block := d, off := 0 })]), .int .i64 y.1, .int .i64 y.2, undef, undef, undef, undef, undef, undef, undef, undef], defers := [] }) ?assign ?body ?done ?stop
    case assign =>
      intro l y W K hK
      gi_wp2
      exact hK
    case body =>
      rintro l pre y W ⟨hall, hf⟩ ⟨rfl, hH⟩ hlt
      have HF := Lib.hid hf
      have HA := Lib.hid hall
      have HH := Lib.hid hH
      have hk9 : ((nr + pre.length : Nat) : Int) ≤ 119988 := by
        rcases Nat.lt_or_ge 119988 (nr + pre.length) with hh | hh
        · exact absurd hH (has_hi h hin.lo hh)
        · omega
      obtain ⟨kq, hkq⟩ : ∃ kq : Int, ((nr + pre.length : Nat) : Int) = kq := ⟨_, rfl⟩
      rw [hkq] at hk9
      have hk0 : 0 ≤ kq := by omega
      obtain ⟨bk, hbk⟩ : ∃ bk, bnd c m (nr + pre.length) = bk := ⟨_, rfl⟩
      have HBK := Lib.hid hbk
      have HKQ := Lib.hid hkq
      dsimp only
      rw [hkq, hbk]
      obtain ⟨cd, fd, ld⟩ := boxed_cells HF.out.d0
      obtain ⟨r4, f4, l4⟩ := boxed_cells HF.out.r4
      obtain ⟨r5, f5, l5⟩ := boxed_cells HF.out.r5
      obtain ⟨r6, f6, l6⟩ := boxed_cells HF.out.r6
      obtain ⟨r7, f7, l7⟩ := boxed_cells HF.out.r7
      clear hf hall hH hkq hbk
      by_cases hgt : day < bk
      · obtain ⟨p, hp⟩ : ∃ p, pre.length = p + 1 := by
          rcases hl : pre.length with _|p
          · have h1 := HNR.out
            have h2 := HBK.out
            rw [hl] at h2
            simp at h2
            omega
          · exact ⟨p, rfl⟩
        have HL := Lib.hid (show lastB c m nr pre.length = bnd c m (nr + p) by rw [hp]; rfl)
        have HP := Lib.hid (show Per c m day (nr + p) from ⟨by have := HH.out; rw [hp] at this; exact this, HA.out p (by omega), by have := HBK.out; rw [hp] at this; rw [show nr + p + 1 = nr + (p + 1) by omega, this]; exact hgt⟩)
        have HK1 := Lib.hid (show kq - 1 = ((nr + p : Nat) : Int) by have := HKQ.out; omega)
        have HB1 := Lib.hid (show bnd c m (nr + p + 1) = bk by have := HBK.out; rw [hp] at this; exact this)
        have hmx : Tryd.prog.follows .mixedOrders = true := by kernel_rfl
        have hwr : IntKind.i64.wrap (kq - 1) = kq - 1 := IntWalk.i64_in _ (by omega)
        clear hp
        generalize hlb : lastB c m nr pre.length = lb at r5
        have HLB := Lib.hid hlb
        clear hlb
        have HFIN := Lib.hid (show KeepsFrom W3.heap.size W (((((W.setCell ⟨w.heap.size + 1 + 1, 0, none⟩ (.int .i64 (kq - 1))).setCell ⟨w.heap.size + 1 + 1 + 1, 0, none⟩ (.int .i64 lb)).setCell ⟨w.heap.size + 1 + 1 + 1 + 1, 0, none⟩ (.int .i64 bk)).setCell ⟨w.heap.size + 1 + 1 + 1 + 1 + 1, 0, none⟩ (.int .i64 0)).drew) ∧ Per c m day (nr + p) ∧ Fx w day ((nr + p : Nat) : Int) (bnd c m (nr + p)) (bnd c m (nr + p + 1)) 0 (((((W.setCell ⟨w.heap.size + 1 + 1, 0, none⟩ (.int .i64 (kq - 1))).setCell ⟨w.heap.size + 1 + 1 + 1, 0, none⟩ (.int .i64 lb)).setCell ⟨w.heap.size + 1 + 1 + 1 + 1, 0, none⟩ (.int .i64 bk)).setCell ⟨w.heap.size + 1 + 1 + 1 + 1 + 1, 0, none⟩ (.int .i64 0)).drew) from
          ⟨(((((KeepsOthers.setCell _ _ _).trans (KeepsOthers.setCell _ _ _)).trans (KeepsOthers.setCell _ _ _)).trans (KeepsOthers.setCell _ _ _)).trans (KeepsOthers.drew _)).from _, HP.out, by rw [← HK1.out, HB1.out, ← HL.out, HLB.out]; exact (HF.out.all _ _ _ _).drew⟩)
        gi_wp2
        rename_i KK aK
        apply cut_at KK (fun wr => wr = ((((W.setCell ⟨w.heap.size + 1 + 1, 0, none⟩ (.int .i64 (kq - 1))).setCell ⟨w.heap.size + 1 + 1 + 1, 0, none⟩ (.int .i64 lb)).setCell ⟨w.heap.size + 1 + 1 + 1 + 1, 0, none⟩ (.int .i64 bk)).setCell ⟨w.heap.size + 1 + 1 + 1 + 1 + 1, 0, none⟩ (.int .i64 0)).drew)
        case main =>
          intro hK
          gi_region_with_o (fail)
          all_goals exact hK _ rfl
        case rest =>
          rintro wr rfl
          gi_wp2
          exact ⟨HFIN.out.1, nr + p, ⟨rfl, HFIN.out.2.1⟩, HFIN.out.2.2⟩
      · gi_wp2
        refine ⟨(KeepsOthers.setCell _ _ _).from _, fun j hj => Below.heap_setCell _ _ _ _ (by simp; omega), fun i hi => ?_, ?_⟩
        · rcases Nat.lt_or_eq_of_le (Nat.le_of_lt_succ (by simpa using hi)) with h1 | rfl
          · exact HA.out i h1
          · rw [HBK.out]; omega
        · have hl1 : lastB c m nr (pre ++ [(kq, bk)]).length = bk := by
            rw [show (pre ++ [(kq, bk)]).length = pre.length + 1 by simp]
            exact HBK.out
          rw [hl1]
          exact HF.out.s5 _
    case done =>
      rintro xs W hS ⟨hall, hf⟩ hK
      have HZ := Lib.hid hz3
      clear hz3
      have HF := Lib.hid hf
      have HKK := Lib.hid hK
      have HNO := Lib.hid (show ∀ i, ¬ Per c m day i from fun i hp => by
        rcases Nat.lt_or_ge (i + 1) (nr + xs.length) with h1 | h1
        · rcases Nat.lt_or_ge (i + 1) nr with h2 | h2
          · have := bnd_le (i := i + 1) (j := nr) h hin (Nat.le_of_lt h2)
            have := HNR.out
            have := hp.2.2
            omega
          · have h3 := hall (i + 1 - nr) (by omega)
            rw [show nr + (i + 1 - nr) = i + 1 by omega] at h3
            have := hp.2.2
            omega
        · exact hS (Has.le h h1 hp.1))
      obtain ⟨cd, fd, ld⟩ := boxed_cells HF.out.d0
      obtain ⟨r4, f4, l4⟩ := boxed_cells HF.out.r4
      obtain ⟨r5, f5, l5⟩ := boxed_cells HF.out.r5
      obtain ⟨r6, f6, l6⟩ := boxed_cells HF.out.r6
      obtain ⟨r7, f7, l7⟩ := boxed_cells HF.out.r7
      clear hf hall hS hK
      gi_wp2
      have hK2 := (KeepsOthers.same ((((KeepsOthers.setCell W ⟨w.heap.size + 1 + 1, 0, none⟩ (.int .i64 0)).trans (KeepsOthers.setCell _ ⟨w.heap.size + 1 + 1 + 1, 0, none⟩ (.int .i64 0))).trans (KeepsOthers.setCell _ ⟨w.heap.size + 1 + 1 + 1 + 1, 0, none⟩ (.int .i64 0))).trans (KeepsOthers.setCell _ ⟨w.heap.size + 1 + 1 + 1 + 1 + 1, 0, none⟩ (.int .i64 7))) _ _ HKK.out rfl)
      refine ⟨by simp, .inl ⟨_, _, rfl, run_takeDeferred hK2, ?_⟩⟩
      have hx := (HF.out.all 0 0 0 7).put hK2 (by have := HZ.out; omega)
      exact ⟨_, res_find hx rfl rfl rfl rfl, Or.inr ⟨HNO.out, rfl⟩, hx.b⟩
    case stop =>
      rintro cd pre W _ ⟨i, ⟨rfl, hP⟩, hf⟩ hK
      have HZ := Lib.hid hz3
      clear hz3
      have HF := Lib.hid hf
      have HP := Lib.hid hP
      have HKK := Lib.hid hK
      clear hf hP hK
      gi_wp2
      refine ⟨by simp, .inl ⟨_, _, rfl, run_takeDeferred HKK.out, ?_⟩⟩
      have hx := HF.out.put HKK.out (by have := HZ.out; omega)
      exact ⟨_, res_find hx rfl rfl rfl rfl, Or.inl ⟨i, HP.out, rfl⟩, hx.b⟩
  · have hq2 : qd - 1 < 0 := by omega
    have hnq : (nr : Int) = 0 := by have := HQ.out; rw [if_neg hq] at this; exact this
    have HNQ := Lib.hid hnq
    clear hnq
    gi_wp2_with fail
    refine ⟨trivial, (callsIn_wide.2 (bounds_c c _ _)).mono ?_⟩
    rintro e w3 ⟨rfl, rfl⟩
    gi_wp2_with fail
    obtain ⟨d, hd⟩ : ∃ d, w2.heap.size = d := ⟨_, rfl⟩
    have hd1 : w.heap.size + 1 + 1 + 1 + 1 + 1 < d := by rw [← hd]; exact l7
    obtain ⟨W3, hW3⟩ : ∃ W3, (w2.alloc (.cells #[.int .i64 c.s, .int .i64 c.a, .int .i64 c.e] 24)).alloc (.cells #[.int .i64 (0)] 3) = W3 := ⟨_, rfl⟩
    have hbl : Below w2.heap.size w2 W3 := by rw [← hW3]; exact ((Below.refl _ w2).alloc (Nat.le_refl _) _).alloc (by simp) _
    have hz3 : W3.heap.size = d + 2 := by rw [← hW3, ← hd]; simp
    have hkb : Kb d c (nr : Int) W3 := by
      rw [HNQ.out]
      refine ⟨?_, ?_, ?_, ?_, ?_, by omega, tab_later HT.out (then_below H2.out.b hbl)⟩ <;> (rw [← hW3, ← hd]; simp [go_sem])
    have h0 : Fx w day 0 0 0 0 W3 := H2.out.later hbl
    rw [hW3, hd]
    clear hW3 hd hbl cd fd ld r4 f4 l4 r5 f5 l5 r6 f6 l6 r7 f7 l7 a0 a1 a2 alt
    refine law (gf := 69) (lb := #[.pointer (some ⟨d + 1, 0, none⟩), .pointer (some ⟨d, 0, none⟩)]) rfl (enters_of Tryd.func69 (by kernel_rfl) rfl)
      (yields c m nr 1 d W3 (by omega) h hin hkb) (Below.refl _ _)
      (fun _ _ _ p q => fun j hj => (q j hj).trans (p j hj)) (fun W l o o' hl ho hc => fun j hj => World.putObj_heap_other (by omega)) (fun _ => rfl)
      (fun pre W => (∀ i, i < pre.length → bnd c m (nr + i) ≤ day) ∧ Fx w day 0 (lastB c m nr pre.length) 0 0 W)
      (fun cd _ W => ∃ i : Nat, (cd = .ret ∧ Per c m day i) ∧ Fx w day (i : Int) (bnd c m i) (bnd c m (i + 1)) 0 W)
      (Bears.pure _ (Fx.bears (w := w) (fun pre : List (Int × Int) => (day, 0, lastB c m nr pre.length, 0, 0)) (by omega)))
      (fun cd => bears_ex fun i => Bears.pure (fun _ => cd = .ret ∧ Per c m day i) (Fx.bears (w := w) (fun _ : List (Int × Int) => (day, (i : Int), bnd c m i, bnd c m (i + 1), 0)) (by omega)))
      (Stands.pure _ (Fx.stands (w := w) (Tb := fun k => k = d + 1) (fun pre : List (Int × Int) => (day, 0, lastB c m nr pre.length, 0, 0)) (fun b hb => by subst hb; omega)))
      (fun cd => Stands.ex fun i => Stands.pure (fun _ => cd = .ret ∧ Per c m day i) (Fx.stands (w := w) (Tb := fun k => k = d + 1) (fun _ : List (Int × Int) => (day, (i : Int), bnd c m i, bnd c m (i + 1), 0)) (fun b hb => by subst hb; omega)))
      ⟨fun i hi => absurd hi (by simp), h0⟩
      (fun y => { tmps := #[.agg #[.int .i64 c.s, .int .i64 c.a, .int .i64 c.e], .int .i64 day, .pointer (some { block := w.heap.size, off := 0 }), .pointer (some { block := w.heap.size + 1, off := 0 }), .pointer (some { block := w.heap.size + 1 + 1, off := 0 }), .pointer (some { block := w.heap.size + 1 + 1 + 1, off := 0 }), .pointer (some { block := w.heap.size + 1 + 1 + 1 + 1, off := 0 }), .pointer (some { block := w.heap.size + 1 + 1 + 1 + 1 + 1, off := 0 }), .int .i64 m, .int .i64 0, .int .i64 md, .int .i64 0, .int .i64 (0), .int .i64 y.1, .int .i64 y.2, .agg #[.int .i64 c.s, .int .i64 c.a, .int .i64 c.e], .int .i64 0, .bool false, .bool false, .int .i64 day, .bool true, .bool false, .bool false, .int .i64 day, .pointer (some { block := w.heap.size, off := 0 }), .int .i64 c.s, .bool (decide (day < c.s)), .tuple #[.int .i64 m, .int .i64 0], .pointer (some { block := w.heap.size, off := 0 }), .int .i64 c.s, .tuple #[.int .i64 m, .int .i64 0], .int .i64 m, .int .i64 0, .tuple #[.int .i64 md, .int .i64 0], .int .i64 day, .tuple #[.int .i64 md, .int .i64 0], .int .i64 md, .int .i64 0, .int .i64 md, .int .i64 m, .int .i64 (md - m), (.pointer (some { block := w.heap.size, off := 2 })), .int .i64 c.e, .int .i64 qd, .int .i64 (qd - 1), .int .i64 (0), .agg #[.int .i64 c.s, .int .i64 c.a, .int .i64 c.e], .int .i64 (0), (.func (Fn.func 69) #[] #[.pointer (some { block := d + 1, off := 0 }), .pointer (some { block := d, off := 0 })]), .int .i64 y.1, .int .i64 y.2, undef, undef, undef, undef, undef, undef, undef, undef], defers := [] }) ?assign2 ?body2 ?done2 ?stop2
    case assign2 =>
      intro l y W K hK
      gi_wp2
      exact hK
    case body2 =>
      rintro l pre y W ⟨hall, hf⟩ ⟨rfl, hH⟩ hlt
      have HF := Lib.hid hf
      have HA := Lib.hid hall
      have HH := Lib.hid hH
      have hk9 : ((nr + pre.length : Nat) : Int) ≤ 119988 := by
        rcases Nat.lt_or_ge 119988 (nr + pre.length) with hh | hh
        · exact absurd hH (has_hi h hin.lo hh)
        · omega
      obtain ⟨kq, hkq⟩ : ∃ kq : Int, ((nr + pre.length : Nat) : Int) = kq := ⟨_, rfl⟩
      rw [hkq] at hk9
      have hk0 : 0 ≤ kq := by omega
      obtain ⟨bk, hbk⟩ : ∃ bk, bnd c m (nr + pre.length) = bk := ⟨_, rfl⟩
      have HBK := Lib.hid hbk
      have HKQ := Lib.hid hkq
      dsimp only
      rw [hkq, hbk]
      obtain ⟨cd, fd, ld⟩ := boxed_cells HF.out.d0
      obtain ⟨r4, f4, l4⟩ := boxed_cells HF.out.r4
      obtain ⟨r5, f5, l5⟩ := boxed_cells HF.out.r5
      obtain ⟨r6, f6, l6⟩ := boxed_cells HF.out.r6
      obtain ⟨r7, f7, l7⟩ := boxed_cells HF.out.r7
      clear hf hall hH hkq hbk
      by_cases hgt : day < bk
      · obtain ⟨p, hp⟩ : ∃ p, pre.length = p + 1 := by
          rcases hl : pre.length with _|p
          · have h1 := HNR.out
            have h2 := HBK.out
            rw [hl] at h2
            simp at h2
            omega
          · exact ⟨p, rfl⟩
        have HL := Lib.hid (show lastB c m nr pre.length = bnd c m (nr + p) by rw [hp]; rfl)
        have HP := Lib.hid (show Per c m day (nr + p) from ⟨by have := HH.out; rw [hp] at this; exact this, HA.out p (by omega), by have := HBK.out; rw [hp] at this; rw [show nr + p + 1 = nr + (p + 1) by omega, this]; exact hgt⟩)
        have HK1 := Lib.hid (show kq - 1 = ((nr + p : Nat) : Int) by have := HKQ.out; omega)
        have HB1 := Lib.hid (show bnd c m (nr + p + 1) = bk by have := HBK.out; rw [hp] at this; exact this)
        have hmx : Tryd.prog.follows .mixedOrders = true := by kernel_rfl
        have hwr : IntKind.i64.wrap (kq - 1) = kq - 1 := IntWalk.i64_in _ (by omega)
        clear hp
        generalize hlb : lastB c m nr pre.length = lb at r5
        have HLB := Lib.hid hlb
        clear hlb
        have HFIN := Lib.hid (show KeepsFrom W3.heap.size W (((((W.setCell ⟨w.heap.size + 1 + 1, 0, none⟩ (.int .i64 (kq - 1))).setCell ⟨w.heap.size + 1 + 1 + 1, 0, none⟩ (.int .i64 lb)).setCell ⟨w.heap.size + 1 + 1 + 1 + 1, 0, none⟩ (.int .i64 bk)).setCell ⟨w.heap.size + 1 + 1 + 1 + 1 + 1, 0, none⟩ (.int .i64 0)).drew) ∧ Per c m day (nr + p) ∧ Fx w day ((nr + p : Nat) : Int) (bnd c m (nr + p)) (bnd c m (nr + p + 1)) 0 (((((W.setCell ⟨w.heap.size + 1 + 1, 0, none⟩ (.int .i64 (kq - 1))).setCell ⟨w.heap.size + 1 + 1 + 1, 0, none⟩ (.int .i64 lb)).setCell ⟨w.heap.size + 1 + 1 + 1 + 1, 0, none⟩ (.int .i64 bk)).setCell ⟨w.heap.size + 1 + 1 + 1 + 1 + 1, 0, none⟩ (.int .i64 0)).drew) from
          ⟨(((((KeepsOthers.setCell _ _ _).trans (KeepsOthers.setCell _ _ _)).trans (KeepsOthers.setCell _ _ _)).trans (KeepsOthers.setCell _ _ _)).trans (KeepsOthers.drew _)).from _, HP.out, by rw [← HK1.out, HB1.out, ← HL.out, HLB.out]; exact (HF.out.all _ _ _ _).drew⟩)
        gi_wp2
        rename_i KK aK
        apply cut_at KK (fun wr => wr = ((((W.setCell ⟨w.heap.size + 1 + 1, 0, none⟩ (.int .i64 (kq - 1))).setCell ⟨w.heap.size + 1 + 1 + 1, 0, none⟩ (.int .i64 lb)).setCell ⟨w.heap.size + 1 + 1 + 1 + 1, 0, none⟩ (.int .i64 bk)).setCell ⟨w.heap.size + 1 + 1 + 1 + 1 + 1, 0, none⟩ (.int .i64 0)).drew)
        case main =>
          intro hK
          gi_region_with_o (fail)
          all_goals exact hK _ rfl
        case rest =>
          rintro wr rfl
          gi_wp2
          exact ⟨HFIN.out.1, nr + p, ⟨rfl, HFIN.out.2.1⟩, HFIN.out.2.2⟩
      · gi_wp2
        refine ⟨(KeepsOthers.setCell _ _ _).from _, fun j hj => Below.heap_setCell _ _ _ _ (by simp; omega), fun i hi => ?_, ?_⟩
        · rcases Nat.lt_or_eq_of_le (Nat.le_of_lt_succ (by simpa using hi)) with h1 | rfl
          · exact HA.out i h1
          · rw [HBK.out]; omega
        · have hl1 : lastB c m nr (pre ++ [(kq, bk)]).length = bk := by
            rw [show (pre ++ [(kq, bk)]).length = pre.length + 1 by simp]
            exact HBK.out
          rw [hl1]
          exact HF.out.s5 _
    case done2 =>
      rintro xs W hS ⟨hall, hf⟩ hK
      have HZ := Lib.hid hz3
      clear hz3
      have HF := Lib.hid hf
      have HKK := Lib.hid hK
      have HNO := Lib.hid (show ∀ i, ¬ Per c m day i from fun i hp => by
        rcases Nat.lt_or_ge (i + 1) (nr + xs.length) with h1 | h1
        · rcases Nat.lt_or_ge (i + 1) nr with h2 | h2
          · have := bnd_le (i := i + 1) (j := nr) h hin (Nat.le_of_lt h2)
            have := HNR.out
            have := hp.2.2
            omega
          · have h3 := hall (i + 1 - nr) (by omega)
            rw [show nr + (i + 1 - nr) = i + 1 by omega] at h3
            have := hp.2.2
            omega
        · exact hS (Has.le h h1 hp.1))
      obtain ⟨cd, fd, ld⟩ := boxed_cells HF.out.d0
      obtain ⟨r4, f4, l4⟩ := boxed_cells HF.out.r4
      obtain ⟨r5, f5, l5⟩ := boxed_cells HF.out.r5
      obtain ⟨r6, f6, l6⟩ := boxed_cells HF.out.r6
      obtain ⟨r7, f7, l7⟩ := boxed_cells HF.out.r7
      clear hf hall hS hK
      gi_wp2
      have hK2 := (KeepsOthers.same ((((KeepsOthers.setCell W ⟨w.heap.size + 1 + 1, 0, none⟩ (.int .i64 0)).trans (KeepsOthers.setCell _ ⟨w.heap.size + 1 + 1 + 1, 0, none⟩ (.int .i64 0))).trans (KeepsOthers.setCell _ ⟨w.heap.size + 1 + 1 + 1 + 1, 0, none⟩ (.int .i64 0))).trans (KeepsOthers.setCell _ ⟨w.heap.size + 1 + 1 + 1 + 1 + 1, 0, none⟩ (.int .i64 7))) _ _ HKK.out rfl)
      refine ⟨by simp, .inl ⟨_, _, rfl, run_takeDeferred hK2, ?_⟩⟩
      have hx := (HF.out.all 0 0 0 7).put hK2 (by have := HZ.out; omega)
      exact ⟨_, res_find hx rfl rfl rfl rfl, Or.inr ⟨HNO.out, rfl⟩, hx.b⟩
    case stop2 =>
      rintro cd pre W _ ⟨i, ⟨rfl, hP⟩, hf⟩ hK
      have HZ := Lib.hid hz3
      clear hz3
      have HF := Lib.hid hf
      have HP := Lib.hid hP
      have HKK := Lib.hid hK
      clear hf hP hK
      gi_wp2
      refine ⟨by simp, .inl ⟨_, _, rfl, run_takeDeferred HKK.out, ?_⟩⟩
      have hx := HF.out.put HKK.out (by have := HZ.out; omega)
      exact ⟨_, res_find hx rfl rfl rfl rfl, Or.inl ⟨i, HP.out, rfl⟩, hx.b⟩
end Go.Proofs.YtjchecjonkmhgaaDoor.An
