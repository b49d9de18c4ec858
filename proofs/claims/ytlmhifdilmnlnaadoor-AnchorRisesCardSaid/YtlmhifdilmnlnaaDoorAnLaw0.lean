/- Package anchor against the document's; known answers. -/
import Derived.Test.YtlmhifdilmnlnaaDoorAnFind
import Derived.Test.YtlmhifdilmnlnaaDoorAnRFind
namespace Go.Proofs.YtlmhifdilmnlnaaDoor.An
open Go.RowKit Pr Cw Rf
theorem day_c (y m d v : Int) (w : World) (h : Cw.Valid y m d) (hv : Civ.U y m + d = v) : Calls Tryd.prog 53 #[.int .i64 y, .int .i64 m, .int .i64 d] w fun e w' => e = .returned (.int .i64 v) ∧ w = w' := by
  have K := Lib.hid (fun w => (hv ▸ Cw.rday_yes y m d w h : Calls Tryd.prog 41 #[.int .i64 y, .int .i64 m, .int .i64 d] w fun e w' => e = .returned (.tuple #[.int .i64 v, .int .i64 0]) ∧ w = w'))
  clear h hv
  go_enter Tryd.func53, Tryd.ntmps53
  go_wp2_with fail
  refine (K.out _).mono ?_
  rintro e w' ⟨rfl, rfl⟩
  go_wp2_with fail
  go_ret
  exact ⟨rfl, rfl⟩
theorem bound_is (c : Cy) (m : Int) (j : Nat) (q b : Int) (w : World) (hq : (j : Int) = q) (hw : Tab w) (h : c.Ok) (hin : In m c.s) (hh : Has c m j) (hb : bnd c m j = b) :
    Calls Tryd.prog 32 #[c.val, .int .i64 q] w fun e w' => e = .returned (.tuple #[.int .i64 b, .int .i64 0]) ∧ Below w.heap.size w w' := by
  subst hb hq; exact (bound_in c m j w hw h hin).mono fun e w' hr => ⟨hr.1 hh, hr.2.2⟩
theorem bound_none (c : Cy) (m : Int) (j : Nat) (q : Int) (w : World) (hq : (j : Int) = q) (hw : Tab w) (h : c.Ok) (hin : In m c.s) (hh : ¬ Has c m j) :
    Calls Tryd.prog 32 #[c.val, .int .i64 q] w fun e w' => e = .returned (.tuple #[.int .i64 0, .int .i64 7]) ∧ Below w.heap.size w w' := by
  subst hq; exact (bound_in c m j w hw h hin).mono fun e w' hr => ⟨hr.2.1 hh, hr.2.2⟩
theorem FindRes.is {c : Cy} {m day : Int} {i : Nat} {w : World} {e : Ending} {w' : World} (h : c.Ok) (hin : In m c.s) (hp : Per c m day i) (hr : FindRes c m day w e w') : e = .returned (.tuple #[.int .i64 (i : Int), .int .i64 (bnd c m i), .int .i64 (bnd c m (i + 1)), .int .i64 0]) ∧ Below w.heap.size w w' := by
  obtain ⟨⟨j, hj, he⟩ | ⟨hn, he⟩, hb⟩ := hr
  · obtain rfl := Per.one h hin hp hj
    exact ⟨he, hb⟩
  · exact absurd hp (hn i)
theorem FindRes.none {c : Cy} {m day : Int} {w : World} {e : Ending} {w' : World} (hp : ∀ i, ¬ Per c m day i) (hr : FindRes c m day w e w') : e = .returned (.tuple #[.int .i64 0, .int .i64 0, .int .i64 0, .int .i64 7]) ∧ Below w.heap.size w w' := by
  obtain ⟨⟨j, hj, _⟩ | ⟨_, he⟩, hb⟩ := hr
  · exact absurd hj (hp j)
  · exact ⟨he, hb⟩
theorem find_all (c : Cy) (m day : Int) (w : World) (hw : Tab w) (h : c.Ok) (hin : In m c.s) (d1 : 1 ≤ day) (d2 : day ≤ 3652059) : Calls Tryd.prog 34 #[c.val, .int .i64 day] w (FindRes c m day w) := by
  by_cases hs : day < c.s
  · exact find_early c m day w h hin (by unfold dayB; rw [decide_eq_true d1, decide_eq_true d2]; rfl) hs
  · obtain ⟨md, hmd⟩ := In.ex day d1 d2
    exact find_in c m md day w hw h hin hmd (by omega)
theorem find_is (c : Cy) (m day : Int) (i : Nat) (a b d : Int) (w : World) (hw : Tab w) (h : c.Ok) (hin : In m c.s) (d1 : 1 ≤ day) (d2 : day ≤ 3652059) (hp : Per c m day i) (ha : (i : Int) = a) (hb : bnd c m i = b) (hd : bnd c m (i + 1) = d) :
    Calls Tryd.prog 34 #[c.val, .int .i64 day] w fun e w' => e = .returned (.tuple #[.int .i64 a, .int .i64 b, .int .i64 d, .int .i64 0]) ∧ Below w.heap.size w w' := by
  subst ha hb hd; exact (find_all c m day w hw h hin d1 d2).mono fun e w' hr => hr.is h hin hp
theorem find_none (c : Cy) (m day : Int) (w : World) (hw : Tab w) (h : c.Ok) (hin : In m c.s) (d1 : 1 ≤ day) (d2 : day ≤ 3652059) (hp : ∀ i, ¬ Per c m day i) :
    Calls Tryd.prog 34 #[c.val, .int .i64 day] w fun e w' => e = .returned (.tuple #[.int .i64 0, .int .i64 0, .int .i64 0, .int .i64 7]) ∧ Below w.heap.size w w' :=
  (find_all c m day w hw h hin d1 d2).mono fun _ _ hr => hr.none hp
/-- The cycle of the known answers, and its month. -/
def cA : Cy := ⟨738916, 31, 1⟩
def cB : Cy := ⟨738895, 15, 3⟩
def cC : Cy := ⟨738900, 15, 3⟩
theorem okA : cA.Ok := ⟨by decide, by decide, by decide, by decide, by decide, by decide⟩
theorem okB' : cB.Ok := ⟨by decide, by decide, by decide, by decide, by decide, by decide⟩
theorem okC : cC.Ok := ⟨by decide, by decide, by decide, by decide, by decide, by decide⟩
theorem inA : In 24277 cA.s := ⟨by decide, by decide, by decide, by decide⟩
theorem inB : In 24277 cB.s := ⟨by decide, by decide, by decide, by decide⟩
theorem inC : In 24277 cC.s := ⟨by decide, by decide, by decide, by decide⟩
theorem hasA1 : Has cA 24277 1 := Or.inr (by decide)
theorem hasA2 : Has cA 24277 2 := Or.inr (by decide)
theorem hasB1 : Has cB 24277 1 := Or.inr (by decide)
theorem hasC1 : Has cC 24277 1 := Or.inr (by decide)
theorem perA : Per cA 24277 738944 0 := ⟨hasA1, by decide, by decide⟩
theorem packA {b g : Nat} {w u : World} (h : Cb g cA u) (hb : Below b w u) :
    u.cell? ⟨g, 0, none⟩ = some (.int .i64 738916) ∧ u.cell? ⟨g, 1, none⟩ = some (.int .i64 31) ∧ u.cell? ⟨g, 2, none⟩ = some (.int .i64 1) ∧ Cb g cA u ∧ Below b w u := ⟨h.c0, h.c1, h.c2, h, hb⟩
set_option maxRecDepth 100000 in
set_option maxHeartbeats 2000000 in
theorem head_c (w : World) (hw : Tab w) : Calls Tryd.prog 31 #[] w fun e w' => e = .returned (.bool true) ∧ Below w.heap.size w w' := by
  have HT := Lib.hid hw
  have d1 := Lib.hid (fun w => day_c 2024 1 31 738916 w ⟨by omega, by omega, by omega, by omega, by omega, by decide⟩ (by decide))
  have d2 := Lib.hid (fun w => day_c 2024 2 28 738944 w ⟨by omega, by omega, by omega, by omega, by omega, by decide⟩ (by decide))
  have d3 := Lib.hid (fun w => day_c 2024 1 10 738895 w ⟨by omega, by omega, by omega, by omega, by omega, by decide⟩ (by decide))
  have d4 := Lib.hid (fun w => day_c 2024 1 15 738900 w ⟨by omega, by omega, by omega, by omega, by omega, by decide⟩ (by decide))
  have d5 := Lib.hid (fun w => day_c 2024 1 30 738915 w ⟨by omega, by omega, by omega, by omega, by omega, by decide⟩ (by decide))
  have d6 := Lib.hid (fun w => day_c 2024 2 29 738945 w ⟨by omega, by omega, by omega, by omega, by omega, by decide⟩ (by decide))
  have d7 := Lib.hid (fun w => day_c 2024 3 31 738976 w ⟨by omega, by omega, by omega, by omega, by omega, by decide⟩ (by decide))
  have d8 := Lib.hid (fun w => day_c 2024 4 15 738991 w ⟨by omega, by omega, by omega, by omega, by omega, by decide⟩ (by decide))
  have k1 := Lib.hid (fun w hw => (show Calls Tryd.prog 32 #[.agg #[.int .i64 738916, .int .i64 31, .int .i64 1], .int .i64 1] w fun e w' => e = .returned (.tuple #[.int .i64 738945, .int .i64 0]) ∧ Below w.heap.size w w' from bound_is cA 24277 1 1 738945 w rfl hw okA inA hasA1 (by decide)))
  have k2 := Lib.hid (fun w hw => (show Calls Tryd.prog 32 #[.agg #[.int .i64 738916, .int .i64 31, .int .i64 1], .int .i64 2] w fun e w' => e = .returned (.tuple #[.int .i64 738976, .int .i64 0]) ∧ Below w.heap.size w w' from bound_is cA 24277 2 2 738976 w rfl hw okA inA hasA2 (by decide)))
  have k3 := Lib.hid (fun w hw => (show Calls Tryd.prog 34 #[.agg #[.int .i64 738916, .int .i64 31, .int .i64 1], .int .i64 738944] w fun e w' => e = .returned (.tuple #[.int .i64 0, .int .i64 738916, .int .i64 738945, .int .i64 0]) ∧ Below w.heap.size w w' from find_is cA 24277 738944 0 0 738916 738945 w hw okA inA (by omega) (by omega) perA rfl rfl (by decide)))
  have k4 := Lib.hid (fun w hw => (show Calls Tryd.prog 32 #[.agg #[.int .i64 738895, .int .i64 15, .int .i64 3], .int .i64 1] w fun e w' => e = .returned (.tuple #[.int .i64 738900, .int .i64 0]) ∧ Below w.heap.size w w' from bound_is cB 24277 1 1 738900 w rfl hw okB' inB hasB1 (by decide)))
  have k5 := Lib.hid (fun w hw => (show Calls Tryd.prog 32 #[.agg #[.int .i64 738900, .int .i64 15, .int .i64 3], .int .i64 1] w fun e w' => e = .returned (.tuple #[.int .i64 738991, .int .i64 0]) ∧ Below w.heap.size w w' from bound_is cC 24277 1 1 738991 w rfl hw okC inC hasC1 (by decide)))
  have k6 := Lib.hid (fun w hw => (show Calls Tryd.prog 34 #[.agg #[.int .i64 738916, .int .i64 31, .int .i64 1], .int .i64 738915] w fun e w' => e = .returned (.tuple #[.int .i64 0, .int .i64 0, .int .i64 0, .int .i64 7]) ∧ Below w.heap.size w w' from find_none cA 24277 738915 w hw okA inA (by omega) (by omega) (none_early okA inA (by decide))))
  have k7 := Lib.hid (fun w => (show Calls Tryd.prog 29 #[.agg #[.int .i64 1, .int .i64 32, .int .i64 1]] w fun e w' => e = .returned (.int .i64 2) ∧ Below w.heap.size w w' from check_no ⟨1, 32, 1⟩ w (fun h => by have := h.a1; simp at this)))
  have I0 := Lib.hid (Cb.box cA w)
  have B0 := Lib.hid ((Below.refl _ w).alloc (Nat.le_refl _) (.cells #[.int .i64 cA.s, .int .i64 cA.a, .int .i64 cA.e] 56))
  clear hw
  go_enter Tryd.func31, Tryd.ntmps31
  go_wp2_with fail
  refine (d1.out _).mono ?_
  rintro e w' ⟨rfl, rfl⟩
  go_wp2_with fail
  refine (k1.out _ (tab_later HT.out B0.out)).mono ?_
  rintro e w1 ⟨rfl, b1⟩
  have C1 := Lib.hid (I0.out.later b1)
  have D1 := Lib.hid (then_below B0.out b1)
  clear b1
  obtain ⟨a0, a1, a2, alt⟩ := C1.out
  simp only [cA] at a0 a1 a2
  go_wp2_with fail
  refine (k2.out _ (tab_later HT.out D1.out)).mono ?_
  rintro e w2 ⟨rfl, b2⟩
  have C2 := Lib.hid (C1.out.later b2)
  have D2 := Lib.hid (then_below D1.out b2)
  clear b2 a0 a1 a2 alt
  obtain ⟨a0, a1, a2, alt⟩ := C2.out
  simp only [cA] at a0 a1 a2
  go_wp2_with fail
  go_region_held3 (fun u => u.cell? ⟨w.heap.size, 0, none⟩ = some (.int .i64 738916) ∧ u.cell? ⟨w.heap.size, 1, none⟩ = some (.int .i64 31) ∧ u.cell? ⟨w.heap.size, 2, none⟩ = some (.int .i64 1) ∧ Cb w.heap.size cA u ∧ Below w.heap.size w u)
    (first | exact packA C2.out D2.out | exact packA C2.out.drew D2.out.drew | exact packA J1 G1)
    (first | (go_at_call 53; (try go_split_ands); refine (d2.out _).mono ?_; rintro e u1 ⟨rfl, rfl⟩) | (go_at_call 34; (try go_split_ands); refine (k3.out _ (tab_later HT.out (by assumption))).mono ?_; rintro e u2 ⟨rfl, b2⟩; have J1 := Cb.later (by assumption) b2; have G1 := then_below (by assumption) b2))
  go_split_ands
  have C3 := Lib.hid J1
  have D3 := Lib.hid G1
  clear a0 a1 a2 alt
  obtain ⟨a0, a1, a2, alt⟩ := C3.out
  simp only [cA] at a0 a1 a2
  clear J1 G1
  go_wp2_with fail
  refine (d3.out _).mono ?_
  rintro e w' ⟨rfl, rfl⟩
  go_wp2_with fail
  refine (k4.out _ (tab_later HT.out D3.out)).mono ?_
  rintro e w4 ⟨rfl, b4⟩
  have C4 := Lib.hid (C3.out.later b4)
  have D4 := Lib.hid (then_below D3.out b4)
  clear b4 a0 a1 a2 alt
  obtain ⟨a0, a1, a2, alt⟩ := C4.out
  simp only [cA] at a0 a1 a2
  go_wp2_with fail
  refine (d4.out _).mono ?_
  rintro e w' ⟨rfl, rfl⟩
  go_wp2_with fail
  refine (k5.out _ (tab_later HT.out D4.out)).mono ?_
  rintro e w5 ⟨rfl, b5⟩
  have C5 := Lib.hid (C4.out.later b5)
  have D5 := Lib.hid (then_below D4.out b5)
  clear b5 a0 a1 a2 alt
  obtain ⟨a0, a1, a2, alt⟩ := C5.out
  simp only [cA] at a0 a1 a2
  go_wp2_with fail
  go_region_held3 (fun u => u.cell? ⟨w.heap.size, 0, none⟩ = some (.int .i64 738916) ∧ u.cell? ⟨w.heap.size, 1, none⟩ = some (.int .i64 31) ∧ u.cell? ⟨w.heap.size, 2, none⟩ = some (.int .i64 1) ∧ Cb w.heap.size cA u ∧ Below w.heap.size w u)
    (first | exact packA C5.out D5.out | exact packA C5.out.drew D5.out.drew | exact packA J1 G1)
    (first | (go_at_call 53; (try go_split_ands); refine (d5.out _).mono ?_; rintro e u1 ⟨rfl, rfl⟩) | (go_at_call 34; (try go_split_ands); refine (k6.out _ (tab_later HT.out (by assumption))).mono ?_; rintro e u2 ⟨rfl, b2⟩; have J1 := Cb.later (by assumption) b2; have G1 := then_below (by assumption) b2))
  go_split_ands
  have C6 := Lib.hid J1
  have D6 := Lib.hid G1
  clear a0 a1 a2 alt
  obtain ⟨a0, a1, a2, alt⟩ := C6.out
  simp only [cA] at a0 a1 a2
  clear J1 G1
  go_wp2_with fail
  refine (d6.out _).mono ?_
  rintro e w' ⟨rfl, rfl⟩
  go_wp2_with fail
  refine (d7.out _).mono ?_
  rintro e w' ⟨rfl, rfl⟩
  go_wp2_with fail
  refine (d4.out _).mono ?_
  rintro e w' ⟨rfl, rfl⟩
  go_wp2_with fail
  refine (d8.out _).mono ?_
  rintro e w' ⟨rfl, rfl⟩
  go_wp2_with fail
  refine (k7.out _).mono ?_
  rintro e w7 ⟨rfl, b7⟩
  have D7 := Lib.hid (then_below D6.out b7)
  clear b7
  go_wp2_with fail
  go_ret
  exact ⟨rfl, D7.out⟩
end Go.Proofs.YtlmhifdilmnlnaaDoor.An
