/- Package subs: periods; what falls on days. -/
import Derived.Test.YtjchecjonkmhgaaDoorSuHead
import Derived.Test.YtjchecjonkmhgaaDoorSuBlk
import Derived.Test.YtjchecjonkmhgaaDoorSjF
import Derived.Deep.RegionHeld3
namespace Go.Proofs.YtjchecjonkmhgaaDoor.Su
open Go.RowKit Pr Cw An
/-- What falls on days of a period. -/
def onv (amt a b m : Int) : Int := if 0 ≤ amt ∧ amt < 4611686018427387904 ∧ 1 ≤ m ∧ m ≤ 3652059 ∧ 0 ≤ a ∧ a ≤ b ∧ b ≤ m then du amt b m - du amt a m else 0
theorem ov_iff (amt a b m : Int) : Ov amt a b m ↔ (0 ≤ amt ∧ amt < 4611686018427387904 ∧ 1 ≤ m ∧ m ≤ 3652059 ∧ 0 ≤ a ∧ a ≤ b ∧ b ≤ m) :=
  ⟨fun h => ⟨h.n.a0, h.n.a1, h.n.m0, h.n.m1, h.f.d0, h.le, h.n.d1⟩, fun ⟨h1, h2, h3, h4, h5, h6, h7⟩ => ⟨h6, ⟨h1, h2, h3, h4, by omega, h7⟩, ⟨h1, h2, h3, h4, h5, by omega⟩⟩⟩
theorem onv_bd (amt a b m : Int) : 0 ≤ onv amt a b m ∧ onv amt a b m < 4611686018427387904 := by
  unfold onv
  split
  · rename_i h
    have ho := (ov_iff amt a b m).2 h
    have := du_mono ho.f ho.le
    have := du_lo ho.f
    have := du_hi ho.n
    omega
  · omega
theorem on_c (amt a b m : Int) (w : World) : ∃ z, Calls Tryd.prog 50 #[.int .i64 amt, .int .i64 a, .int .i64 b, .int .i64 m] w fun e w' => e = .returned (.tuple #[.int .i64 (onv amt a b m), .int .i64 z]) ∧ Below w.heap.size w w' := by
  by_cases h : Ov amt a b m
  · refine ⟨0, ?_⟩
    have := on_ok amt a b m w h
    rwa [show du amt b m - du amt a m = onv amt a b m by unfold onv; rw [if_pos ((ov_iff amt a b m).1 h)]] at this
  · refine ⟨2, ?_⟩
    have := on_no amt a b m w h
    rwa [show (0 : Int) = onv amt a b m by unfold onv; rw [if_neg (fun k => h ((ov_iff amt a b m).2 k))]] at this
theorem ron_c (amt a b m : Int) (w : World) : ∃ z, Calls Tryd.prog 42 #[.int .i64 amt, .int .i64 a, .int .i64 b, .int .i64 m] w fun e w' => e = .returned (.tuple #[.int .i64 (onv amt a b m), .int .i64 z]) ∧ Below w.heap.size w w' := by
  by_cases h : Ov amt a b m
  · refine ⟨0, ?_⟩
    have := ron_ok amt a b m w h
    rwa [show du amt b m - du amt a m = onv amt a b m by unfold onv; rw [if_pos ((ov_iff amt a b m).1 h)]] at this
  · refine ⟨2, ?_⟩
    have := ron_no amt a b m w h
    rwa [show (0 : Int) = onv amt a b m by unfold onv; rw [if_neg (fun k => h ((ov_iff amt a b m).2 k))]] at this
def OnRes (q : Int) (w : World) (e : Ending) (w' : World) : Prop := ∃ z, e = .returned (.tuple #[.int .i64 q, .int .i64 z]) ∧ Below w.heap.size w w'
theorem on_r (amt a b m : Int) (w : World) : Calls Tryd.prog 50 #[.int .i64 amt, .int .i64 a, .int .i64 b, .int .i64 m] w (OnRes (onv amt a b m) w) := by
  obtain ⟨z, h⟩ := on_c amt a b m w
  exact h.mono fun e w' ⟨h1, h2⟩ => ⟨z, h1, h2⟩
theorem ron_r (amt a b m : Int) (w : World) : Calls Tryd.prog 42 #[.int .i64 amt, .int .i64 a, .int .i64 b, .int .i64 m] w (OnRes (onv amt a b m) w) := by
  obtain ⟨z, h⟩ := ron_c amt a b m w
  exact h.mono fun e w' ⟨h1, h2⟩ => ⟨z, h1, h2⟩
/-- A period. -/
structure Pd where
  k : Int
  f : Int
  n : Int
  u : Int
structure Pd.Small (p : Pd) : Prop where
  n0 : 1 ≤ p.n
  n1 : p.n ≤ 3652059
  u0 : -3652059 ≤ p.u
  u1 : p.u ≤ 3652059
abbrev Pd.cells (p : Pd) : Array Value := #[.int .i64 p.k, .int .i64 p.f, .int .i64 p.n, .int .i64 p.u]
abbrev Pd.val (p : Pd) : Value := .agg p.cells
/-- A box of one. -/
structure Px (g : Nat) (p : Pd) (w : World) : Prop where
  c0 : w.cell? ⟨g, 0, none⟩ = some (.int .i64 p.k)
  c1 : w.cell? ⟨g, 1, none⟩ = some (.int .i64 p.f)
  c2 : w.cell? ⟨g, 2, none⟩ = some (.int .i64 p.n)
  c3 : w.cell? ⟨g, 3, none⟩ = some (.int .i64 p.u)
  lt : g < w.heap.size
theorem Px.later {g : Nat} {p : Pd} {w w' : World} (h : Px g p w) (hb : Below w.heap.size w w') : Px g p w' := by
  have k : ∀ o, w'.cell? ⟨g, o, none⟩ = w.cell? ⟨g, o, none⟩ := fun o => hb.cell (by simpa using h.lt)
  exact ⟨by rw [k]; exact h.c0, by rw [k]; exact h.c1, by rw [k]; exact h.c2, by rw [k]; exact h.c3, Nat.lt_of_lt_of_le h.lt hb.size⟩
theorem Px.drew {g : Nat} {p : Pd} {w : World} (h : Px g p w) : Px g p w.drew := ⟨h.c0, h.c1, h.c2, h.c3, h.lt⟩
theorem Px.box (p : Pd) (w : World) (t : TypeId) : Px w.heap.size p (w.alloc (.cells p.cells t)) := by
  constructor <;> simp [go_sem]
theorem Px.pack {b g : Nat} {p : Pd} {w u : World} (h : Px g p u) (hb : Below b w u) :
    u.cell? ⟨g, 0, none⟩ = some (.int .i64 p.k) ∧ u.cell? ⟨g, 1, none⟩ = some (.int .i64 p.f) ∧ u.cell? ⟨g, 2, none⟩ = some (.int .i64 p.n) ∧ u.cell? ⟨g, 3, none⟩ = some (.int .i64 p.u) ∧ Px g p u ∧ Below b w u := ⟨h.c0, h.c1, h.c2, h.c3, h, hb⟩
def Pd.pl (p : Pd) (d : Int) : Int := p.u - (p.n - d)
theorem place_c (p : Pd) (d : Int) (w : World) (hp : p.Small) (h1 : 1 ≤ d) (h2 : d ≤ 3652059) : Calls Tryd.prog 51 #[p.val, .int .i64 d] w fun e w' => e = .returned (.int .i64 (p.pl d)) ∧ Below w.heap.size w w' := by
  obtain ⟨n0, n1, u0, u1⟩ := hp
  have HE := Lib.hid (show p.pl d = p.u - (p.n - d) from rfl)
  go_enter Tryd.func51, Tryd.ntmps51
  unfold Pd.val Pd.cells
  go_wp2_with fail
  go_ret
  exact ⟨ret_int (by rw [HE.out]), (Below.refl _ _).alloc (Nat.le_refl _) _⟩
set_option maxHeartbeats 1600000 in
theorem part_c (p : Pd) (price a b : Int) (w : World) (hp : p.Small) (a1 : 1 ≤ a) (a2 : a ≤ 3652059) (b1 : 1 ≤ b) (b2 : b ≤ 3652059) :
    Calls Tryd.prog 27 #[p.val, .int .i64 price, .int .i64 a, .int .i64 b] w fun e w' => e = .returned (.int .i64 (onv price (p.pl a) (p.pl b) p.u)) ∧ Below w.heap.size w w' := by
  have KA := Lib.hid (fun u => place_c p a u hp a1 a2)
  have KB := Lib.hid (fun u => place_c p b u hp b1 b2)
  have KO := Lib.hid (fun u => on_r price (p.pl a) (p.pl b) p.u u)
  clear hp a1 a2 b1 b2
  have J0 := Lib.hid (Px.box p w 70)
  have D0 := Lib.hid ((Below.refl _ w).alloc (Nat.le_refl _) (.cells p.cells 70))
  obtain ⟨q, hq⟩ : ∃ q, onv price (p.pl a) (p.pl b) p.u = q := ⟨_, rfl⟩
  rw [hq] at KO
  rw [hq]
  clear hq
  generalize p.pl a = x at *
  generalize p.pl b = y at *
  go_enter Tryd.func27, Tryd.ntmps27
  unfold Pd.val Pd.cells
  go_wp2_with fail
  go_region_held3 (fun u => u.cell? ⟨w.heap.size, 0, none⟩ = some (.int .i64 p.k) ∧ u.cell? ⟨w.heap.size, 1, none⟩ = some (.int .i64 p.f) ∧ u.cell? ⟨w.heap.size, 2, none⟩ = some (.int .i64 p.n) ∧ u.cell? ⟨w.heap.size, 3, none⟩ = some (.int .i64 p.u) ∧ Px w.heap.size p u ∧ Below w.heap.size w u)
    (first | exact Px.pack J0.out D0.out | exact Px.pack J0.out.drew D0.out.drew | exact Px.pack J3 D3 | exact Px.pack J2 D2 | exact Px.pack J1 D1)
    (first | (go_at_call 50; (try go_split_ands); refine (KO.out _).mono ?_; rintro e u3 ⟨z, rfl, b3⟩; have J3 := Px.later (by assumption) b3; have D3 := then_below (by assumption) b3) | (have hq := J1; go_at_call 51; (try go_split_ands); refine (KB.out _).mono ?_; rintro e u2 ⟨rfl, b2⟩; have J2 := Px.later (by assumption) b2; have D2 := then_below (by assumption) b2) | (go_at_call 51; (try go_split_ands); refine (KA.out _).mono ?_; rintro e u1 ⟨rfl, b1⟩; have J1 := Px.later (by assumption) b1; have D1 := then_below (by assumption) b1))
  go_split_ands
  go_wp2_with fail
  go_ret
  exact ⟨rfl, D3⟩
/-- Where a period ends. -/
def en (e n : Int) : Int := if e ≠ 0 ∧ e < n then e else n
theorem end_c (p : Pd) (s : Sb) (w : World) : Calls Tryd.prog 26 #[p.val, s.val] w fun e w' => e = .returned (.int .i64 (en s.e p.n)) ∧ Below w.heap.size w w' := by
  have D0 := Lib.hid (((Below.refl _ w).alloc (Nat.le_refl _) (.cells p.cells 70)).alloc (by simp) (.cells s.cells 26))
  have H1 := Lib.hid (show s.e = 0 → en s.e p.n = p.n from fun h => by unfold en; rw [if_neg (by omega)])
  have H2 := Lib.hid (show s.e ≠ 0 → s.e < p.n → en s.e p.n = s.e from fun h k => by unfold en; rw [if_pos ⟨h, k⟩])
  have H3 := Lib.hid (show ¬ s.e < p.n → en s.e p.n = p.n from fun h => by unfold en; rw [if_neg (by omega)])
  by_cases h0 : s.e = 0
  · have hv := Lib.hid (H1.out h0)
    have h0' : (s.e == 0) = true := by simpa using h0
    have HH := Lib.hid h0
    clear h0
    go_enter Tryd.func26, Tryd.ntmps26
    unfold Pd.val Pd.cells Sb.val Sb.cells
    go_wp2_with fail
    all_goals first | (exfalso; have := HH.out; omega) | (go_ret; exact ⟨ret_int hv.out.symm, D0.out⟩)
  · have h0' : (s.e == 0) = false := by simpa using h0
    have hmin : min p.n s.e = en s.e p.n := by
      by_cases h : s.e < p.n
      · rw [H2.out h0 h]; omega
      · rw [H3.out h]; omega
    have hmin' := Lib.hid hmin
    clear hmin H1 H2 H3
    go_enter Tryd.func26, Tryd.ntmps26
    unfold Pd.val Pd.cells Sb.val Sb.cells
    go_wp2_with fail
    all_goals (go_ret; exact ⟨ret_int (by first | exact hmin'.out | (rw [← hmin'.out]; omega)), D0.out⟩)
theorem rend_c (s : Sb) (n : Int) (w : World) : Calls Tryd.prog 30 #[s.val, .int .i64 n] w fun e w' => e = .returned (.int .i64 (en s.e n)) ∧ Below w.heap.size w w' := by
  have D0 := Lib.hid ((Below.refl _ w).alloc (Nat.le_refl _) (.cells s.cells 26))
  rcases (show s.e = 0 ∨ (s.e ≠ 0 ∧ s.e < n) ∨ (s.e ≠ 0 ∧ n ≤ s.e) by omega) with h | ⟨h, k⟩ | ⟨h, k⟩
  · have HV := Lib.hid (show en s.e n = n by unfold en; rw [if_neg (by omega)])
    have h0 : (s.e == 0) = true := by simpa using h
    have HH := Lib.hid h
    clear h
    go_enter Tryd.func30, Tryd.ntmps30
    unfold Sb.val Sb.cells
    go_wp2_with fail
    all_goals first | (exfalso; have := HH.out; omega) | (go_ret; exact ⟨ret_int HV.out.symm, by first | exact D0.out | exact (Below.refl _ _).alloc (Nat.le_refl _) _⟩)
  · have HV := Lib.hid (show en s.e n = s.e by unfold en; rw [if_pos ⟨h, k⟩])
    have h0 : (s.e == 0) = false := by simpa using h
    go_enter Tryd.func30, Tryd.ntmps30
    unfold Sb.val Sb.cells
    go_wp2_with fail
    go_ret
    exact ⟨ret_int HV.out.symm, D0.out⟩
  · have HV := Lib.hid (show en s.e n = n by unfold en; rw [if_neg (by omega)])
    have h0 : (s.e == 0) = false := by simpa using h
    have h1 : ¬ s.e < n := by omega
    go_enter Tryd.func30, Tryd.ntmps30
    unfold Sb.val Sb.cells
    go_wp2_with fail
    go_ret
    exact ⟨ret_int HV.out.symm, D0.out⟩
/-- Where a whole period ahead of a bound's month begins. -/
def bg (c : Cy) (md : Int) : Int := if 1 ≤ md - c.e then atv (md - c.e) c.a else 1
theorem bg_bd (c : Cy) (md : Int) (h : c.Ok) (m1 : 1 ≤ md) (m2 : md ≤ 119988) : 1 ≤ bg c md ∧ bg c md ≤ 3652059 := by
  have he := h.e0
  unfold bg
  split
  · rename_i k
    have a := atv_bd (md - c.e) c.a h.a0
    have := B_lo (md - c.e) k
    have := E_hi (md - c.e) (by omega)
    omega
  · omega
theorem res_per {W : World} {tmps : Array Value} {B : Nat} {a b c d : Value} (h8 : tmps[8]?.getD undef = .pointer (some ⟨B, 0, none⟩)) (h : Blk W B #[a, b, c, d] 70) :
    (results Tryd.f49 tmps).run Tryd.prog W = .ok (.agg #[a, b, c, d]) W := by
  have q0 : W.cell? ⟨B, 0, none⟩ = some a := h.cell 0
  have q1 : W.cell? ⟨B, 1, none⟩ = some b := h.cell 1
  have q2 : W.cell? ⟨B, 2, none⟩ = some c := h.cell 2
  have q3 : W.cell? ⟨B, 3, none⟩ = some d := h.cell 3
  simp [results, Tryd.results49, go_sem, h8, q0, q1, q2, q3]
set_option maxHeartbeats 1600000 in
theorem between_c (c : Cy) (md k f n : Int) (w : World) (hw : Tab w) (h : c.Ok) (hin : In md n) :
    Calls Tryd.prog 49 #[.agg #[.int .i64 c.s, .int .i64 c.a, .int .i64 c.e], .int .i64 k, .int .i64 f, .int .i64 n] w fun e w' => e = .returned (Pd.val ⟨k, f, n, n - bg c md⟩) ∧ Below w.heap.size w w' := by
  have HT := Lib.hid hw
  have m1 := hin.lo
  have m2 := hin.hi
  have hd := hin.day
  have hb := bg_bd c md h m1 m2
  have he := h.e0
  have he1 := h.e1
  have KF := Lib.hid (fun u hu => of_in hin u hu)
  have HX := Lib.hid (Cb.box c w)
  have D0 := Lib.hid (((Below.refl _ w).alloc (Nat.le_refl _) (.cells #[.int .i64 c.s, .int .i64 c.a, .int .i64 c.e] 24)).alloc (by simp) (.cells #[.int .i64 0, .int .i64 0, .int .i64 0, .int .i64 0] 70))
  by_cases hm : 1 ≤ md - c.e
  · have HV := Lib.hid (show bg c md = atv (md - c.e) c.a by unfold bg; rw [if_pos hm])
    have KA := Lib.hid (fun u hu => at_ok (md - c.e) c.a u hu hm (by omega) h.a0 h.a1)
    rw [HV.out] at hb ⊢
    clear hw h hin
    generalize atv (md - c.e) c.a = v at *
    go_enter Tryd.func49, Tryd.ntmps49
    go_wp2_with fail
    refine (KF.out _ (tab_later HT.out D0.out)).mono ?_
    rintro e w1 ⟨rfl, rfl⟩
    go_wp2_with fail
    refine (KA.out _ (tab_later HT.out D0.out)).mono ?_
    rintro e w2 ⟨rfl, b2⟩
    have HB := Lib.hid (show Blk w2 (w.heap.size + 1) #[.int .i64 0, .int .i64 0, .int .i64 0, .int .i64 0] 70 by have := Blk.later (Blk.new _ _ _) b2; rwa [World.size_alloc] at this)
    have D2 := Lib.hid (then_below D0.out b2)
    have r0 : w2.cell? ⟨w.heap.size + 1, 0, none⟩ = some (.int .i64 0) := HB.out.cell 0
    have r1 : w2.cell? ⟨w.heap.size + 1, 1, none⟩ = some (.int .i64 0) := HB.out.cell 1
    have r2 : w2.cell? ⟨w.heap.size + 1, 2, none⟩ = some (.int .i64 0) := HB.out.cell 2
    have r3 : w2.cell? ⟨w.heap.size + 1, 3, none⟩ = some (.int .i64 0) := HB.out.cell 3
    have f0 := HB.out.frozen 0
    have f1 := HB.out.frozen 1
    have f2 := HB.out.frozen 2
    have f3 := HB.out.frozen 3
    clear b2
    go_wp2_with fail
    exact bodyPost_ret (res_per rfl (HB.out.four _ _ _ _)) rfl ⟨rfl, below_four D2.out (by omega) _ _ _ _⟩
  · have HV := Lib.hid (show bg c md = 1 by unfold bg; rw [if_neg hm])
    have KA := Lib.hid (fun u hu => at_no (md - c.e) c.a u hu (Or.inl (by omega)))
    rw [HV.out] at hb ⊢
    clear hw h hin
    go_enter Tryd.func49, Tryd.ntmps49
    go_wp2_with fail
    refine (KF.out _ (tab_later HT.out D0.out)).mono ?_
    rintro e w1 ⟨rfl, rfl⟩
    go_wp2_with fail
    refine (KA.out _ (tab_later HT.out D0.out)).mono ?_
    rintro e w2 ⟨rfl, b2⟩
    have HB := Lib.hid (show Blk w2 (w.heap.size + 1) #[.int .i64 0, .int .i64 0, .int .i64 0, .int .i64 0] 70 by have := Blk.later (Blk.new _ _ _) b2; rwa [World.size_alloc] at this)
    have D2 := Lib.hid (then_below D0.out b2)
    have r0 : w2.cell? ⟨w.heap.size + 1, 0, none⟩ = some (.int .i64 0) := HB.out.cell 0
    have r1 : w2.cell? ⟨w.heap.size + 1, 1, none⟩ = some (.int .i64 0) := HB.out.cell 1
    have r2 : w2.cell? ⟨w.heap.size + 1, 2, none⟩ = some (.int .i64 0) := HB.out.cell 2
    have r3 : w2.cell? ⟨w.heap.size + 1, 3, none⟩ = some (.int .i64 0) := HB.out.cell 3
    have f0 := HB.out.frozen 0
    have f1 := HB.out.frozen 1
    have f2 := HB.out.frozen 2
    have f3 := HB.out.frozen 3
    clear b2
    go_wp2_with fail
    exact bodyPost_ret (res_per rfl (HB.out.four _ _ _ _)) rfl ⟨rfl, below_four D2.out (by omega) _ _ _ _⟩
set_option maxHeartbeats 3200000 in
theorem ron_s (s : Sb) (md n price a b : Int) (w : World) (h : s.c.Ok) (hin : In md n) (a1 : 1 ≤ a) (a2 : a ≤ 3652059) (b1 : 1 ≤ b) (b2 : b ≤ 3652059) :
    Calls Tryd.prog 22 #[s.val, .int .i64 n, .int .i64 price, .int .i64 a, .int .i64 b] w fun e w' => e = .returned (.int .i64 (onv price (n - bg s.c md - (n - a)) (n - bg s.c md - (n - b)) (n - bg s.c md))) ∧ Below w.heap.size w w' := by
  have m1 := hin.lo
  have m2 := hin.hi
  have hd := hin.day
  have hb := bg_bd s.c md h m1 m2
  have he := h.e0
  have he1 := h.e1
  have KF := Lib.hid (fun u => rof_in hin u)
  have D0 := Lib.hid ((Below.refl _ w).alloc (Nat.le_refl _) (.cells s.cells 26))
  have KO := Lib.hid (fun u => ron_r price (n - bg s.c md - (n - a)) (n - bg s.c md - (n - b)) (n - bg s.c md) u)
  obtain ⟨q, hq⟩ : ∃ q, onv price (n - bg s.c md - (n - a)) (n - bg s.c md - (n - b)) (n - bg s.c md) = q := ⟨_, rfl⟩
  rw [hq] at KO ⊢
  clear hq
  by_cases hm : 1 ≤ md - s.c.e
  · have HV := Lib.hid (show bg s.c md = atv (md - s.c.e) s.c.a by unfold bg; rw [if_pos hm])
    have KA := Lib.hid (fun u => rat_ok (md - s.c.e) s.c.a u hm (by omega) h.a0 h.a1)
    rw [HV.out] at hb KO
    clear h hin HV
    generalize atv (md - s.c.e) s.c.a = v at *
    go_enter Tryd.func22, Tryd.ntmps22
    unfold Sb.val Sb.cells
    go_wp2_with fail
    refine (KF.out _).mono ?_
    rintro e w1 ⟨rfl, rfl⟩
    go_wp2_with fail
    refine (KA.out _).mono ?_
    rintro e w2 ⟨rfl, rfl⟩
    go_wp2_with fail
    refine (KO.out _).mono ?_
    rintro e w3 ⟨z, rfl, b3⟩
    go_wp2_with fail
    go_ret
    exact ⟨rfl, then_below D0.out b3⟩
  · have HV := Lib.hid (show bg s.c md = 1 by unfold bg; rw [if_neg hm])
    have KA := Lib.hid (fun u => rat_no (md - s.c.e) s.c.a u (Or.inl (by omega)))
    rw [HV.out] at hb KO
    clear h hin HV
    go_enter Tryd.func22, Tryd.ntmps22
    unfold Sb.val Sb.cells
    go_wp2_with fail
    refine (KF.out _).mono ?_
    rintro e w1 ⟨rfl, rfl⟩
    go_wp2_with fail
    refine (KA.out _).mono ?_
    rintro e w2 ⟨rfl, rfl⟩
    go_wp2_with fail
    refine (KO.out _).mono ?_
    rintro e w3 ⟨z, rfl, b3⟩
    go_wp2_with fail
    go_ret
    exact ⟨rfl, then_below D0.out b3⟩
end Go.Proofs.YtjchecjonkmhgaaDoor.Su
