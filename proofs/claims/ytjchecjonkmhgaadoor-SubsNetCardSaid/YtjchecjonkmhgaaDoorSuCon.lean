/- Package subs: the period that contains a day; what computes the part of a price; states; lists that are the same. -/
import Derived.Test.YtjchecjonkmhgaaDoorSuRDue
import Derived.Test.YtjchecjonkmhgaaDoorAoFind
namespace Go.Proofs.YtjchecjonkmhgaaDoor.Su
open Go.RowKit Pr Cw An Rf
theorem find_all (c : Cy) (m day : Int) (w : World) (hw : Tab w) (h : c.Ok) (hin : In m c.s) (hd : 1 ≤ day ∧ day ≤ 3652059) :
    Calls Tryd.prog 57 #[.agg #[.int .i64 c.s, .int .i64 c.a, .int .i64 c.e], .int .i64 day] w (FindRes c m day w) := by
  rcases Int.lt_or_le day c.s with hs | hs
  · exact find_early c m day w h hin (dayB_yes hd.1 hd.2) hs
  · obtain ⟨md, hmd⟩ := In.ex day hd.1 hd.2
    exact find_in c m md day w hw h hin hmd hs
theorem per_yes (c : Cy) (m day : Int) (k : Nat) (w : World) (hw : Tab w) (h : c.Ok) (hin : In m c.s) (hd : 1 ≤ day ∧ day ≤ 3652059) (hp : Per c m day k) :
    Calls Tryd.prog 57 #[.agg #[.int .i64 c.s, .int .i64 c.a, .int .i64 c.e], .int .i64 day] w fun e w' => e = .returned (.tuple #[.int .i64 (k : Int), .int .i64 (bnd c m k), .int .i64 (bnd c m (k + 1)), .int .i64 0]) ∧ Below w.heap.size w w' :=
  (find_all c m day w hw h hin hd).mono fun e w' hr => by
    rcases hr.1 with ⟨i, hi, he⟩ | ⟨hn, _⟩
    · obtain rfl := Per.one h hin hi hp
      exact ⟨he, hr.2⟩
    · exact absurd hp (hn k)
theorem per_no (c : Cy) (m day : Int) (w : World) (hw : Tab w) (h : c.Ok) (hin : In m c.s) (hd : 1 ≤ day ∧ day ≤ 3652059) (hp : ∀ k, ¬ Per c m day k) :
    Calls Tryd.prog 57 #[.agg #[.int .i64 c.s, .int .i64 c.a, .int .i64 c.e], .int .i64 day] w fun e w' => e = .returned (.tuple #[.int .i64 0, .int .i64 0, .int .i64 0, .int .i64 7]) ∧ Below w.heap.size w w' :=
  (find_all c m day w hw h hin hd).mono fun e w' hr => by
    rcases hr.1 with ⟨i, hi, he⟩ | ⟨_, he⟩
    · exact absurd hi (hp i)
    · exact ⟨he, hr.2⟩
theorem rper_yes (c : Cy) (m day : Int) (k : Nat) (w : World) (h : c.Ok) (hin : In m c.s) (hd : 1 ≤ day ∧ day ≤ 3652059) (hp : Per c m day k) :
    Calls Tryd.prog 38 #[.agg #[.int .i64 c.s, .int .i64 c.a, .int .i64 c.e], .int .i64 day] w fun e w' => e = .returned (.tuple #[.int .i64 (k : Int), .int .i64 (bnd c m k), .int .i64 (bnd c m (k + 1)), .int .i64 0]) ∧ Below w.heap.size w w' :=
  (rfind_in c m day w h hin hd.1 hd.2).mono fun e w' hr => by
    rcases hr.1 with ⟨i, hi, he⟩ | ⟨hn, _⟩
    · obtain rfl := Per.one h hin hi hp
      exact ⟨he, hr.2⟩
    · exact absurd hp (hn k)
theorem rper_no (c : Cy) (m day : Int) (w : World) (h : c.Ok) (hin : In m c.s) (hd : 1 ≤ day ∧ day ≤ 3652059) (hp : ∀ k, ¬ Per c m day k) :
    Calls Tryd.prog 38 #[.agg #[.int .i64 c.s, .int .i64 c.a, .int .i64 c.e], .int .i64 day] w fun e w' => e = .returned (.tuple #[.int .i64 0, .int .i64 0, .int .i64 0, .int .i64 7]) ∧ Below w.heap.size w w' :=
  (rfind_in c m day w h hin hd.1 hd.2).mono fun e w' hr => by
    rcases hr.1 with ⟨i, hi, he⟩ | ⟨_, he⟩
    · exact absurd hi (hp i)
    · exact ⟨he, hr.2⟩
theorem res_con {W : World} {tmps : Array Value} {B : Nat} {a b c d : Value} {z : Int} (h4 : tmps[4]?.getD undef = .pointer (some ⟨B, 0, none⟩)) (h5 : tmps[5]?.getD undef = .int .i64 z) (h : Blk W B #[a, b, c, d] 70) :
    (results Tryd.f35 tmps).run Tryd.prog W = .ok (.tuple #[.agg #[a, b, c, d], .int .i64 z]) W := by
  have q0 : W.cell? ⟨B, 0, none⟩ = some a := h.cell 0
  have q1 : W.cell? ⟨B, 1, none⟩ = some b := h.cell 1
  have q2 : W.cell? ⟨B, 2, none⟩ = some c := h.cell 2
  have q3 : W.cell? ⟨B, 3, none⟩ = some d := h.cell 3
  simp [results, Tryd.results35, go_sem, h4, h5, q0, q1, q2, q3]
def Pd.none : Pd := ⟨0, 0, 0, 0⟩
theorem blk_four {W : World} {B : Nat} {t : TypeId} (h : Blk W B #[.int .i64 0, .int .i64 0, .int .i64 0, .int .i64 0] t) :
    W.cell? ⟨B, 0, Option.none⟩ = some (.int .i64 0) ∧ W.cell? ⟨B, 1, Option.none⟩ = some (.int .i64 0) ∧ W.cell? ⟨B, 2, Option.none⟩ = some (.int .i64 0) ∧ W.cell? ⟨B, 3, Option.none⟩ = some (.int .i64 0) ∧
    W.frozen? ⟨B, 0, Option.none⟩ = false ∧ W.frozen? ⟨B, 1, Option.none⟩ = false ∧ W.frozen? ⟨B, 2, Option.none⟩ = false ∧ W.frozen? ⟨B, 3, Option.none⟩ = false :=
  ⟨h.cell 0, h.cell 1, h.cell 2, h.cell 3, h.frozen 0, h.frozen 1, h.frozen 2, h.frozen 3⟩
/-- The blocks of a call of containing. -/
structure Nx (w : World) (s : Sb) (W : World) : Prop where
  s : Blk W w.heap.size s.cells 26
  r : Blk W (w.heap.size + 1) #[.int .i64 0, .int .i64 0, .int .i64 0, .int .i64 0] 70
  b : Below w.heap.size w W
theorem Nx.later {w : World} {s : Sb} {W W' : World} (h : Nx w s W) (k : Below W.heap.size W W') : Nx w s W' := ⟨h.s.later k, h.r.later k, h.b.trans (k.mono h.b.size)⟩
theorem nx_new (w : World) (s : Sb) : Nx w s ((w.alloc (.cells s.cells 26)).alloc (.cells #[.int .i64 0, .int .i64 0, .int .i64 0, .int .i64 0] 70)) := by
  refine ⟨(Blk.new w _ _).alloc _, ?_, ((Below.refl _ w).alloc (Nat.le_refl _) _).alloc (by simp) _⟩
  have := Blk.new (w.alloc (.cells s.cells 26)) #[.int .i64 0, .int .i64 0, .int .i64 0, .int .i64 0] 70
  rwa [World.size_alloc] at this
set_option maxRecDepth 100000 in
set_option maxHeartbeats 1600000 in
theorem con_yes (s : Sb) (m day : Int) (k : Nat) (w : World) (hw : Tab w) (h : s.c.Ok) (hin : In m s.c.s) (hd : 1 ≤ day ∧ day ≤ 3652059) (hp : Per s.c m day k) :
    Calls Tryd.prog 35 #[s.val, .int .i64 day] w fun e w' => e = .returned (.tuple #[(per s.c m k).val, .int .i64 0]) ∧ Below w.heap.size w w' := by
  have KF := Lib.hid (fun u hu => per_yes s.c m day k u hu h hin hd hp)
  have KB := Lib.hid (fun u hu => between_c s.c (mo s.c m k) (k : Int) (bnd s.c m k) (bnd s.c m (k + 1)) u hu h (mo_in h hin hp.1))
  have HP := Lib.hid (show (per s.c m k).val = Pd.val ⟨(k : Int), bnd s.c m k, bnd s.c m (k + 1), bnd s.c m (k + 1) - bg s.c (mo s.c m k)⟩ from rfl)
  have HT := Lib.hid hw
  have D0 := Lib.hid (nx_new w s)
  clear hp hd
  generalize bnd s.c m (k + 1) - bg s.c (mo s.c m k) = fu at *
  go_enter Tryd.func35, Tryd.ntmps35
  unfold Sb.val Sb.cells
  go_wp2_with fail
  refine (KF.out _ (tab_later HT.out D0.out.b)).mono ?_
  rintro e w1 ⟨rfl, b1⟩
  have D1 := Lib.hid (D0.out.later b1)
  clear b1
  obtain ⟨x0, x1, x2, x3, x4, x5, x6, x7, x8, x9, xlt⟩ := Sx.of D1.out.s
  go_wp2_with fail
  refine (KB.out _ (tab_later HT.out D1.out.b)).mono ?_
  rintro e w2 ⟨rfl, b2⟩
  have D2 := Lib.hid (D1.out.later b2)
  clear b2 x0 x1 x2 x3 x4 x5 x6 x7 x8 x9 xlt
  obtain ⟨y0, y1, y2, y3, z0, z1, z2, z3⟩ := blk_four D2.out.r
  go_wp2_with fail
  exact bodyPost_ret (res_con rfl rfl (D2.out.r.four _ _ _ _)) rfl ⟨by rw [HP.out], below_four D2.out.b (by omega) _ _ _ _⟩
set_option maxRecDepth 100000 in
set_option maxHeartbeats 1600000 in
theorem con_no (s : Sb) (m day : Int) (w : World) (hw : Tab w) (h : s.c.Ok) (hin : In m s.c.s) (hd : 1 ≤ day ∧ day ≤ 3652059) (hp : ∀ k, ¬ Per s.c m day k) :
    Calls Tryd.prog 35 #[s.val, .int .i64 day] w fun e w' => e = .returned (.tuple #[Pd.none.val, .int .i64 7]) ∧ Below w.heap.size w w' := by
  have KF := Lib.hid (fun u hu => per_no s.c m day u hu h hin hd hp)
  have HT := Lib.hid hw
  have D0 := Lib.hid (nx_new w s)
  clear hp hd
  go_enter Tryd.func35, Tryd.ntmps35
  unfold Sb.val Sb.cells
  go_wp2_with fail
  refine (KF.out _ (tab_later HT.out D0.out.b)).mono ?_
  rintro e w1 ⟨rfl, b1⟩
  have D1 := Lib.hid (D0.out.later b1)
  clear b1
  obtain ⟨y0, y1, y2, y3, z0, z1, z2, z3⟩ := blk_four D1.out.r
  go_wp2_with fail
  exact bodyPost_ret (res_con rfl rfl (D1.out.r.four _ _ _ _)) rfl ⟨rfl, below_four D1.out.b (by omega) _ _ _ _⟩
theorem days_c (F : Value) (a b : Int) (w : World) (hF : F.oneCell' = true) :
    Calls Tryd.prog 36 #[F, .int .i64 a, .int .i64 b] w fun e w' => e = .returned (.func (.func 58) #[] #[.pointer (some ⟨w.heap.size, 0, none⟩), .pointer (some ⟨w.heap.size + 1, 0, none⟩), .pointer (some ⟨w.heap.size + 1 + 1, 0, none⟩)]) ∧
      w' = ((w.alloc (.cells #[F] 71)).alloc (.cells #[.int .i64 a] 3)).alloc (.cells #[.int .i64 b] 3) := by
  have hmf := mk_fn
  go_enter Tryd.func36, Tryd.ntmps36
  go_wp2_with fail
  go_ret
  exact ⟨rfl, rfl⟩
/-- The boxes of a closure. -/
structure Cx (B : Nat) (p : Pd) (a b : Int) (W : World) : Prop where
  f : Blk W B #[.func (.func 27) #[p.val] #[]] 71
  a : Blk W (B + 1) #[.int .i64 a] 3
  b : Blk W (B + 1 + 1) #[.int .i64 b] 3
theorem Cx.later {B : Nat} {p : Pd} {a b : Int} {W W' : World} (h : Cx B p a b W) (k : Below W.heap.size W W') : Cx B p a b W' := ⟨h.f.later k, h.a.later k, h.b.later k⟩
theorem cx_new (p : Pd) (a b : Int) (w : World) : Cx w.heap.size p a b (((w.alloc (.cells #[.func (.func 27) #[p.val] #[]] 71)).alloc (.cells #[.int .i64 a] 3)).alloc (.cells #[.int .i64 b] 3)) := by
  refine ⟨((Blk.new w _ _).alloc _).alloc _, ?_, ?_⟩
  · have := (Blk.new (w.alloc (.cells #[.func (.func 27) #[p.val] #[]] 71)) #[.int .i64 a] 3).alloc (.cells #[.int .i64 b] 3)
    rwa [World.size_alloc] at this
  · have := Blk.new ((w.alloc (.cells #[.func (.func 27) #[p.val] #[]] 71)).alloc (.cells #[.int .i64 a] 3)) #[.int .i64 b] 3
    rwa [World.size_alloc, World.size_alloc] at this
set_option maxHeartbeats 800000 in
theorem days1_c (p : Pd) (price a b : Int) (B : Nat) (w : World) (hp : p.Small) (a1 : 1 ≤ a) (a2 : a ≤ 3652059) (b1 : 1 ≤ b) (b2 : b ≤ 3652059) (h : Cx B p a b w) :
    Calls Tryd.prog 58 #[.int .i64 price, .pointer (some ⟨B, 0, none⟩), .pointer (some ⟨B + 1, 0, none⟩), .pointer (some ⟨B + 1 + 1, 0, none⟩)] w fun e w' => e = .returned (.int .i64 (onv price (p.pl a) (p.pl b) p.u)) ∧ Below w.heap.size w w' := by
  have KP := Lib.hid (fun u => part_c p price a b u hp a1 a2 b1 b2)
  have h0 : w.cell? ⟨B, 0, none⟩ = some (.func (.func 27) #[p.val] #[]) := h.f.cell 0
  have h1 : w.cell? ⟨B + 1, 0, none⟩ = some (.int .i64 a) := h.a.cell 0
  have h2 : w.cell? ⟨B + 1 + 1, 0, none⟩ = some (.int .i64 b) := h.b.cell 0
  obtain ⟨q, hq⟩ : ∃ q, onv price (p.pl a) (p.pl b) p.u = q := ⟨_, rfl⟩
  rw [hq] at KP ⊢
  clear hq h
  go_enter Tryd.func58, Tryd.ntmps58
  go_wp2_with fail
  refine (KP.out _).mono ?_
  rintro e w1 ⟨rfl, hb⟩
  go_wp2_with fail
  go_ret
  exact ⟨rfl, hb⟩
/-- The state on a day. -/
def sta (s : Sb) (day : Int) : Int := if day < s.c.s then 0 else if s.e = 0 then 1 else if day < s.e then 2 else 3
def StaNo (w : World) (e : Ending) (w' : World) : Prop := e = .returned (.tuple #[.int .u8 0, .int .i64 2]) ∧ Below w.heap.size w w'
def StaYes (s : Sb) (day : Int) (w : World) (e : Ending) (w' : World) : Prop := e = .returned (.tuple #[.int .u8 (sta s day), .int .i64 0]) ∧ Below w.heap.size w w'
set_option maxHeartbeats 1600000 in
theorem state_bad (s : Sb) (m day : Int) (w : World) (hw : Tab w) (hf : s.Fits) (hin : s.c.Ok → In m s.c.s) (h : ¬ s.Ok m) : Calls Tryd.prog 11 #[s.val, .int .i64 day] w (StaNo w) := by
  have KC := Lib.hid (fun u hu => check_no s m u hu hf hin h)
  have HT := Lib.hid hw
  have D0 := Lib.hid ((Below.refl _ w).alloc (Nat.le_refl _) (.cells s.cells 26))
  have HX := Lib.hid (Sx.box s w 26)
  go_enter Tryd.func11, Tryd.ntmps11
  unfold Sb.val Sb.cells
  go_wp2_with fail
  refine (KC.out _ (tab_later HT.out D0.out)).mono ?_
  rintro e w1 ⟨rfl, b1⟩
  have D1 := Lib.hid (then_below D0.out b1)
  go_wp2_with fail
  go_ret2
  exact ⟨rfl, D1.out⟩
set_option maxHeartbeats 1600000 in
theorem state_day (s : Sb) (m day : Int) (w : World) (hw : Tab w) (hin : In m s.c.s) (h : s.Ok m) (hd : ¬ (1 ≤ day ∧ day ≤ 3652059)) : Calls Tryd.prog 11 #[s.val, .int .i64 day] w (StaNo w) := by
  have KC := Lib.hid (fun u hu => check_yes s m u hu hin h)
  have KD := Lib.hid (fun u => day_no day u hd)
  clear hd
  have HT := Lib.hid hw
  have D0 := Lib.hid ((Below.refl _ w).alloc (Nat.le_refl _) (.cells s.cells 26))
  have HX := Lib.hid (Sx.box s w 26)
  go_enter Tryd.func11, Tryd.ntmps11
  unfold Sb.val Sb.cells
  go_wp2_with fail
  refine (KC.out _ (tab_later HT.out D0.out)).mono ?_
  rintro e w1 ⟨rfl, b1⟩
  have D1 := Lib.hid (then_below D0.out b1)
  go_wp2_with fail
  refine (KD.out _).mono ?_
  rintro e w2 ⟨rfl, rfl⟩
  go_wp2_with fail
  go_ret2
  exact ⟨rfl, D1.out⟩
set_option maxHeartbeats 3200000 in
theorem state_ok (s : Sb) (m day : Int) (w : World) (hw : Tab w) (hin : In m s.c.s) (h : s.Ok m) (hd : 1 ≤ day ∧ day ≤ 3652059) : Calls Tryd.prog 11 #[s.val, .int .i64 day] w (StaYes s day w) := by
  have KC := Lib.hid (fun u hu => check_yes s m u hu hin h)
  have KD := Lib.hid (fun u => day_yes day u hd)
  have HS := Lib.hid (show (day < s.c.s ∧ sta s day = 0) ∨ (¬ day < s.c.s ∧ s.e = 0 ∧ sta s day = 1) ∨ (¬ day < s.c.s ∧ s.e ≠ 0 ∧ day < s.e ∧ sta s day = 2) ∨ (¬ day < s.c.s ∧ s.e ≠ 0 ∧ ¬ day < s.e ∧ sta s day = 3) by
    unfold sta
    repeat' split
    all_goals omega)
  unfold StaYes
  generalize sta s day = v at *
  clear hd
  have HT := Lib.hid hw
  have D0 := Lib.hid ((Below.refl _ w).alloc (Nat.le_refl _) (.cells s.cells 26))
  have HX := Lib.hid (Sx.box s w 26)
  go_enter Tryd.func11, Tryd.ntmps11
  unfold Sb.val Sb.cells
  go_wp2_with fail
  refine (KC.out _ (tab_later HT.out D0.out)).mono ?_
  rintro e w1 ⟨rfl, b1⟩
  have D1 := Lib.hid (then_below D0.out b1)
  have HX1 := Lib.hid (HX.out.later b1)
  clear b1
  obtain ⟨x0, x1, x2, x3, x4, x5, x6, x7, x8, x9, xlt⟩ := HX1.out
  rcases HS.out with ⟨h1, rfl⟩ | ⟨h1, h2, rfl⟩ | ⟨h1, h2, h3, rfl⟩ | ⟨h1, h2, h3, rfl⟩
  all_goals
    try (have q2 : (s.e == 0) = true := by simpa using h2)
    try (have q2 : (s.e == 0) = false := by simpa using h2)
    try clear h2
    go_wp2_with fail
    refine (KD.out _).mono ?_
    rintro e w2 ⟨rfl, rfl⟩
    go_wp2_with fail
    go_ret2
    exact ⟨rfl, D1.out⟩
set_option maxHeartbeats 1600000 in
theorem rstate_bad (s : Sb) (m day : Int) (w : World) (hf : s.Fits) (hin : s.c.Ok → In m s.c.s) (h : ¬ s.Ok m) : Calls Tryd.prog 12 #[s.val, .int .i64 day] w (StaNo w) := by
  have KC := Lib.hid (fun u => rcheck_no s m u hf hin h)
  have D0 := Lib.hid ((Below.refl _ w).alloc (Nat.le_refl _) (.cells s.cells 26))
  have HX := Lib.hid (Sx.box s w 26)
  go_enter Tryd.func12, Tryd.ntmps12
  unfold Sb.val Sb.cells
  go_wp2_with fail
  refine (KC.out _).mono ?_
  rintro e w1 ⟨rfl, b1⟩
  have D1 := Lib.hid (then_below D0.out b1)
  go_wp2_with fail
  go_ret2
  exact ⟨rfl, D1.out⟩
set_option maxHeartbeats 1600000 in
theorem rstate_day (s : Sb) (m day : Int) (w : World) (hin : In m s.c.s) (h : s.Ok m) (hd : ¬ (1 ≤ day ∧ day ≤ 3652059)) : Calls Tryd.prog 12 #[s.val, .int .i64 day] w (StaNo w) := by
  have KC := Lib.hid (fun u => rcheck_yes s m u hin h)
  have KD := Lib.hid (fun u => rday_s day u false (dayB_no (by omega)))
  clear hd
  have D0 := Lib.hid ((Below.refl _ w).alloc (Nat.le_refl _) (.cells s.cells 26))
  have HX := Lib.hid (Sx.box s w 26)
  go_enter Tryd.func12, Tryd.ntmps12
  unfold Sb.val Sb.cells
  go_wp2_with fail
  refine (KC.out _).mono ?_
  rintro e w1 ⟨rfl, b1⟩
  have D1 := Lib.hid (then_below D0.out b1)
  go_wp2_with fail
  refine (KD.out _).mono ?_
  rintro e w2 ⟨rfl, rfl⟩
  go_wp2_with fail
  go_ret2
  exact ⟨rfl, D1.out⟩
set_option maxHeartbeats 3200000 in
theorem rstate_ok (s : Sb) (m day : Int) (w : World) (hin : In m s.c.s) (h : s.Ok m) (hd : 1 ≤ day ∧ day ≤ 3652059) : Calls Tryd.prog 12 #[s.val, .int .i64 day] w (StaYes s day w) := by
  have KC := Lib.hid (fun u => rcheck_yes s m u hin h)
  have KD := Lib.hid (fun u => rday_s day u true (dayB_yes hd.1 hd.2))
  have HS := Lib.hid (show (day < s.c.s ∧ sta s day = 0) ∨ (¬ day < s.c.s ∧ s.e = 0 ∧ sta s day = 1) ∨ (¬ day < s.c.s ∧ s.e ≠ 0 ∧ day < s.e ∧ sta s day = 2) ∨ (¬ day < s.c.s ∧ s.e ≠ 0 ∧ ¬ day < s.e ∧ sta s day = 3) by
    unfold sta
    repeat' split
    all_goals omega)
  unfold StaYes
  generalize sta s day = v at *
  clear hd
  have D0 := Lib.hid ((Below.refl _ w).alloc (Nat.le_refl _) (.cells s.cells 26))
  have HX := Lib.hid (Sx.box s w 26)
  go_enter Tryd.func12, Tryd.ntmps12
  unfold Sb.val Sb.cells
  go_wp2_with fail
  refine (KC.out _).mono ?_
  rintro e w1 ⟨rfl, b1⟩
  have D1 := Lib.hid (then_below D0.out b1)
  have HX1 := Lib.hid (HX.out.later b1)
  clear b1
  obtain ⟨x0, x1, x2, x3, x4, x5, x6, x7, x8, x9, xlt⟩ := HX1.out
  rcases HS.out with ⟨h1, rfl⟩ | ⟨h1, h2, rfl⟩ | ⟨h1, h2, h3, rfl⟩ | ⟨h1, h2, h3, rfl⟩
  all_goals
    try (have q2 : (s.e == 0) = true := by simpa using h2)
    try (have q2 : (s.e == 0) = false := by simpa using h2)
    try clear h2
    go_wp2_with fail
    refine (KD.out _).mono ?_
    rintro e w2 ⟨rfl, rfl⟩
    go_wp2_with fail
    go_ret2
    exact ⟨rfl, D1.out⟩
/-- A list of bills that is read. -/
def Rb (w : World) (a : Option Addr) (L : List Bl) : Prop :=
  ∀ j (h : j < L.length), ∃ g, a = some ⟨g, 0, none⟩ ∧ g < w.heap.size ∧ w.cell? ⟨g, j * 4, none⟩ = some (.int .i64 L[j].k) ∧ w.cell? ⟨g, j * 4 + 1, none⟩ = some (.int .i64 L[j].f) ∧ w.cell? ⟨g, j * 4 + 2, none⟩ = some (.int .i64 L[j].n) ∧ w.cell? ⟨g, j * 4 + 3, none⟩ = some (.int .i64 L[j].a)
theorem Rb.later {w w' : World} {a : Option Addr} {L : List Bl} (h : Rb w a L) (hb : Below w.heap.size w w') : Rb w' a L := fun j hj => by
  obtain ⟨g, hg, hl, h0, h1, h2, h3⟩ := h j hj
  have k : ∀ o, w'.cell? ⟨g, o, none⟩ = w.cell? ⟨g, o, none⟩ := fun o => hb.cell (by simpa using hl)
  exact ⟨g, hg, Nat.lt_of_lt_of_le hl hb.size, by rw [k]; exact h0, by rw [k]; exact h1, by rw [k]; exact h2, by rw [k]; exact h3⟩
theorem cellsB_at : ∀ (L : List Bl) (j : Nat) (h : j < L.length), (cellsB L)[j * 4]? = some (.int .i64 L[j].k) ∧ (cellsB L)[j * 4 + 1]? = some (.int .i64 L[j].f) ∧ (cellsB L)[j * 4 + 2]? = some (.int .i64 L[j].n) ∧ (cellsB L)[j * 4 + 3]? = some (.int .i64 L[j].a)
  | [], _, h => absurd h (by simp)
  | y :: L, 0, _ => by simp [cellsB]
  | y :: L, j + 1, h => by
    have ih := cellsB_at L j (by simpa using h)
    have e : cellsB (y :: L) = [.int .i64 y.k, .int .i64 y.f, .int .i64 y.n, .int .i64 y.a] ++ cellsB L := rfl
    have sh : ∀ o, (cellsB (y :: L))[(j + 1) * 4 + o]? = (cellsB L)[j * 4 + o]? := fun o => by
      rw [e, List.getElem?_append_right (by simp; omega)]
      congr 1
      simp
      omega
    exact ⟨(sh 0).trans ih.1, (sh 1).trans ih.2.1, (sh 2).trans ih.2.2.1, (sh 3).trans ih.2.2.2⟩
theorem own_rb {w : World} {base : Nat} {v : Value} {L : List Bl} {t : TypeId} (h : w.ownsRow base t 4 v L.length (cellsB L)) : ∃ a cap, v = .slice a L.length cap ∧ Rb w a L := by
  rcases h.2 with ⟨rfl, h0⟩ | ⟨g, cap, cur, rfl, _, _, _⟩
  · exact ⟨none, 0, by rw [h0], fun j hj => absurd hj (by omega)⟩
  · obtain ⟨hg, hc⟩ := own_cell h
    refine ⟨_, _, rfl, fun j hj => ⟨g, rfl, hg, ?_⟩⟩
    obtain ⟨h0, h1, h2, h3⟩ := cellsB_at L j hj
    exact ⟨hc _ _ h0, hc _ _ h1, hc _ _ h2, hc _ _ h3⟩
set_option maxRecDepth 100000 in
set_option maxHeartbeats 1600000 in
theorem same_c (L : List Bl) (a b : Option Addr) (ca cb : Nat) (w : World) (hl : L.length ≤ 100000) (ha : Rb w a L) (hb : Rb w b L) :
    Calls Tryd.prog 13 #[.slice a L.length ca, .slice b L.length cb] w fun e w' => e = .returned (.bool true) ∧ Below w.heap.size w w' := by
  have HA := Lib.hid ha
  have HB := Lib.hid hb
  obtain ⟨n, hn⟩ : ∃ n, L.length = n := ⟨_, rfl⟩
  have HN := Lib.hid hn
  rw [hn] at hl ⊢
  clear ha hb hn
  go_enter Tryd.func13, Tryd.ntmps13
  go_wp2_with fail
  go_loopw [5] (fun i wr => ∃ k : Nat, k ≤ n ∧ i = .int .i64 k ∧ Below w.heap.size w wr) (fun i _ => n - (intOf i).toNat)
  case atStart => exact ⟨0, by omega, rfl, Below.refl _ _⟩
  case round =>
    obtain ⟨k, hk, rfl, hB⟩ := hrel
    by_cases hlt : k < n
    · obtain ⟨g, rfl, hg, c0, c1, c2, c3⟩ := (HA.out.later hB) k (by rw [HN.out]; exact hlt)
      obtain ⟨g', rfl, hg', d0, d1, d2, d3⟩ := (HB.out.later hB) k (by rw [HN.out]; exact hlt)
      generalize (L[k]'(by rw [HN.out]; exact hlt)).k = e0 at *
      generalize (L[k]'(by rw [HN.out]; exact hlt)).f = e1 at *
      generalize (L[k]'(by rw [HN.out]; exact hlt)).n = e2 at *
      generalize (L[k]'(by rw [HN.out]; exact hlt)).a = e3 at *
      have HBB := Lib.hid hB
      clear hB
      go_wp2_with fail
      go_region
      go_wp2_with fail
      go_roundw
      case rel => exact ⟨k + 1, by omega, by go_num, HBB.out.drew⟩
      case measure => simp [intOf]; omega
    · obtain rfl : k = n := by omega
      go_wp2_with fail
      go_ret
      exact ⟨rfl, hB⟩
end Go.Proofs.YtjchecjonkmhgaaDoor.Su
