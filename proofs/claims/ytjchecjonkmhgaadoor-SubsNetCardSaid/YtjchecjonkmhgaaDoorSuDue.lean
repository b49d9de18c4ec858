/- Package subs: Due, what is billed. -/
import Derived.Test.YtjchecjonkmhgaaDoorSuDue0
import Derived.Test.YtjchecjonkmhgaaDoorSjE
import Derived.OwnWalkIn
import Derived.Deep.AppendLies
import Derived.Deep.RegionLaw
import Derived.Maps.RangeWalk
namespace Go.Proofs.YtjchecjonkmhgaaDoor.Su
open Go.RowKit Go.Shelf Pr Cw An Rf
attribute [local go_sem] Oper.semAt_some
theorem infoBill : (Tryd.prog.info? 57).map (fun i => (i.zero, i.size, i.bytes)) = some (some (.agg #[.int .i64 0, .int .i64 0, .int .i64 0, .int .i64 0]), 4, 32) := by kernel_rfl
/-- Four cells just laid. -/
theorem four_new (W : World) (a b c d : Value) (t : TypeId) : ∀ (j : Nat) (u : Value), [a, b, c, d][j]? = some u → (W.alloc (.cells #[a, b, c, d] t)).cell? (Addr.add ⟨W.heap.size, 0, Option.none⟩ j) = some u := by
  intro j u h
  have e : Addr.add ⟨W.heap.size, 0, Option.none⟩ j = ⟨W.heap.size, j, Option.none⟩ := by unfold Addr.add; simp; exact fun h => h.symm
  rw [e]
  rcases j with _|_|_|_|j
  · simp at h; subst h; simp [go_sem]
  · simp at h; subst h; simp [go_sem]
  · simp at h; subst h; simp [go_sem]
  · simp at h; subst h; simp [go_sem]
  · simp at h
theorem Dx.put {w : World} {s : Sb} {today most : Int} {W : World} (h : Dx w s today most W) {l : Nat} (hl : w.heap.size + 3 < l) (o' : Obj) : Dx w s today most (W.putObj l o') :=
  ⟨(World.putObj_heap_other (by omega)).trans h.s, (World.putObj_heap_other (by omega)).trans h.t, (World.putObj_heap_other (by omega)).trans h.m, (World.putObj_heap_other (by omega)).trans h.r, h.b.grown (grownBy_putObj' W l o') h.b.size (fun j e => by cases e; omega)⟩
/-- What a call of Due keeps while it goes over the periods. -/
def Ix (w : World) (s : Sb) (today most : Int) (d : Nat) (n : Nat) (xs : List Value) (W : World) : Prop := Dx w s today most W ∧ Coll w d (d + 2) 27 57 4 n xs W
theorem ix_stands {β : Type} {w : World} {s : Sb} {today most : Int} {d : Nat} (f : β → Nat) (g : β → List Value) : Stands (fun _ => False) (fun b W => Ix w s today most d (f b) (g b) W) :=
  ⟨fun b W W' h k => ⟨h.1.later k, (Coll.stands (T := fun _ => False) f g (fun _ hb => hb.elim)).below b W W' h.2 k⟩, fun _ _ _ _ hb _ => hb.elim⟩
theorem ix_bears {β : Type} {w : World} {s : Sb} {today most : Int} {d B : Nat} (f : β → Nat) (g : β → List Value) (hB : w.heap.size + 3 < B) : Bears B (fun b W => Ix w s today most d (f b) (g b) W) :=
  fun b W l o o' hl ho hc h => ⟨h.1.put (by omega) o', Coll.bears f g (by omega) b W l o o' hl ho hc h.2⟩
theorem bears_ex {β γ : Type} {B : Nat} {J : γ → β → World → Prop} (h : ∀ i, Bears B (J i)) : Bears B (fun s W => ∃ i, J i s W) := fun s W l o o' h1 h2 h3 ⟨i, hi⟩ => ⟨i, h i s W l o o' h1 h2 h3 hi⟩
theorem own_slice {w : World} {base e size n : Nat} {v : Value} {xs : List Value} (h : w.ownsRow base e size v n xs) : ∃ a cap, v = .slice a n cap := by
  rcases h.2 with ⟨rfl, h0⟩ | ⟨g, cap, cur, rfl, _⟩
  · exact ⟨Option.none, 0, by rw [h0]⟩
  · exact ⟨_, _, rfl⟩
theorem own_set7 {w : World} {base e size n b o : Nat} {v : Value} {xs : List Value} (h : w.ownsRow base e size v n xs) (hb : b < base) (u : Value) : (w.setCell ⟨b, o, Option.none⟩ u).ownsRow base e size v n xs := by
  refine h.kept (row := some b) ?_ ?_
  · exact ⟨rfl, rfl, rfl, by simp [World.setCell], fun k hk hne => Below.heap_setCell _ _ _ _ (by intro e; subst e; exact hne rfl)⟩
  · exact Or.inr (own_ne h hb).symm
theorem blk_writes {W : World} {B : Nat} {t : TypeId} (h : Blk W B Sb.none.cells t) :
    W.cell? ⟨B, 0, Option.none⟩ = some (.int .u64 0) ∧ W.cell? ⟨B, 1, Option.none⟩ = some (.int .u64 0) ∧ W.cell? ⟨B, 2, Option.none⟩ = some (.int .u64 0) ∧ W.cell? ⟨B, 3, Option.none⟩ = some (.int .i64 0) ∧ W.cell? ⟨B, 4, Option.none⟩ = some (.int .i64 0) ∧
    W.cell? ⟨B, 5, Option.none⟩ = some (.int .i64 0) ∧ W.cell? ⟨B, 6, Option.none⟩ = some (.int .i64 0) ∧ W.cell? ⟨B, 7, Option.none⟩ = some (.int .i64 0) ∧ W.cell? ⟨B, 8, Option.none⟩ = some (.int .i64 0) ∧ W.cell? ⟨B, 9, Option.none⟩ = some (.int .i64 0) ∧
    (W.frozen? ⟨B, 0, Option.none⟩ = false ∧ W.frozen? ⟨B, 1, Option.none⟩ = false ∧ W.frozen? ⟨B, 2, Option.none⟩ = false ∧ W.frozen? ⟨B, 3, Option.none⟩ = false ∧ W.frozen? ⟨B, 4, Option.none⟩ = false ∧
    W.frozen? ⟨B, 5, Option.none⟩ = false ∧ W.frozen? ⟨B, 6, Option.none⟩ = false ∧ W.frozen? ⟨B, 7, Option.none⟩ = false ∧ W.frozen? ⟨B, 8, Option.none⟩ = false ∧ W.frozen? ⟨B, 9, Option.none⟩ = false) :=
  ⟨h.cell 0, h.cell 1, h.cell 2, h.cell 3, h.cell 4, h.cell 5, h.cell 6, h.cell 7, h.cell 8, h.cell 9, h.frozen 0, h.frozen 1, h.frozen 2, h.frozen 3, h.frozen 4, h.frozen 5, h.frozen 6, h.frozen 7, h.frozen 8, h.frozen 9⟩
theorem ten_heap {W : World} {B j : Nat} (hne : j ≠ B) (x0 x1 x2 x3 x4 x5 x6 x7 x8 x9 : Value) :
    ((((((((((W.setCell ⟨B, 0, Option.none⟩ x0).setCell ⟨B, 1, Option.none⟩ x1).setCell ⟨B, 2, Option.none⟩ x2).setCell ⟨B, 3, Option.none⟩ x3).setCell ⟨B, 4, Option.none⟩ x4).setCell ⟨B, 5, Option.none⟩ x5).setCell ⟨B, 6, Option.none⟩ x6).setCell ⟨B, 7, Option.none⟩ x7).setCell ⟨B, 8, Option.none⟩ x8).setCell ⟨B, 9, Option.none⟩ x9).heap[j]? = W.heap[j]? :=
  (Below.heap_setCell _ _ _ _ hne).trans <| (Below.heap_setCell _ _ _ _ hne).trans <| (Below.heap_setCell _ _ _ _ hne).trans <| (Below.heap_setCell _ _ _ _ hne).trans <| (Below.heap_setCell _ _ _ _ hne).trans <| (Below.heap_setCell _ _ _ _ hne).trans <| (Below.heap_setCell _ _ _ _ hne).trans <| (Below.heap_setCell _ _ _ _ hne).trans <| (Below.heap_setCell _ _ _ _ hne).trans <| Below.heap_setCell _ _ _ _ hne
theorem own_ten {W : World} {base e size n B : Nat} {v : Value} {xs : List Value} (h : W.ownsRow base e size v n xs) (hb : B < base) (x0 x1 x2 x3 x4 x5 x6 x7 x8 x9 : Value) :
    ((((((((((W.setCell ⟨B, 0, Option.none⟩ x0).setCell ⟨B, 1, Option.none⟩ x1).setCell ⟨B, 2, Option.none⟩ x2).setCell ⟨B, 3, Option.none⟩ x3).setCell ⟨B, 4, Option.none⟩ x4).setCell ⟨B, 5, Option.none⟩ x5).setCell ⟨B, 6, Option.none⟩ x6).setCell ⟨B, 7, Option.none⟩ x7).setCell ⟨B, 8, Option.none⟩ x8).setCell ⟨B, 9, Option.none⟩ x9).ownsRow base e size v n xs :=
  own_set7 (own_set7 (own_set7 (own_set7 (own_set7 (own_set7 (own_set7 (own_set7 (own_set7 (own_set7 h hb _) hb _) hb _) hb _) hb _) hb _) hb _) hb _) hb _) hb _
theorem drew_heap (X : World) (j : Nat) : X.drew.heap[j]? = X.heap[j]? := rfl
theorem stands_pure {β : Type} {T : Nat → Prop} {J : β → World → Prop} (p : β → Prop) (h : Stands T J) : Stands T (fun s W => p s ∧ J s W) := Stands.pure p h
/-- What a round reads stands in every world that keeps the boxes. -/
theorem due_S {w : World} {s : Sb} {today most : Int} {u : World} {g : Nat} {p : Pd} {t : TypeId} (h : Dx w s today most u) (k : Blk u g p.cells t) :
    u.cell? ⟨g, 0, Option.none⟩ = some (.int .i64 p.k) ∧ u.cell? ⟨g, 1, Option.none⟩ = some (.int .i64 p.f) ∧ u.cell? ⟨g, 2, Option.none⟩ = some (.int .i64 p.n) ∧ u.cell? ⟨g, 3, Option.none⟩ = some (.int .i64 p.u) ∧ u.cell? ⟨w.heap.size, 6, Option.none⟩ = some (.int .i64 s.p) :=
  ⟨k.cell 0, k.cell 1, k.cell 2, k.cell 3, h.s.cell 6⟩
theorem own_other_type {W : World} {base e size n g t : Nat} {v : Value} {xs : List Value} {cs : Array Value} (h : W.ownsRow base e size v n xs) (k : Blk W g cs t) (hne : t ≠ e) : some g ≠ v.ownBlock := by
  rcases h.2 with ⟨rfl, _⟩ | ⟨g', cap, cur, rfl, _, hg, _⟩
  · simp [Value.ownBlock]
  · intro he
    have : g = g' := by simpa [Value.ownBlock] using he
    subst this
    rw [show W.heap[g]? = _ from k] at hg
    injection hg with hg
    injection hg with _ h2
    exact hne h2
theorem due_S7 {w : World} {s : Sb} {today most : Int} {u w7 : World} {g d n : Nat} {p : Pd} {v : Value} {xs : List Value} {tmp : Obj} (h : Dx w s today most u) (k : Blk u g p.cells 70) (hd0 : w.heap.size + 3 < d) (hsz : d + 2 ≤ u.heap.size)
    (hrow : u.ownsRow (d + 2) 57 4 v n xs) (hgrow : (u.alloc tmp).grownBy w7 v.ownBlock) (hgd : g ≠ d := by omega) :
    (w7.cell? ⟨g, 0, Option.none⟩ = some (.int .i64 p.k) ∧ w7.cell? ⟨g, 1, Option.none⟩ = some (.int .i64 p.f) ∧ w7.cell? ⟨g, 2, Option.none⟩ = some (.int .i64 p.n) ∧ w7.cell? ⟨g, 3, Option.none⟩ = some (.int .i64 p.u) ∧ w7.cell? ⟨w.heap.size, 6, Option.none⟩ = some (.int .i64 s.p)) ∧
    ∀ v' : Value, ((w7.setCell ⟨d, 0, Option.none⟩ v').cell? ⟨g, 0, Option.none⟩ = some (.int .i64 p.k) ∧ (w7.setCell ⟨d, 0, Option.none⟩ v').cell? ⟨g, 1, Option.none⟩ = some (.int .i64 p.f) ∧ (w7.setCell ⟨d, 0, Option.none⟩ v').cell? ⟨g, 2, Option.none⟩ = some (.int .i64 p.n) ∧ (w7.setCell ⟨d, 0, Option.none⟩ v').cell? ⟨g, 3, Option.none⟩ = some (.int .i64 p.u) ∧ (w7.setCell ⟨d, 0, Option.none⟩ v').cell? ⟨w.heap.size, 6, Option.none⟩ = some (.int .i64 s.p)) := by
  have k7 : Blk w7 g p.cells 70 := (hgrow.block g (by have := k.lt; simp; omega) (own_other_type hrow k (by decide))).trans (k.alloc tmp)
  have s7 : Blk w7 w.heap.size s.cells 26 := (hgrow.block _ (by simp; omega) (own_ne hrow (by omega))).trans (h.s.alloc tmp)
  refine ⟨⟨k7.cell 0, k7.cell 1, k7.cell 2, k7.cell 3, s7.cell 6⟩, fun v' => ?_⟩
  have k8 : Blk (w7.setCell ⟨d, 0, Option.none⟩ v') g p.cells 70 := k7.other 0 v' hgd
  have s8 : Blk (w7.setCell ⟨d, 0, Option.none⟩ v') w.heap.size s.cells 26 := s7.other 0 v' (by omega)
  exact ⟨k8.cell 0, k8.cell 1, k8.cell 2, k8.cell 3, s8.cell 6⟩
theorem others_below {W W' : World} (h : Below W.heap.size W W') : KeepsOthers W W' := ⟨h.size, fun _ _ hk _ => lies_below hk h⟩
theorem Dx.moved {w : World} {s : Sb} {today most : Int} {W W' : World} (h : Dx w s today most W) (hj : ∀ k, k ≤ w.heap.size + 3 → W'.heap[k]? = W.heap[k]?) (hb : Below w.heap.size w W') : Dx w s today most W' :=
  ⟨(hj _ (by omega)).trans h.s, (hj _ (by omega)).trans h.t, (hj _ (by omega)).trans h.m, (hj _ (by omega)).trans h.r, hb⟩
/-- The end of a round that bills. -/
theorem due_leaf {w : World} {s : Sb} {m today most : Int} {d n : Nat} {pre : List Pd} {p : Pd} {W u Wf : World} {a : Act} {v v' : Value} {x0 x1 x2 x3 : Int} {w7 : World} (hd0 : w.heap.size + 3 < d) (hlt : d + 2 + 1 < W.heap.size) (hn1 : ∀ x : Pd, (pre ++ [x]).length = n + 1)
    (hX : Dx w s today most u) (hb : Below W.heap.size W u) (hall : ∀ i, i < n → ¬ Stop s m today most i) (hns : ¬ Stop s m today most n) (hbill : bill s m (s.b.toNat + n) = ⟨x0, x1, x2, x3⟩)
    (hP : Boxed w7 d 27 v ∧ Boxed Wf d 27 v' ∧ Wf.ownsRow (d + 2) 57 4 v' (n + 1) (cellsB (bills s m n) ++ [.int .i64 x0, .int .i64 x1, .int .i64 x2, .int .i64 x3]) ∧ KeepsOthers u Wf ∧ (∀ j, j < d + 2 → j ≠ d → Wf.heap[j]? = u.heap[j]?) ∧ Below d u Wf) :
    ownPostG (d + 2) (Kq d (d + 1)) (fun pre W => (∀ i, i < pre.length → ¬ Stop s m today most i) ∧ Ix w s today most d pre.length (cellsB (bills s m pre.length)) W)
      (fun cd _ W => ∃ n : Nat, (cd = .exit 0 ∧ Many s m today most n) ∧ Ix w s today most d n (cellsB (bills s m n)) W) (pre ++ [p]) W .normal a Wf := by
  obtain ⟨-, hv, hr, hk, hj, hb2⟩ := hP
  have hB : Below w.heap.size w Wf := hX.b.trans (hb2.mono (by omega))
  refine ⟨((others_below hb).trans hk).from _, fun j hjj => (hj j (by omega) (by omega)).trans (hb.block j (by omega)), ?_, hX.moved (fun k hk => hj k (by omega) (by omega)) hB, ⟨v', hv, ?_⟩, hB⟩
  · intro i hi
    rw [hn1] at hi
    rcases Nat.lt_or_ge i n with h | h
    · exact hall i h
    · obtain rfl : i = n := by omega
      exact hns
  · rw [hn1, bills_succ, cellsB_snoc, hbill]
    exact hr
/-- What Due tells. -/
def DueRes (s : Sb) (m today most : Int) (w : World) (e : Ending) (w' : World) : Prop :=
  ∃ (n : Nat) (v : Value), Many s m today most n ∧ e = .returned (.tuple #[v, (s.after n).val, .int .i64 0]) ∧ w'.ownsRow w.heap.size 57 4 v n (cellsB (bills s m n)) ∧ Below w.heap.size w w'
set_option maxRecDepth 100000 in
set_option maxHeartbeats 4000000 in
theorem due_in (s : Sb) (m today most : Int) (w : World) (hw : Tab w) (hin : In m s.c.s) (h : s.Ok m) (hd : 1 ≤ today ∧ today ≤ 3652059) (hm1 : 1 ≤ most) (hm2 : most ≤ 1000) :
    Calls Tryd.prog 9 #[s.val, .int .i64 today, .int .i64 most] w (DueRes s m today most w) := by
  have KC := Lib.hid (fun u hu => check_yes s m u hu hin h)
  have KD := Lib.hid (fun u => day_yes today u hd)
  have HT := Lib.hid hw
  have D0 := Lib.hid (dx_new w s today most)
  have hmf := mk_fn
  have b0 := h.num.b0
  have b1 := h.num.b1
  refine (callsIn_wide (n := 4)).1 ?_
  refine callsIn_of_wp_marks Tryd.func9 rfl trivial ?_ rfl
  simp only [Tryd.ntmps9, List.size_toArray, List.length_cons, List.length_nil, Nat.reduceAdd, Nat.reduceSub, Array.replicate_succ, Array.replicate_zero, List.push_toArray, List.append_toArray, List.nil_append, List.cons_append]
  unfold Sb.val Sb.cells
  gi_wp2_with fail
  refine ⟨trivial, (callsIn_wide.2 (KC.out _ (tab_later HT.out D0.out.b))).mono ?_⟩
  rintro e w1 ⟨rfl, hb1⟩
  have D1 := Lib.hid (D0.out.later hb1)
  clear hb1
  obtain ⟨hs, ht, hm⟩ := D1.out.reads
  obtain ⟨x0, x1, x2, x3, x4, x5, x6, x7, x8, x9, xlt⟩ := hs
  gi_wp2_with fail
  refine ⟨trivial, (callsIn_wide.2 (KD.out _)).mono ?_⟩
  rintro e w2 ⟨rfl, rfl⟩
  gi_wp2_with fail
  refine ⟨trivial, (callsIn_wide.2 (periods_c s _)).mono ?_⟩
  rintro e w3 ⟨rfl, rfl⟩
  gi_wp2_with fail
  obtain ⟨d, hd'⟩ : ∃ d, w1.heap.size = d := ⟨_, rfl⟩
  have hd0 : w.heap.size + 3 < d := by rw [← hd']; exact D1.out.r.lt
  obtain ⟨W3, hW3⟩ : ∃ W3, (w1.alloc (.cells #[.slice Option.none 0 0] 27)).alloc (.cells s.cells 26) = W3 := ⟨_, rfl⟩
  have hz3 : W3.heap.size = d + 2 := by rw [← hW3, ← hd']; simp
  have hbl : Below w1.heap.size w1 W3 := by rw [← hW3]; exact ((Below.refl _ w1).alloc (Nat.le_refl _) _).alloc (by simp) _
  have hD3 := D1.out.later hbl
  have hl3 : Boxed W3 d 27 (.slice Option.none 0 0) := by rw [← hW3, ← hd']; exact (Boxed.new w1 _ _).alloc _
  have hs3 : Sx (d + 1) s W3 := by
    have := Sx.box s (w1.alloc (.cells #[.slice Option.none 0 0] 27)) 26
    rw [hW3, World.size_alloc, hd'] at this
    exact this
  have ht3 : Tab W3 := tab_later HT.out hD3.b
  rw [hW3, hd']
  clear hW3 hd' hbl x0 x1 x2 x3 x4 x5 x6 x7 x8 x9 xlt ht hm KC KD
  obtain ⟨i0, hi, hz0, hz1, hz2⟩ := info_parts infoBill
  have HO := Lib.hid h
  refine lawE (gf := 48) (lb := #[.pointer (some ⟨d + 1, 0, Option.none⟩)]) rfl (enters_of Tryd.func48 (by kernel_rfl) rfl)
    (periods_yields s m d (d + 1) W3 (by omega) h hin hs3 ht3) (Below.refl _ _)
    (fun _ _ _ p q => fun j hj => (q j hj).trans (p j hj)) (fun W l o o' hl ho hc => fun j hj => World.putObj_heap_other (by omega)) (fun _ => rfl)
    (fun pre W => (∀ i, i < pre.length → ¬ Stop s m today most i) ∧ Ix w s today most d pre.length (cellsB (bills s m pre.length)) W)
    (fun cd _ W => ∃ n : Nat, (cd = .exit 0 ∧ Many s m today most n) ∧ Ix w s today most d n (cellsB (bills s m n)) W)
    (Bears.pure _ (ix_bears (fun pre : List Pd => pre.length) (fun pre => cellsB (bills s m pre.length)) (by omega)))
    (fun cd => bears_ex fun n => Bears.pure (fun _ => cd = .exit 0 ∧ Many s m today most n) (ix_bears (fun _ : List Pd => n) (fun _ => cellsB (bills s m n)) (by omega)))
    (Stands.pure _ (ix_stands (fun pre : List Pd => pre.length) (fun pre => cellsB (bills s m pre.length))))
    (fun cd => Stands.ex fun n => Stands.pure (fun _ => cd = .exit 0 ∧ Many s m today most n) (ix_stands (fun _ : List Pd => n) (fun _ => cellsB (bills s m n))))
    ⟨fun i hi => absurd hi (by simp), hD3, Coll.start hl3 hD3.b⟩
    (fun y a W => ∃ g, a = { tmps := #[Value.agg #[Value.int IntKind.u64 s.id, Value.int IntKind.u64 s.cu, Value.int IntKind.u64 s.pl, Value.int IntKind.i64 s.c.s, Value.int IntKind.i64 s.c.a, Value.int IntKind.i64 s.c.e, Value.int IntKind.i64 s.p, Value.int IntKind.i64 s.b, Value.int IntKind.i64 s.s, Value.int IntKind.i64 s.e], Value.int IntKind.i64 today, Value.int IntKind.i64 most, Value.pointer (some { block := w.heap.size, off := 0 }), Value.pointer (some { block := w.heap.size + 1, off := 0 }), Value.pointer (some { block := w.heap.size + 1 + 1, off := 0 }), Value.slice Option.none 0 0, Value.pointer (some { block := w.heap.size + 1 + 1 + 1, off := 0 }), Value.int IntKind.i64 0, Value.pointer (some { block := d, off := 0 }), Value.pointer (some { block := g, off := 0 }), undef, Value.agg #[Value.int IntKind.u64 s.id, Value.int IntKind.u64 s.cu, Value.int IntKind.u64 s.pl, Value.int IntKind.i64 s.c.s, Value.int IntKind.i64 s.c.a, Value.int IntKind.i64 s.c.e, Value.int IntKind.i64 s.p, Value.int IntKind.i64 s.b, Value.int IntKind.i64 s.s, Value.int IntKind.i64 s.e], Value.int IntKind.i64 0, Value.bool false, Value.bool false, Value.int IntKind.i64 today, Value.bool true, Value.bool false, Value.bool false, Value.bool false, Value.int IntKind.i64 most, Value.bool (decide (most < 1)), Value.bool (decide (most < 1)), Value.bool (decide (most < 1)), Value.int IntKind.i64 most, Value.bool (decide (1000 < most)), Value.bool (decide (most < 1) || decide (1000 < most)), undef, Value.agg #[Value.int IntKind.u64 s.id, Value.int IntKind.u64 s.cu, Value.int IntKind.u64 s.pl, Value.int IntKind.i64 s.c.s, Value.int IntKind.i64 s.c.a, Value.int IntKind.i64 s.c.e, Value.int IntKind.i64 s.p, Value.int IntKind.i64 s.b, Value.int IntKind.i64 s.s, Value.int IntKind.i64 s.e], Value.func (Fn.func 48) #[] #[Value.pointer (some { block := d + 1, off := 0 })], y.val, undef, undef, undef, undef, undef, undef, undef, undef, undef, undef, undef, undef, undef, undef, undef, undef, undef, undef, undef, undef, undef, undef, undef, undef, undef, undef, undef, undef, undef, undef, undef, undef, undef, undef, undef, undef, undef, undef, undef, undef, undef, undef, undef, undef, undef, undef, undef, undef, undef], defers := [] } ∧ Blk W g y.cells 70 ∧ d + 1 < g)
    ?ent ?ke ?assign ?body ?done ?stop
  case ent =>
    rintro x a W l o o' hl ho hc ⟨g, rfl, hb, hg⟩
    exact ⟨g, rfl, (World.putObj_heap_other (by intro e; subst e; rw [show W.heap[g]? = _ from hb] at ho; cases ho; cases hc)).trans hb, hg⟩
  case ke =>
    intro W W1 hlt hb k hk
    exact hb.block k (by omega)
  case assign =>
    intro l y W K2 hlt hK2
    rw [hz3] at hlt
    unfold Pd.val
    gi_wp2
    refine hK2 _ _ ⟨W.heap.size, rfl, Blk.new W _ _, by omega⟩ ((Below.refl _ W).alloc (Nat.le_refl _) _)
  case body =>
    rintro l pre y W a ⟨hall, hX, hC⟩ ⟨rfl, hH, h2⟩ hlt ⟨g, rfl, hB, hg⟩
    rw [hz3] at hlt ⊢
    obtain ⟨n, hn⟩ : ∃ n, pre.length = n := ⟨_, rfl⟩
    have hn1 : ∀ x : Pd, (pre ++ [x]).length = n + 1 := fun x => by simp [hn]
    rw [hn] at hall hC hH h2
    obtain ⟨p, hp⟩ : ∃ p, per s.c m (s.b.toNat + n) = p := ⟨_, rfl⟩
    rw [hn, hp]
    rw [hn, hp] at hB
    have hps : p.Small := hp ▸ per_small HO.out.c hin hH
    have hpb := per_bd HO.out.c hin hH
    have hpf : p.f = bnd s.c m (s.b.toNat + n) := by rw [← hp]; rfl
    have hpn : p.n = bnd s.c m (s.b.toNat + n + 1) := by rw [← hp]; rfl
    have hpk : p.k = ((s.b.toNat + n : Nat) : Int) := by rw [← hp]; rfl
    rw [← hpf, ← hpn] at hpb
    have hstop : Stop s m today most n ↔ ((n : Int) = most ∨ today < p.f ∨ (s.e ≠ 0 ∧ s.e ≤ p.f)) := by
      unfold Stop
      rw [← hpf]
      constructor
      · rintro (h | h | h | h)
        · exact Or.inl h
        · omega
        · exact absurd hH h
        · exact Or.inr h
      · rintro (h | h)
        · exact Or.inl h
        · exact Or.inr (Or.inr (Or.inr h))
    have hbill : bill s m (s.b.toNat + n) = ⟨p.k, p.f, en s.e p.n, onv s.p (p.pl p.f) (p.pl (en s.e p.n)) p.u⟩ := by
      unfold bill amt
      rw [hp, hpk, hpf, hpn]
    obtain ⟨⟨v, hv, hrow⟩, hBel⟩ := hC
    obtain ⟨va, vc, rfl⟩ := own_slice hrow
    obtain ⟨hs, ht, hm⟩ := hX.reads
    obtain ⟨x0, x1, x2, x3, x4, x5, x6, x7, x8, x9, xlt⟩ := hs
    have hc0 := hv.cell
    have g0 : W.cell? ⟨g, 0, Option.none⟩ = some (.int .i64 p.k) := hB.cell 0
    have g1 : W.cell? ⟨g, 1, Option.none⟩ = some (.int .i64 p.f) := hB.cell 1
    have g2 : W.cell? ⟨g, 2, Option.none⟩ = some (.int .i64 p.n) := hB.cell 2
    have g3 : W.cell? ⟨g, 3, Option.none⟩ = some (.int .i64 p.u) := hB.cell 3
    have HS := Lib.hid hstop
    have HBI := Lib.hid hbill
    have HALL := Lib.hid hall
    have HXX := Lib.hid hX
    have HV := Lib.hid hv
    have HR := Lib.hid hrow
    have HBB := Lib.hid hBel
    have HG := Lib.hid hB
    have HPS := Lib.hid hps
    have HPD := Lib.hid hp
    clear hstop hbill hall hX hv hrow hBel hB hps hp hs3 ht3 hD3 hl3 hpf hpn hpk
    rcases (show ((n : Int) = most) ∨ ((n : Int) ≠ most ∧ today < p.f) ∨ ((n : Int) ≠ most ∧ ¬ today < p.f ∧ s.e ≠ 0 ∧ s.e ≤ p.f) ∨ ((n : Int) ≠ most ∧ ¬ today < p.f ∧ s.e = 0) ∨ ((n : Int) ≠ most ∧ ¬ today < p.f ∧ s.e ≠ 0 ∧ ¬ s.e ≤ p.f) by omega) with h | ⟨h, h1⟩ | ⟨h, h1, h3, h4⟩ | ⟨h, h1, h3⟩ | ⟨h, h1, h3, h4⟩
    · have q1 : ((n : Int) == most) = true := by simpa using h
      have HM := Lib.hid (show Many s m today most n from ⟨HALL.out, HS.out.2 (Or.inl h)⟩)
      clear h
      gi_wp2_with fail
      exact ⟨(KeepsOthers.refl _).from _, n, ⟨rfl, HM.out⟩, HXX.out, ⟨⟨_, HV.out, HR.out⟩, HBB.out⟩⟩
    · have q1 : ((n : Int) == most) = false := by simpa using h
      have q2 : decide (today < p.f) = true := by simpa using h1
      have HM := Lib.hid (show Many s m today most n from ⟨HALL.out, HS.out.2 (Or.inr (Or.inl h1))⟩)
      gi_wp2_with fail
      exact ⟨(KeepsOthers.refl _).from _, n, ⟨rfl, HM.out⟩, HXX.out, ⟨⟨_, HV.out, HR.out⟩, HBB.out⟩⟩
    · have q1 : ((n : Int) == most) = false := by simpa using h
      have q2 : decide (today < p.f) = false := by simpa using h1
      have q3 : (s.e != 0) = true := by simpa using h3
      have q4 : decide (s.e ≤ p.f) = true := by simpa using h4
      have HM := Lib.hid (show Many s m today most n from ⟨HALL.out, HS.out.2 (Or.inr (Or.inr ⟨h3, h4⟩))⟩)
      gi_wp2_with fail
      exact ⟨(KeepsOthers.refl _).from _, n, ⟨rfl, HM.out⟩, HXX.out, ⟨⟨_, HV.out, HR.out⟩, HBB.out⟩⟩
    · have q1 : ((n : Int) == most) = false := by simpa using h
      have q2 : decide (today < p.f) = false := by simpa using h1
      have q3 : (s.e != 0) = false := by simpa using h3
      have HNS := Lib.hid (show ¬ Stop s m today most n from fun hh => by have := HS.out.1 hh; omega)
      have hen := en_bd (e := s.e) (n := p.n) (Or.inl h3) (by omega)
      clear h3 h1
      gi_wp2_with fail
      refine ⟨trivial, (CallsIn.inRound l (callsIn_wide.2 (end_c p s _))).mono ?_⟩
      rintro e w4 ⟨rfl, hb4⟩
      have X4 := Lib.hid (HXX.out.later hb4)
      have V4 := Lib.hid (boxed_later HV.out hb4)
      have R4 := Lib.hid (own_later HR.out hb4)
      have G4 := Lib.hid (HG.out.later hb4)
      have hk4 := Lib.hid hb4
      clear hb4 x0 x1 x2 x3 x4 x5 x6 x7 x8 x9 xlt hc0 g0 g1 g2 g3 ht hm
      obtain ⟨hs, ht, hm⟩ := X4.out.reads
      obtain ⟨x0, x1, x2, x3, x4, x5, x6, x7, x8, x9, xlt⟩ := hs
      have hc0 := V4.out.cell
      have g0 : w4.cell? ⟨g, 0, Option.none⟩ = some (.int .i64 p.k) := G4.out.cell 0
      have g1 : w4.cell? ⟨g, 1, Option.none⟩ = some (.int .i64 p.f) := G4.out.cell 1
      have g2 : w4.cell? ⟨g, 2, Option.none⟩ = some (.int .i64 p.n) := G4.out.cell 2
      have g3 : w4.cell? ⟨g, 3, Option.none⟩ = some (.int .i64 p.u) := G4.out.cell 3
      gi_wp2_with fail
      have KP := Lib.hid (fun u => part_c p s.p p.f (en s.e p.n) u HPS.out hpb.1 (by omega) hen.1 (by omega))
      obtain ⟨q, hq⟩ : ∃ q, onv s.p (p.pl p.f) (p.pl (en s.e p.n)) p.u = q := ⟨_, rfl⟩
      rw [hq] at KP
      have HQ := Lib.hid hq
      clear hq
      refine region_round (S := fun u => u.cell? ⟨g, 0, Option.none⟩ = some (.int .i64 p.k) ∧ u.cell? ⟨g, 1, Option.none⟩ = some (.int .i64 p.f) ∧ u.cell? ⟨g, 2, Option.none⟩ = some (.int .i64 p.n) ∧ u.cell? ⟨g, 3, Option.none⟩ = some (.int .i64 p.u) ∧ u.cell? ⟨w.heap.size, 6, Option.none⟩ = some (.int .i64 s.p)) (by kernel_rfl) (fun ⟨_, _, h⟩ => h) (noDefer_all (by kernel_rfl)) ?_ (fun hHeld => ?_)
      · exact due_S X4.out.drew G4.out.drew
      refine wpAnyH_take (i := 1) (v := ?_) rfl (by kernel_rfl) (by kernel_rfl) (by kernel_rfl) (fun _ _ _ h => h) (Or.inl ⟨by rfl, ?_⟩) (by assumption) ?_
      rotate_left
      · intro wS hSw
        (try dsimp only at hSw)
        go_simp
        try with_reducible rfl
      try go_frame
      refine wpAnyH_take (i := 2) (v := ?_) rfl (by kernel_rfl) (by kernel_rfl) (by kernel_rfl) (fun _ _ _ h => h) (Or.inl ⟨by rfl, ?_⟩) (by assumption) ?_
      rotate_left
      · intro wS hSw
        (try dsimp only at hSw)
        go_simp
        try with_reducible rfl
      try go_frame
      refine wpAnyH_take (i := 3) (v := ?_) rfl (by kernel_rfl) (by kernel_rfl) (by kernel_rfl) (fun _ _ _ h => h) (Or.inl ⟨by rfl, ?_⟩) (by assumption) ?_
      rotate_left
      · intro wS hSw
        (try dsimp only at hSw)
        go_simp
        try with_reducible rfl
      try go_frame
      refine wpAnyH_take (i := 4) (v := ?_) rfl (by kernel_rfl) (by kernel_rfl) (by kernel_rfl) (fun _ _ _ h => h) (Or.inl ⟨by rfl, ?_⟩) (by assumption) ?_
      rotate_left
      · intro wS hSw
        (try dsimp only at hSw)
        go_simp
        try with_reducible rfl
      try go_frame
      refine wpAnyH_take (i := 5) (v := ?_) rfl (by kernel_rfl) (by kernel_rfl) (by kernel_rfl) (fun _ _ _ h => h) (Or.inl ⟨by rfl, ?_⟩) (by assumption) ?_
      rotate_left
      · intro wS hSw
        (try dsimp only at hSw)
        go_simp
        try with_reducible rfl
      try go_frame
      refine wpAnyH_take (i := 6) (v := ?_) rfl (by kernel_rfl) (by kernel_rfl) (by kernel_rfl) (fun _ _ _ h => h) (Or.inl ⟨by rfl, ?_⟩) (by assumption) ?_
      rotate_left
      · intro wS hSw
        (try dsimp only at hSw)
        go_simp
        try with_reducible rfl
      try go_frame
      refine wpAnyH_take (i := 7) (v := ?_) rfl (by kernel_rfl) (by kernel_rfl) (by kernel_rfl) (fun _ _ _ h => h) (Or.inl ⟨by rfl, ?_⟩) (by assumption) ?_
      rotate_left
      · intro wS hSw
        (try dsimp only at hSw)
        go_simp
        try with_reducible rfl
      try go_frame
      refine wpAnyH_take (i := 8) (v := ?_) rfl (by kernel_rfl) (by kernel_rfl) (by kernel_rfl) (fun _ _ _ h => h) (Or.inl ⟨by rfl, ?_⟩) (by assumption) ?_
      rotate_left
      · intro wS hSw
        (try dsimp only at hSw)
        go_simp
        try with_reducible rfl
      try go_frame
      refine wpAnyH_take (i := 9) (v := ?_) rfl (by kernel_rfl) (by kernel_rfl) (by kernel_rfl) (fun _ _ _ h => h) (Or.inl ⟨by rfl, ?_⟩) (by assumption) ?_
      rotate_left
      · intro wS hSw
        (try dsimp only at hSw)
        go_simp
        try with_reducible rfl
      try go_frame
      refine wpAnyH_take (i := 10) (v := ?_) rfl (by kernel_rfl) (by kernel_rfl) (by kernel_rfl) (fun _ _ _ h => h) (Or.inl ⟨by rfl, ?_⟩) (by assumption) ?_
      rotate_left
      · intro wS hSw
        (try dsimp only at hSw)
        go_simp
        try with_reducible rfl
      try go_frame
      refine wpAnyH_take (i := 11) (v := ?_) rfl (by kernel_rfl) (by kernel_rfl) (by kernel_rfl) (fun _ _ _ h => h) (Or.inl ⟨by rfl, ?_⟩) (by assumption) ?_
      rotate_left
      · intro wS hSw
        (try dsimp only at hSw)
        go_simp
        try with_reducible rfl
      try go_frame
      refine wpAnyH_ready (rs := [0, 12]) (by kernel_rfl) (by simp) ?_
      refine AllReadyH.cons rfl (fun K hK => ?_) ?_
      · have hl4 : w4.drew.cell? ⟨d, 0, Option.none⟩ = some (.slice va n vc) := V4.out.cell
        go_simp
        refine hK.out _ _ ?_ (fun hHeld => ?_)
        · exact due_S X4.out.drew G4.out.drew
        clear hK K
        try go_frame
        refine wpAnyH_ready (rs := [12]) (by kernel_rfl) (by simp) ?_
        refine AllReadyH.cons rfl (fun K hK => ?_) AllReadyH.nil
        go_simp
        refine (KP.out _).mono ?_
        rintro e u3 ⟨rfl, hb5⟩
        have hb5 : Below w4.heap.size w4 u3 := ⟨hb5.os, hb5.tape, hb5.output, hb5.size, hb5.block⟩
        have X5 := Lib.hid (X4.out.later hb5)
        have V5 := Lib.hid (boxed_later V4.out hb5)
        have R5 := Lib.hid (own_later R4.out hb5)
        have G5 := Lib.hid (G4.out.later hb5)
        have hb6 := Lib.hid (hk4.out.trans (hb5.mono hk4.out.size))
        have hl5 : u3.cell? ⟨d, 0, Option.none⟩ = some (.slice va n vc) := V5.out.cell
        clear hb5
        go_wp2_with fail
        refine hK.out _ _ ?_ (fun hHeld => ?_)
        · exact due_S X5.out G5.out
        clear hK K
        try go_frame
        refine wpAnyH_take (i := 13) (v := ?_) rfl (by kernel_rfl) (by kernel_rfl) (by kernel_rfl) (fun _ _ _ h => h) (Or.inl ⟨by rfl, ?_⟩) (by assumption) ?_
        rotate_left
        · intro wS hSw
          (try dsimp only at hSw)
          go_simp
          try with_reducible rfl
        try go_frame
        refine wpAnyH_ready (rs := [14]) (by kernel_rfl) (by simp) ?_
        refine AllReadyH.cons rfl (fun K hK => ?_) AllReadyH.nil
        go_simp
        have hl6 := (V5.out.alloc (.cells #[.int .i64 p.k, .int .i64 p.f, .int .i64 (en s.e p.n), .int .i64 q] 57)).cell
        refine hK.out _ _ ?_ (fun hHeld => ?_)
        · exact due_S (X5.out.later ((Below.refl _ _).alloc (Nat.le_refl _) _)) (G5.out.alloc _)
        clear hK K
        try go_frame
        refine wpAnyH_ready (rs := [15]) (by kernel_rfl) (by simp) ?_
        refine AllReadyH.cons rfl (fun K hK => ?_) AllReadyH.nil
        refine step_append_lies _ rfl _ _ 27 rfl (d + 2) 57 i0 (.agg #[.int .i64 0, .int .i64 0, .int .i64 0, .int .i64 0]) 4 32 Tryd.underlying27 hi hz0 hz1 hz2 rfl (by decide) (.slice va n vc) n (cellsB (bills s m n)) rfl (R5.out.alloc _) ⟨u3.heap.size, 0, Option.none⟩ 1 1 [.int .i64 p.k, .int .i64 p.f, .int .i64 (en s.e p.n), .int .i64 q] rfl rfl (four_new _ _ _ _ _ _) (by simp [Value.oneCell']) (by omega) (by unfold maxLen; omega) (by omega) (by have := hb6.out.size; simp; omega) _ rfl ?_
        intro g' cap' w7 hown7 hgrow7 _ _
        have hP := push V5.out (by omega) (by have := hb6.out.size; omega) R5.out hown7 hgrow7
        have hS7 := due_S7 X5.out G5.out hd0 (by have := hb6.out.size; omega) R5.out hgrow7
        have hl7 := hP.1.cell
        have hf7 := hP.1.frozen
        have hz7 : w7.heap.size > d := hP.1.lt
        refine hK.out _ _ ?_ (fun hHeld => ?_)
        · exact hS7.1
        clear hK K
        try go_frame
        refine wpAnyH_ready (rs := [16]) (by kernel_rfl) (by simp) ?_
        refine AllReadyH.cons rfl (fun K hK => ?_) AllReadyH.nil
        go_simp
        refine hK.out _ _ ?_ (fun hHeld => ?_)
        · exact hS7.2 _
        clear hK K
        try go_frame
        refine wpAnyH_done (by kernel_rfl) ?_ _
        exact due_leaf (a := { tmps := #[], defers := [] }) hd0 hlt hn1 X5.out hb6.out HALL.out HNS.out (HBI.out.trans (by rw [HQ.out])) hP
      refine AllReadyH.cons rfl (fun K hK => ?_) AllReadyH.nil
      go_simp
      refine (KP.out _).mono ?_
      rintro e u3 ⟨rfl, hb5⟩
      have hb5 : Below w4.heap.size w4 u3 := ⟨hb5.os, hb5.tape, hb5.output, hb5.size, hb5.block⟩
      have X5 := Lib.hid (X4.out.later hb5)
      have V5 := Lib.hid (boxed_later V4.out hb5)
      have R5 := Lib.hid (own_later R4.out hb5)
      have G5 := Lib.hid (G4.out.later hb5)
      have hb6 := Lib.hid (hk4.out.trans (hb5.mono hk4.out.size))
      have hl5 : u3.cell? ⟨d, 0, Option.none⟩ = some (.slice va n vc) := V5.out.cell
      clear hb5
      go_wp2_with fail
      refine hK.out _ _ ?_ (fun hHeld => ?_)
      · exact due_S X5.out G5.out
      clear hK K
      try go_frame
      refine wpAnyH_take (i := 13) (v := ?_) rfl (by kernel_rfl) (by kernel_rfl) (by kernel_rfl) (fun _ _ _ h => h) (Or.inl ⟨by rfl, ?_⟩) (by assumption) ?_
      rotate_left
      · intro wS hSw
        (try dsimp only at hSw)
        go_simp
        try with_reducible rfl
      try go_frame
      refine wpAnyH_ready (rs := [0, 14]) (by kernel_rfl) (by simp) ?_
      refine AllReadyH.cons rfl (fun K hK => ?_) ?_
      · skip
        go_simp
        refine hK.out _ _ ?_ (fun hHeld => ?_)
        · exact due_S X5.out G5.out
        clear hK K
        try go_frame
        refine wpAnyH_ready (rs := [14]) (by kernel_rfl) (by simp) ?_
        refine AllReadyH.cons rfl (fun K hK => ?_) AllReadyH.nil
        go_simp
        have hl6 := (V5.out.alloc (.cells #[.int .i64 p.k, .int .i64 p.f, .int .i64 (en s.e p.n), .int .i64 q] 57)).cell
        refine hK.out _ _ ?_ (fun hHeld => ?_)
        · exact due_S (X5.out.later ((Below.refl _ _).alloc (Nat.le_refl _) _)) (G5.out.alloc _)
        clear hK K
        try go_frame
        refine wpAnyH_ready (rs := [15]) (by kernel_rfl) (by simp) ?_
        refine AllReadyH.cons rfl (fun K hK => ?_) AllReadyH.nil
        refine step_append_lies _ rfl _ _ 27 rfl (d + 2) 57 i0 (.agg #[.int .i64 0, .int .i64 0, .int .i64 0, .int .i64 0]) 4 32 Tryd.underlying27 hi hz0 hz1 hz2 rfl (by decide) (.slice va n vc) n (cellsB (bills s m n)) rfl (R5.out.alloc _) ⟨u3.heap.size, 0, Option.none⟩ 1 1 [.int .i64 p.k, .int .i64 p.f, .int .i64 (en s.e p.n), .int .i64 q] rfl rfl (four_new _ _ _ _ _ _) (by simp [Value.oneCell']) (by omega) (by unfold maxLen; omega) (by omega) (by have := hb6.out.size; simp; omega) _ rfl ?_
        intro g' cap' w7 hown7 hgrow7 _ _
        have hP := push V5.out (by omega) (by have := hb6.out.size; omega) R5.out hown7 hgrow7
        have hS7 := due_S7 X5.out G5.out hd0 (by have := hb6.out.size; omega) R5.out hgrow7
        have hl7 := hP.1.cell
        have hf7 := hP.1.frozen
        have hz7 : w7.heap.size > d := hP.1.lt
        refine hK.out _ _ ?_ (fun hHeld => ?_)
        · exact hS7.1
        clear hK K
        try go_frame
        refine wpAnyH_ready (rs := [16]) (by kernel_rfl) (by simp) ?_
        refine AllReadyH.cons rfl (fun K hK => ?_) AllReadyH.nil
        go_simp
        refine hK.out _ _ ?_ (fun hHeld => ?_)
        · exact hS7.2 _
        clear hK K
        try go_frame
        refine wpAnyH_done (by kernel_rfl) ?_ _
        exact due_leaf (a := { tmps := #[], defers := [] }) hd0 hlt hn1 X5.out hb6.out HALL.out HNS.out (HBI.out.trans (by rw [HQ.out])) hP
      refine AllReadyH.cons rfl (fun K hK => ?_) AllReadyH.nil
      go_simp
      have hl6 := (V5.out.alloc (.cells #[.int .i64 p.k, .int .i64 p.f, .int .i64 (en s.e p.n), .int .i64 q] 57)).cell
      refine hK.out _ _ ?_ (fun hHeld => ?_)
      · exact due_S (X5.out.later ((Below.refl _ _).alloc (Nat.le_refl _) _)) (G5.out.alloc _)
      clear hK K
      try go_frame
      refine wpAnyH_ready (rs := [0]) (by kernel_rfl) (by simp) ?_
      refine AllReadyH.cons rfl (fun K hK => ?_) AllReadyH.nil
      go_simp
      refine hK.out _ _ ?_ (fun hHeld => ?_)
      · exact due_S (X5.out.later ((Below.refl _ _).alloc (Nat.le_refl _) _)) (G5.out.alloc _)
      clear hK K
      try go_frame
      refine wpAnyH_ready (rs := [15]) (by kernel_rfl) (by simp) ?_
      refine AllReadyH.cons rfl (fun K hK => ?_) AllReadyH.nil
      refine step_append_lies _ rfl _ _ 27 rfl (d + 2) 57 i0 (.agg #[.int .i64 0, .int .i64 0, .int .i64 0, .int .i64 0]) 4 32 Tryd.underlying27 hi hz0 hz1 hz2 rfl (by decide) (.slice va n vc) n (cellsB (bills s m n)) rfl (R5.out.alloc _) ⟨u3.heap.size, 0, Option.none⟩ 1 1 [.int .i64 p.k, .int .i64 p.f, .int .i64 (en s.e p.n), .int .i64 q] rfl rfl (four_new _ _ _ _ _ _) (by simp [Value.oneCell']) (by omega) (by unfold maxLen; omega) (by omega) (by have := hb6.out.size; simp; omega) _ rfl ?_
      intro g' cap' w7 hown7 hgrow7 _ _
      have hP := push V5.out (by omega) (by have := hb6.out.size; omega) R5.out hown7 hgrow7
      have hS7 := due_S7 X5.out G5.out hd0 (by have := hb6.out.size; omega) R5.out hgrow7
      have hl7 := hP.1.cell
      have hf7 := hP.1.frozen
      have hz7 : w7.heap.size > d := hP.1.lt
      refine hK.out _ _ ?_ (fun hHeld => ?_)
      · exact hS7.1
      clear hK K
      try go_frame
      refine wpAnyH_ready (rs := [16]) (by kernel_rfl) (by simp) ?_
      refine AllReadyH.cons rfl (fun K hK => ?_) AllReadyH.nil
      go_simp
      refine hK.out _ _ ?_ (fun hHeld => ?_)
      · exact hS7.2 _
      clear hK K
      try go_frame
      refine wpAnyH_done (by kernel_rfl) ?_ _
      exact due_leaf (a := { tmps := #[], defers := [] }) hd0 hlt hn1 X5.out hb6.out HALL.out HNS.out (HBI.out.trans (by rw [HQ.out])) hP
    · have q1 : ((n : Int) == most) = false := by simpa using h
      have q2 : decide (today < p.f) = false := by simpa using h1
      have q3 : (s.e != 0) = true := by simpa using h3
      have q4 : decide (s.e ≤ p.f) = false := by simpa using h4
      have hse : 1 ≤ s.e := by rcases HO.out.we with hw0 | hw0 <;> omega
      have HNS := Lib.hid (show ¬ Stop s m today most n from fun hh => by have := HS.out.1 hh; omega)
      have hen := en_bd (e := s.e) (n := p.n) (Or.inr hse) (by omega)
      clear h3 h4 h1
      gi_wp2_with fail
      refine ⟨trivial, (CallsIn.inRound l (callsIn_wide.2 (end_c p s _))).mono ?_⟩
      rintro e w4 ⟨rfl, hb4⟩
      have X4 := Lib.hid (HXX.out.later hb4)
      have V4 := Lib.hid (boxed_later HV.out hb4)
      have R4 := Lib.hid (own_later HR.out hb4)
      have G4 := Lib.hid (HG.out.later hb4)
      have hk4 := Lib.hid hb4
      clear hb4 x0 x1 x2 x3 x4 x5 x6 x7 x8 x9 xlt hc0 g0 g1 g2 g3 ht hm
      obtain ⟨hs, ht, hm⟩ := X4.out.reads
      obtain ⟨x0, x1, x2, x3, x4, x5, x6, x7, x8, x9, xlt⟩ := hs
      have hc0 := V4.out.cell
      have g0 : w4.cell? ⟨g, 0, Option.none⟩ = some (.int .i64 p.k) := G4.out.cell 0
      have g1 : w4.cell? ⟨g, 1, Option.none⟩ = some (.int .i64 p.f) := G4.out.cell 1
      have g2 : w4.cell? ⟨g, 2, Option.none⟩ = some (.int .i64 p.n) := G4.out.cell 2
      have g3 : w4.cell? ⟨g, 3, Option.none⟩ = some (.int .i64 p.u) := G4.out.cell 3
      gi_wp2_with fail
      have KP := Lib.hid (fun u => part_c p s.p p.f (en s.e p.n) u HPS.out hpb.1 (by omega) hen.1 (by omega))
      obtain ⟨q, hq⟩ : ∃ q, onv s.p (p.pl p.f) (p.pl (en s.e p.n)) p.u = q := ⟨_, rfl⟩
      rw [hq] at KP
      have HQ := Lib.hid hq
      clear hq
      refine region_round (S := fun u => u.cell? ⟨g, 0, Option.none⟩ = some (.int .i64 p.k) ∧ u.cell? ⟨g, 1, Option.none⟩ = some (.int .i64 p.f) ∧ u.cell? ⟨g, 2, Option.none⟩ = some (.int .i64 p.n) ∧ u.cell? ⟨g, 3, Option.none⟩ = some (.int .i64 p.u) ∧ u.cell? ⟨w.heap.size, 6, Option.none⟩ = some (.int .i64 s.p)) (by kernel_rfl) (fun ⟨_, _, h⟩ => h) (noDefer_all (by kernel_rfl)) ?_ (fun hHeld => ?_)
      · exact due_S X4.out.drew G4.out.drew
      refine wpAnyH_take (i := 1) (v := ?_) rfl (by kernel_rfl) (by kernel_rfl) (by kernel_rfl) (fun _ _ _ h => h) (Or.inl ⟨by rfl, ?_⟩) (by assumption) ?_
      rotate_left
      · intro wS hSw
        (try dsimp only at hSw)
        go_simp
        try with_reducible rfl
      try go_frame
      refine wpAnyH_take (i := 2) (v := ?_) rfl (by kernel_rfl) (by kernel_rfl) (by kernel_rfl) (fun _ _ _ h => h) (Or.inl ⟨by rfl, ?_⟩) (by assumption) ?_
      rotate_left
      · intro wS hSw
        (try dsimp only at hSw)
        go_simp
        try with_reducible rfl
      try go_frame
      refine wpAnyH_take (i := 3) (v := ?_) rfl (by kernel_rfl) (by kernel_rfl) (by kernel_rfl) (fun _ _ _ h => h) (Or.inl ⟨by rfl, ?_⟩) (by assumption) ?_
      rotate_left
      · intro wS hSw
        (try dsimp only at hSw)
        go_simp
        try with_reducible rfl
      try go_frame
      refine wpAnyH_take (i := 4) (v := ?_) rfl (by kernel_rfl) (by kernel_rfl) (by kernel_rfl) (fun _ _ _ h => h) (Or.inl ⟨by rfl, ?_⟩) (by assumption) ?_
      rotate_left
      · intro wS hSw
        (try dsimp only at hSw)
        go_simp
        try with_reducible rfl
      try go_frame
      refine wpAnyH_take (i := 5) (v := ?_) rfl (by kernel_rfl) (by kernel_rfl) (by kernel_rfl) (fun _ _ _ h => h) (Or.inl ⟨by rfl, ?_⟩) (by assumption) ?_
      rotate_left
      · intro wS hSw
        (try dsimp only at hSw)
        go_simp
        try with_reducible rfl
      try go_frame
      refine wpAnyH_take (i := 6) (v := ?_) rfl (by kernel_rfl) (by kernel_rfl) (by kernel_rfl) (fun _ _ _ h => h) (Or.inl ⟨by rfl, ?_⟩) (by assumption) ?_
      rotate_left
      · intro wS hSw
        (try dsimp only at hSw)
        go_simp
        try with_reducible rfl
      try go_frame
      refine wpAnyH_take (i := 7) (v := ?_) rfl (by kernel_rfl) (by kernel_rfl) (by kernel_rfl) (fun _ _ _ h => h) (Or.inl ⟨by rfl, ?_⟩) (by assumption) ?_
      rotate_left
      · intro wS hSw
        (try dsimp only at hSw)
        go_simp
        try with_reducible rfl
      try go_frame
      refine wpAnyH_take (i := 8) (v := ?_) rfl (by kernel_rfl) (by kernel_rfl) (by kernel_rfl) (fun _ _ _ h => h) (Or.inl ⟨by rfl, ?_⟩) (by assumption) ?_
      rotate_left
      · intro wS hSw
        (try dsimp only at hSw)
        go_simp
        try with_reducible rfl
      try go_frame
      refine wpAnyH_take (i := 9) (v := ?_) rfl (by kernel_rfl) (by kernel_rfl) (by kernel_rfl) (fun _ _ _ h => h) (Or.inl ⟨by rfl, ?_⟩) (by assumption) ?_
      rotate_left
      · intro wS hSw
        (try dsimp only at hSw)
        go_simp
        try with_reducible rfl
      try go_frame
      refine wpAnyH_take (i := 10) (v := ?_) rfl (by kernel_rfl) (by kernel_rfl) (by kernel_rfl) (fun _ _ _ h => h) (Or.inl ⟨by rfl, ?_⟩) (by assumption) ?_
      rotate_left
      · intro wS hSw
        (try dsimp only at hSw)
        go_simp
        try with_reducible rfl
      try go_frame
      refine wpAnyH_take (i := 11) (v := ?_) rfl (by kernel_rfl) (by kernel_rfl) (by kernel_rfl) (fun _ _ _ h => h) (Or.inl ⟨by rfl, ?_⟩) (by assumption) ?_
      rotate_left
      · intro wS hSw
        (try dsimp only at hSw)
        go_simp
        try with_reducible rfl
      try go_frame
      refine wpAnyH_ready (rs := [0, 12]) (by kernel_rfl) (by simp) ?_
      refine AllReadyH.cons rfl (fun K hK => ?_) ?_
      · have hl4 : w4.drew.cell? ⟨d, 0, Option.none⟩ = some (.slice va n vc) := V4.out.cell
        go_simp
        refine hK.out _ _ ?_ (fun hHeld => ?_)
        · exact due_S X4.out.drew G4.out.drew
        clear hK K
        try go_frame
        refine wpAnyH_ready (rs := [12]) (by kernel_rfl) (by simp) ?_
        refine AllReadyH.cons rfl (fun K hK => ?_) AllReadyH.nil
        go_simp
        refine (KP.out _).mono ?_
        rintro e u3 ⟨rfl, hb5⟩
        have hb5 : Below w4.heap.size w4 u3 := ⟨hb5.os, hb5.tape, hb5.output, hb5.size, hb5.block⟩
        have X5 := Lib.hid (X4.out.later hb5)
        have V5 := Lib.hid (boxed_later V4.out hb5)
        have R5 := Lib.hid (own_later R4.out hb5)
        have G5 := Lib.hid (G4.out.later hb5)
        have hb6 := Lib.hid (hk4.out.trans (hb5.mono hk4.out.size))
        have hl5 : u3.cell? ⟨d, 0, Option.none⟩ = some (.slice va n vc) := V5.out.cell
        clear hb5
        go_wp2_with fail
        refine hK.out _ _ ?_ (fun hHeld => ?_)
        · exact due_S X5.out G5.out
        clear hK K
        try go_frame
        refine wpAnyH_take (i := 13) (v := ?_) rfl (by kernel_rfl) (by kernel_rfl) (by kernel_rfl) (fun _ _ _ h => h) (Or.inl ⟨by rfl, ?_⟩) (by assumption) ?_
        rotate_left
        · intro wS hSw
          (try dsimp only at hSw)
          go_simp
          try with_reducible rfl
        try go_frame
        refine wpAnyH_ready (rs := [14]) (by kernel_rfl) (by simp) ?_
        refine AllReadyH.cons rfl (fun K hK => ?_) AllReadyH.nil
        go_simp
        have hl6 := (V5.out.alloc (.cells #[.int .i64 p.k, .int .i64 p.f, .int .i64 (en s.e p.n), .int .i64 q] 57)).cell
        refine hK.out _ _ ?_ (fun hHeld => ?_)
        · exact due_S (X5.out.later ((Below.refl _ _).alloc (Nat.le_refl _) _)) (G5.out.alloc _)
        clear hK K
        try go_frame
        refine wpAnyH_ready (rs := [15]) (by kernel_rfl) (by simp) ?_
        refine AllReadyH.cons rfl (fun K hK => ?_) AllReadyH.nil
        refine step_append_lies _ rfl _ _ 27 rfl (d + 2) 57 i0 (.agg #[.int .i64 0, .int .i64 0, .int .i64 0, .int .i64 0]) 4 32 Tryd.underlying27 hi hz0 hz1 hz2 rfl (by decide) (.slice va n vc) n (cellsB (bills s m n)) rfl (R5.out.alloc _) ⟨u3.heap.size, 0, Option.none⟩ 1 1 [.int .i64 p.k, .int .i64 p.f, .int .i64 (en s.e p.n), .int .i64 q] rfl rfl (four_new _ _ _ _ _ _) (by simp [Value.oneCell']) (by omega) (by unfold maxLen; omega) (by omega) (by have := hb6.out.size; simp; omega) _ rfl ?_
        intro g' cap' w7 hown7 hgrow7 _ _
        have hP := push V5.out (by omega) (by have := hb6.out.size; omega) R5.out hown7 hgrow7
        have hS7 := due_S7 X5.out G5.out hd0 (by have := hb6.out.size; omega) R5.out hgrow7
        have hl7 := hP.1.cell
        have hf7 := hP.1.frozen
        have hz7 : w7.heap.size > d := hP.1.lt
        refine hK.out _ _ ?_ (fun hHeld => ?_)
        · exact hS7.1
        clear hK K
        try go_frame
        refine wpAnyH_ready (rs := [16]) (by kernel_rfl) (by simp) ?_
        refine AllReadyH.cons rfl (fun K hK => ?_) AllReadyH.nil
        go_simp
        refine hK.out _ _ ?_ (fun hHeld => ?_)
        · exact hS7.2 _
        clear hK K
        try go_frame
        refine wpAnyH_done (by kernel_rfl) ?_ _
        exact due_leaf (a := { tmps := #[], defers := [] }) hd0 hlt hn1 X5.out hb6.out HALL.out HNS.out (HBI.out.trans (by rw [HQ.out])) hP
      refine AllReadyH.cons rfl (fun K hK => ?_) AllReadyH.nil
      go_simp
      refine (KP.out _).mono ?_
      rintro e u3 ⟨rfl, hb5⟩
      have hb5 : Below w4.heap.size w4 u3 := ⟨hb5.os, hb5.tape, hb5.output, hb5.size, hb5.block⟩
      have X5 := Lib.hid (X4.out.later hb5)
      have V5 := Lib.hid (boxed_later V4.out hb5)
      have R5 := Lib.hid (own_later R4.out hb5)
      have G5 := Lib.hid (G4.out.later hb5)
      have hb6 := Lib.hid (hk4.out.trans (hb5.mono hk4.out.size))
      have hl5 : u3.cell? ⟨d, 0, Option.none⟩ = some (.slice va n vc) := V5.out.cell
      clear hb5
      go_wp2_with fail
      refine hK.out _ _ ?_ (fun hHeld => ?_)
      · exact due_S X5.out G5.out
      clear hK K
      try go_frame
      refine wpAnyH_take (i := 13) (v := ?_) rfl (by kernel_rfl) (by kernel_rfl) (by kernel_rfl) (fun _ _ _ h => h) (Or.inl ⟨by rfl, ?_⟩) (by assumption) ?_
      rotate_left
      · intro wS hSw
        (try dsimp only at hSw)
        go_simp
        try with_reducible rfl
      try go_frame
      refine wpAnyH_ready (rs := [0, 14]) (by kernel_rfl) (by simp) ?_
      refine AllReadyH.cons rfl (fun K hK => ?_) ?_
      · skip
        go_simp
        refine hK.out _ _ ?_ (fun hHeld => ?_)
        · exact due_S X5.out G5.out
        clear hK K
        try go_frame
        refine wpAnyH_ready (rs := [14]) (by kernel_rfl) (by simp) ?_
        refine AllReadyH.cons rfl (fun K hK => ?_) AllReadyH.nil
        go_simp
        have hl6 := (V5.out.alloc (.cells #[.int .i64 p.k, .int .i64 p.f, .int .i64 (en s.e p.n), .int .i64 q] 57)).cell
        refine hK.out _ _ ?_ (fun hHeld => ?_)
        · exact due_S (X5.out.later ((Below.refl _ _).alloc (Nat.le_refl _) _)) (G5.out.alloc _)
        clear hK K
        try go_frame
        refine wpAnyH_ready (rs := [15]) (by kernel_rfl) (by simp) ?_
        refine AllReadyH.cons rfl (fun K hK => ?_) AllReadyH.nil
        refine step_append_lies _ rfl _ _ 27 rfl (d + 2) 57 i0 (.agg #[.int .i64 0, .int .i64 0, .int .i64 0, .int .i64 0]) 4 32 Tryd.underlying27 hi hz0 hz1 hz2 rfl (by decide) (.slice va n vc) n (cellsB (bills s m n)) rfl (R5.out.alloc _) ⟨u3.heap.size, 0, Option.none⟩ 1 1 [.int .i64 p.k, .int .i64 p.f, .int .i64 (en s.e p.n), .int .i64 q] rfl rfl (four_new _ _ _ _ _ _) (by simp [Value.oneCell']) (by omega) (by unfold maxLen; omega) (by omega) (by have := hb6.out.size; simp; omega) _ rfl ?_
        intro g' cap' w7 hown7 hgrow7 _ _
        have hP := push V5.out (by omega) (by have := hb6.out.size; omega) R5.out hown7 hgrow7
        have hS7 := due_S7 X5.out G5.out hd0 (by have := hb6.out.size; omega) R5.out hgrow7
        have hl7 := hP.1.cell
        have hf7 := hP.1.frozen
        have hz7 : w7.heap.size > d := hP.1.lt
        refine hK.out _ _ ?_ (fun hHeld => ?_)
        · exact hS7.1
        clear hK K
        try go_frame
        refine wpAnyH_ready (rs := [16]) (by kernel_rfl) (by simp) ?_
        refine AllReadyH.cons rfl (fun K hK => ?_) AllReadyH.nil
        go_simp
        refine hK.out _ _ ?_ (fun hHeld => ?_)
        · exact hS7.2 _
        clear hK K
        try go_frame
        refine wpAnyH_done (by kernel_rfl) ?_ _
        exact due_leaf (a := { tmps := #[], defers := [] }) hd0 hlt hn1 X5.out hb6.out HALL.out HNS.out (HBI.out.trans (by rw [HQ.out])) hP
      refine AllReadyH.cons rfl (fun K hK => ?_) AllReadyH.nil
      go_simp
      have hl6 := (V5.out.alloc (.cells #[.int .i64 p.k, .int .i64 p.f, .int .i64 (en s.e p.n), .int .i64 q] 57)).cell
      refine hK.out _ _ ?_ (fun hHeld => ?_)
      · exact due_S (X5.out.later ((Below.refl _ _).alloc (Nat.le_refl _) _)) (G5.out.alloc _)
      clear hK K
      try go_frame
      refine wpAnyH_ready (rs := [0]) (by kernel_rfl) (by simp) ?_
      refine AllReadyH.cons rfl (fun K hK => ?_) AllReadyH.nil
      go_simp
      refine hK.out _ _ ?_ (fun hHeld => ?_)
      · exact due_S (X5.out.later ((Below.refl _ _).alloc (Nat.le_refl _) _)) (G5.out.alloc _)
      clear hK K
      try go_frame
      refine wpAnyH_ready (rs := [15]) (by kernel_rfl) (by simp) ?_
      refine AllReadyH.cons rfl (fun K hK => ?_) AllReadyH.nil
      refine step_append_lies _ rfl _ _ 27 rfl (d + 2) 57 i0 (.agg #[.int .i64 0, .int .i64 0, .int .i64 0, .int .i64 0]) 4 32 Tryd.underlying27 hi hz0 hz1 hz2 rfl (by decide) (.slice va n vc) n (cellsB (bills s m n)) rfl (R5.out.alloc _) ⟨u3.heap.size, 0, Option.none⟩ 1 1 [.int .i64 p.k, .int .i64 p.f, .int .i64 (en s.e p.n), .int .i64 q] rfl rfl (four_new _ _ _ _ _ _) (by simp [Value.oneCell']) (by omega) (by unfold maxLen; omega) (by omega) (by have := hb6.out.size; simp; omega) _ rfl ?_
      intro g' cap' w7 hown7 hgrow7 _ _
      have hP := push V5.out (by omega) (by have := hb6.out.size; omega) R5.out hown7 hgrow7
      have hS7 := due_S7 X5.out G5.out hd0 (by have := hb6.out.size; omega) R5.out hgrow7
      have hl7 := hP.1.cell
      have hf7 := hP.1.frozen
      have hz7 : w7.heap.size > d := hP.1.lt
      refine hK.out _ _ ?_ (fun hHeld => ?_)
      · exact hS7.1
      clear hK K
      try go_frame
      refine wpAnyH_ready (rs := [16]) (by kernel_rfl) (by simp) ?_
      refine AllReadyH.cons rfl (fun K hK => ?_) AllReadyH.nil
      go_simp
      refine hK.out _ _ ?_ (fun hHeld => ?_)
      · exact hS7.2 _
      clear hK K
      try go_frame
      refine wpAnyH_done (by kernel_rfl) ?_ _
      exact due_leaf (a := { tmps := #[], defers := [] }) hd0 hlt hn1 X5.out hb6.out HALL.out HNS.out (HBI.out.trans (by rw [HQ.out])) hP
  case done =>
    rintro xs W hS ⟨hall, hX, hC⟩ hK2
    have hM : Many s m today most xs.length := ⟨hall, by
      unfold Stop
      rcases hS with h | h
      · exact Or.inr (Or.inl h)
      · exact Or.inr (Or.inr (Or.inl h))⟩
    obtain ⟨n, hn⟩ : ∃ n, xs.length = n := ⟨_, rfl⟩
    rw [hn] at hC hM
    rw [hz3] at hK2 ⊢
    clear hn hall hS
    obtain ⟨⟨v, hv, hrow⟩, hBel⟩ := hC
    obtain ⟨va, vc, rfl⟩ := own_slice hrow
    have hle := hM.le (by omega) HO.out.num
    obtain ⟨hs, ht, hm⟩ := hX.reads
    obtain ⟨x0, x1, x2, x3, x4, x5, x6, x7, x8, x9, xlt⟩ := hs
    obtain ⟨y0, y1, y2, y3, y4, y5, y6, y7, y8, y9, z0, z1, z2, z3, z4, z5, z6, z7, z8, z9⟩ := hX.writes
    have hc0 := hv.cell
    have f7 := hX.s.frozen 7
    have HX := Lib.hid hX
    have HV := Lib.hid hv
    have HR := Lib.hid hrow
    have HB := Lib.hid hBel
    have HM := Lib.hid hM
    have HK2 := Lib.hid hK2
    clear hX hv hrow hBel hM hK2 hs3 ht3 hD3 hl3
    gi_wp2_with fail
    obtain ⟨W5, hW5⟩ : ∃ W5, W.setCell ⟨w.heap.size, 7, Option.none⟩ (.int .i64 (s.b + (n : Int))) = W5 := ⟨_, rfl⟩
    have S5 := Lib.hid (show Blk W5 w.heap.size (s.after n).cells 26 by rw [← hW5]; exact HX.out.s.set 7 _)
    have R5 := Lib.hid (show Blk W5 (w.heap.size + 3) Sb.none.cells 26 by rw [← hW5]; exact HX.out.r.other 7 _ (by omega))
    have V5 := Lib.hid (show Boxed W5 d 27 (.slice va n vc) by rw [← hW5]; exact Blk.other HV.out 7 _ (by omega))
    have O5 := Lib.hid (show W5.ownsRow (d + 2) 57 4 (.slice va n vc) n (cellsB (bills s m n)) by rw [← hW5]; exact own_set7 HR.out (by omega) _)
    have B5 := Lib.hid (show Below w.heap.size w W5 by rw [← hW5]; exact HB.out.setCell (by simp) _)
    have K5 := Lib.hid (show W5.heap[d + 2]? = some (.deferred (some [])) by rw [← hW5]; exact ((KeepsOthers.setCell W ⟨w.heap.size, 7, Option.none⟩ _).same _ _ HK2.out rfl))
    rw [hW5]
    clear hW5 HX HV HR HB HK2 x0 x1 x2 x3 x4 x5 x6 x7 x8 x9 xlt y0 y1 y2 y3 y4 y5 y6 y7 y8 y9 z0 z1 z2 z3 z4 z5 z6 z7 z8 z9 hc0 f7 ht hm
    obtain ⟨x0, x1, x2, x3, x4, x5, x6, x7, x8, x9, xlt⟩ := Sx.of S5.out
    dsimp only [Sb.after] at x0 x1 x2 x3 x4 x5 x6 x7 x8 x9
    obtain ⟨y0, y1, y2, y3, y4, y5, y6, y7, y8, y9, z0, z1, z2, z3, z4, z5, z6, z7, z8, z9⟩ := blk_writes R5.out
    have hc0 := V5.out.cell
    refine wpIn_wide.2 ?_
    go_region
    generalize hW6 : World.drew _ = W6
    have K6 := Lib.hid (show W6.heap[d + 2]? = some (.deferred (some [])) by rw [← hW6, drew_heap]; exact (ten_heap (W := W5) (B := w.heap.size + 1 + 1 + 1) (j := d + 2) (by omega) (.int .u64 s.id) (.int .u64 s.cu) (.int .u64 s.pl) (.int .i64 s.c.s) (.int .i64 s.c.a) (.int .i64 s.c.e) (.int .i64 s.p) (.int .i64 (s.b + (n : Int))) (.int .i64 s.s) (.int .i64 s.e)).trans K5.out)
    have R6 := Lib.hid (show Blk W6 (w.heap.size + 1 + 1 + 1) (s.after n).cells 26 by rw [← hW6]; exact ((show Blk W5 (w.heap.size + 1 + 1 + 1) _ _ from R5.out).ten (.int .u64 s.id) (.int .u64 s.cu) (.int .u64 s.pl) (.int .i64 s.c.s) (.int .i64 s.c.a) (.int .i64 s.c.e) (.int .i64 s.p) (.int .i64 (s.b + (n : Int))) (.int .i64 s.s) (.int .i64 s.e)).drew)
    have O6 := Lib.hid (show W6.ownsRow (d + 2) 57 4 (.slice va n vc) n (cellsB (bills s m n)) by rw [← hW6]; exact own_later (own_ten (B := w.heap.size + 1 + 1 + 1) O5.out (by omega) (.int .u64 s.id) (.int .u64 s.cu) (.int .u64 s.pl) (.int .i64 s.c.s) (.int .i64 s.c.a) (.int .i64 s.c.e) (.int .i64 s.p) (.int .i64 (s.b + (n : Int))) (.int .i64 s.s) (.int .i64 s.e)) ((Below.refl _ _).drew))
    have B6 := Lib.hid (show Below w.heap.size w W6 by rw [← hW6]; exact (below_ten (B := w.heap.size + 1 + 1 + 1) B5.out (by omega) (.int .u64 s.id) (.int .u64 s.cu) (.int .u64 s.pl) (.int .i64 s.c.s) (.int .i64 s.c.a) (.int .i64 s.c.e) (.int .i64 s.p) (.int .i64 (s.b + (n : Int))) (.int .i64 s.s) (.int .i64 s.e)).drew)
    clear hW6 S5 R5 V5 O5 B5 K5 x0 x1 x2 x3 x4 x5 x6 x7 x8 x9 xlt y0 y1 y2 y3 y4 y5 y6 y7 y8 y9 z0 z1 z2 z3 z4 z5 z6 z7 z8 z9 hc0
    gi_wp2
    refine ⟨by simp, .inl ⟨_, _, rfl, run_takeDeferred K6.out, ?_⟩⟩
    have RF : Blk (W6.putObj (d + 2) (.deferred Option.none)) (w.heap.size + 1 + 1 + 1) (s.after n).cells 26 := (World.putObj_heap_other (by omega)).trans R6.out
    exact ⟨_, res_due rfl rfl rfl RF, n, _, HM.out, rfl, own_lower (ownsRow_putObj O6.out _ K6.out rfl) (by omega), B6.out.grown (grownBy_putObj' _ _ _) B6.out.size (fun j e => by cases e; omega)⟩
  case stop =>
    rintro cd pre W _ ⟨n, ⟨rfl, hM⟩, hX, hC⟩ hK2
    rw [hz3] at hK2 ⊢
    obtain ⟨⟨v, hv, hrow⟩, hBel⟩ := hC
    obtain ⟨va, vc, rfl⟩ := own_slice hrow
    have hle := hM.le (by omega) HO.out.num
    obtain ⟨hs, ht, hm⟩ := hX.reads
    obtain ⟨x0, x1, x2, x3, x4, x5, x6, x7, x8, x9, xlt⟩ := hs
    obtain ⟨y0, y1, y2, y3, y4, y5, y6, y7, y8, y9, z0, z1, z2, z3, z4, z5, z6, z7, z8, z9⟩ := hX.writes
    have hc0 := hv.cell
    have f7 := hX.s.frozen 7
    have HX := Lib.hid hX
    have HV := Lib.hid hv
    have HR := Lib.hid hrow
    have HB := Lib.hid hBel
    have HM := Lib.hid hM
    have HK2 := Lib.hid hK2
    clear hX hv hrow hBel hM hK2 hs3 ht3 hD3 hl3
    gi_wp2_with fail
    obtain ⟨W5, hW5⟩ : ∃ W5, W.setCell ⟨w.heap.size, 7, Option.none⟩ (.int .i64 (s.b + (n : Int))) = W5 := ⟨_, rfl⟩
    have S5 := Lib.hid (show Blk W5 w.heap.size (s.after n).cells 26 by rw [← hW5]; exact HX.out.s.set 7 _)
    have R5 := Lib.hid (show Blk W5 (w.heap.size + 3) Sb.none.cells 26 by rw [← hW5]; exact HX.out.r.other 7 _ (by omega))
    have V5 := Lib.hid (show Boxed W5 d 27 (.slice va n vc) by rw [← hW5]; exact Blk.other HV.out 7 _ (by omega))
    have O5 := Lib.hid (show W5.ownsRow (d + 2) 57 4 (.slice va n vc) n (cellsB (bills s m n)) by rw [← hW5]; exact own_set7 HR.out (by omega) _)
    have B5 := Lib.hid (show Below w.heap.size w W5 by rw [← hW5]; exact HB.out.setCell (by simp) _)
    have K5 := Lib.hid (show W5.heap[d + 2]? = some (.deferred (some [])) by rw [← hW5]; exact ((KeepsOthers.setCell W ⟨w.heap.size, 7, Option.none⟩ _).same _ _ HK2.out rfl))
    rw [hW5]
    clear hW5 HX HV HR HB HK2 x0 x1 x2 x3 x4 x5 x6 x7 x8 x9 xlt y0 y1 y2 y3 y4 y5 y6 y7 y8 y9 z0 z1 z2 z3 z4 z5 z6 z7 z8 z9 hc0 f7 ht hm
    obtain ⟨x0, x1, x2, x3, x4, x5, x6, x7, x8, x9, xlt⟩ := Sx.of S5.out
    dsimp only [Sb.after] at x0 x1 x2 x3 x4 x5 x6 x7 x8 x9
    obtain ⟨y0, y1, y2, y3, y4, y5, y6, y7, y8, y9, z0, z1, z2, z3, z4, z5, z6, z7, z8, z9⟩ := blk_writes R5.out
    have hc0 := V5.out.cell
    refine wpIn_wide.2 ?_
    go_region
    generalize hW6 : World.drew _ = W6
    have K6 := Lib.hid (show W6.heap[d + 2]? = some (.deferred (some [])) by rw [← hW6, drew_heap]; exact (ten_heap (W := W5) (B := w.heap.size + 1 + 1 + 1) (j := d + 2) (by omega) (.int .u64 s.id) (.int .u64 s.cu) (.int .u64 s.pl) (.int .i64 s.c.s) (.int .i64 s.c.a) (.int .i64 s.c.e) (.int .i64 s.p) (.int .i64 (s.b + (n : Int))) (.int .i64 s.s) (.int .i64 s.e)).trans K5.out)
    have R6 := Lib.hid (show Blk W6 (w.heap.size + 1 + 1 + 1) (s.after n).cells 26 by rw [← hW6]; exact ((show Blk W5 (w.heap.size + 1 + 1 + 1) _ _ from R5.out).ten (.int .u64 s.id) (.int .u64 s.cu) (.int .u64 s.pl) (.int .i64 s.c.s) (.int .i64 s.c.a) (.int .i64 s.c.e) (.int .i64 s.p) (.int .i64 (s.b + (n : Int))) (.int .i64 s.s) (.int .i64 s.e)).drew)
    have O6 := Lib.hid (show W6.ownsRow (d + 2) 57 4 (.slice va n vc) n (cellsB (bills s m n)) by rw [← hW6]; exact own_later (own_ten (B := w.heap.size + 1 + 1 + 1) O5.out (by omega) (.int .u64 s.id) (.int .u64 s.cu) (.int .u64 s.pl) (.int .i64 s.c.s) (.int .i64 s.c.a) (.int .i64 s.c.e) (.int .i64 s.p) (.int .i64 (s.b + (n : Int))) (.int .i64 s.s) (.int .i64 s.e)) ((Below.refl _ _).drew))
    have B6 := Lib.hid (show Below w.heap.size w W6 by rw [← hW6]; exact (below_ten (B := w.heap.size + 1 + 1 + 1) B5.out (by omega) (.int .u64 s.id) (.int .u64 s.cu) (.int .u64 s.pl) (.int .i64 s.c.s) (.int .i64 s.c.a) (.int .i64 s.c.e) (.int .i64 s.p) (.int .i64 (s.b + (n : Int))) (.int .i64 s.s) (.int .i64 s.e)).drew)
    clear hW6 S5 R5 V5 O5 B5 K5 x0 x1 x2 x3 x4 x5 x6 x7 x8 x9 xlt y0 y1 y2 y3 y4 y5 y6 y7 y8 y9 z0 z1 z2 z3 z4 z5 z6 z7 z8 z9 hc0
    gi_wp2
    refine ⟨by simp, .inl ⟨_, _, rfl, run_takeDeferred K6.out, ?_⟩⟩
    have RF : Blk (W6.putObj (d + 2) (.deferred Option.none)) (w.heap.size + 1 + 1 + 1) (s.after n).cells 26 := (World.putObj_heap_other (by omega)).trans R6.out
    exact ⟨_, res_due rfl rfl rfl RF, n, _, HM.out, rfl, own_lower (ownsRow_putObj O6.out _ K6.out rfl) (by omega), B6.out.grown (grownBy_putObj' _ _ _) B6.out.size (fun j e => by cases e; omega)⟩
end Go.Proofs.YtjchecjonkmhgaaDoor.Su
