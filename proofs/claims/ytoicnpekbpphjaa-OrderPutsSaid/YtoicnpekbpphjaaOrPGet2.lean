/- Package order: Get, its contract. -/
import Derived.Test.YtoicnpekbpphjaaOrPGet
import Derived.Test.YtoicnpekbpphjaaRfLawE
namespace Go.Proofs.Ytoicnpekbpphjaa.Or
open Go.RowKit Go.Shelf Cm Rf
attribute [local go_sem] Oper.semAt_some
def fsts (pre : List (Fd × Bool)) : List Fd := pre.map (·.1)
theorem fsts_yes (L : List Fd) : fsts (yes L) = L := by simp [fsts, yes, Function.comp_def]
theorem fsts_snoc (pre : List (Fd × Bool)) (y : Fd × Bool) : fsts (pre ++ [y]) = fsts pre ++ [y.1] := by simp [fsts]
theorem fd_put {W : World} {b l : Nat} {f : Fd} {o : Obj} (h : FdAt W b f) (o' : Obj) (hl : W.heap[l]? = some o) (ho : o.isCells = false) : FdAt (W.putObj l o') b f := by
  obtain ⟨h0, h1, h2, h3⟩ := h
  have hne : b ≠ l := by
    rintro rfl
    have hb := h0
    simp only [World.cell?, hl] at hb
    cases o <;> simp_all [Obj.isCells]
  have hbl : (W.putObj l o').heap[b]? = W.heap[b]? := World.putObj_heap_other hne
  exact ⟨(World.cell?_of_block (w := W) hbl).trans h0, (World.cell?_of_block (w := W) hbl).trans h1, (World.cell?_of_block (w := W) hbl).trans h2, by simpa using h3⟩
set_option maxRecDepth 100000 in
set_option maxHeartbeats 4000000 in
theorem pget_in (K F : ByteArray) (w : World) (hK : K.size ≤ 1000) (hk : kindsB K.data.toList = true) (hF : F.size ≤ 1024) :
    Calls Try.prog 16 #[.string K, .string F] w (GetRes K.data.toList F.data.toList w) := by
  have KK := Lib.hid (fun w => kinds_c K w (by omega))
  rw [hk] at KK
  have HK := Lib.hid hk
  have q1 : (F.size : Int) ≤ 1024 := by omega
  have q2 : decide ((1024 : Int) < (F.size : Int)) = false := decide_eq_false (by omega)
  have HFL := Lib.hid (show ¬ 1024 < F.data.toList.length by simpa using hF)
  have hkl : K.data.toList.length = K.size := by simp
  clear hk
  have hmf := mk_fn
  have hmx : Try.prog.follows .mixedOrders = true := by kernel_rfl
  refine (callsIn_wide (n := 4)).1 ?_
  refine callsIn_of_wp_marks Try.func16 rfl trivial ?_ rfl
  simp only [Try.ntmps16, List.size_toArray, List.length_cons, List.length_nil, Nat.reduceAdd, Nat.reduceSub, Array.replicate_succ, Array.replicate_zero, List.push_toArray, List.append_toArray, List.nil_append, List.cons_append]
  gi_wp2_with fail
  refine ⟨trivial, (callsIn_wide.2 (KK.out _)).mono ?_⟩
  rintro e w1 ⟨rfl, rfl⟩
  gi_wp2_with fail
  refine ⟨trivial, (callsIn_wide.2 (fields_c _ _ _)).mono ?_⟩
  rintro e w3 ⟨rfl, rfl⟩
  gi_wp2_with fail
  obtain ⟨d, hd⟩ : ∃ d, w.heap.size + 1 + 1 + 1 = d := ⟨_, rfl⟩
  obtain ⟨W3, hW3⟩ : ∃ W3, ((((w.alloc (.cells #[.slice none 0 0] 22)).alloc (.cells #[.int .i64 0] 27)).alloc (.cells #[.slice none 0 0] 22)).alloc (.cells #[.string K] 9)).alloc (.cells #[.string F] 9) = W3 := ⟨_, rfl⟩
  have hz3 : W3.heap.size = d + 2 := by rw [← hW3, ← hd]; simp
  have hl2 := lay2 (.slice none 0 0) 0 w
  have c0 : Boxed W3 w.heap.size 22 (.slice none 0 0) := by rw [← hW3]; exact ((hl2.1.alloc _).alloc _).alloc _
  have c1 : Boxed W3 (w.heap.size + 1) 27 (.int .i64 0) := by rw [← hW3]; exact ((hl2.2.1.alloc _).alloc _).alloc _
  have c2 : Boxed W3 (w.heap.size + 1 + 1) 22 (.slice none 0 0) := by
    rw [← hW3]
    have := Boxed.new ((w.alloc (.cells #[.slice none 0 0] 22)).alloc (.cells #[.int .i64 0] 27)) 22 (.slice none 0 0)
    exact ((by simpa using this : Boxed _ (w.heap.size + 1 + 1) 22 (.slice none 0 0)).alloc _).alloc _
  have cB : Below w.heap.size w W3 := by rw [← hW3]; exact ((hl2.2.2.alloc (by simp; omega) _).alloc (by simp; omega) _).alloc (by simp; omega) _
  have hkx : Kx d K F W3 := by
    rw [← hW3, ← hd]
    refine ⟨?_, ?_, ?_, by simp⟩ <;> simp [go_sem]
  have h0 : Bxs w [(w.heap.size, 22, .slice none 0 0), (w.heap.size + 1, 27, .int .i64 0)] W3 := by
    refine ⟨fun x hx => ?_, cB⟩
    rcases List.mem_cons.1 hx with rfl | hx
    · exact c0
    · rw [List.mem_singleton] at hx
      subst hx
      exact c1
  have h1 := Coll.start (e := 47) (size := 3) (base := d + 2) c2 cB
  rw [hW3, hd]
  clear hW3 hl2 c0 c1 c2 cB
  obtain ⟨i0, hi, hz0, hz1, hz2⟩ := info_parts infoField
  refine lawE (gf := 36) (lb := #[.pointer (some ⟨d + 1, 0, none⟩), .pointer (some ⟨d, 0, none⟩)]) rfl (enters_of Try.func36 (by kernel_rfl) rfl)
    (fields_yields K F 0 d W3 (Nat.zero_le _) hkx HK.out hK (by omega)) (Below.refl _ _)
    (fun _ _ _ p q => fun j hj => (q j hj).trans (p j hj)) (fun W l o o' hl ho hc => fun j hj => World.putObj_heap_other (by omega)) (fun _ => rfl)
    (fun pre W => (∀ y ∈ pre, y.2 = true) ∧ (Coll w (w.heap.size + 1 + 1) (d + 2) 22 47 3 pre.length (cells3 (fsts pre)) W ∧ Bxs w [(w.heap.size, 22, .slice none 0 0), (w.heap.size + 1, 27, .int .i64 0)] W))
    (fun cd _ W => (cd = .ret ∧ takeAll K.data.toList F.data.toList = none) ∧ Bxs w [(w.heap.size, 22, .slice none 0 0), (w.heap.size + 1, 27, .int .i64 5)] W)
    (Bears.pure _ (Bears.and (Coll.bears _ _ (by omega)) (Bxs.bears (fun _ => _) (by omega)))) (fun cd => Bears.pure (fun _ => cd = .ret ∧ takeAll K.data.toList F.data.toList = none) (Bxs.bears (fun _ => _) (by omega)))
    (Stands.pure _ (Stands.and (Coll.stands _ _ (fun b hb => by subst hb; omega)) (Bxs.stands (fun _ => _) (fun b s hb => by subst hb; simp; omega)))) (fun cd => Stands.pure (fun _ => cd = .ret ∧ takeAll K.data.toList F.data.toList = none) (Bxs.stands (fun _ => _) (fun b s hb => by subst hb; simp; omega))) ⟨fun y hy => by simp at hy, h1, h0⟩
    (fun y a W => ∃ g, a = { tmps := #[.string K, .string F, undef, undef, .pointer (some ⟨w.heap.size, 0, none⟩), .pointer (some ⟨w.heap.size + 1, 0, none⟩), .pointer (some ⟨w.heap.size + 1 + 1, 0, none⟩), .pointer (some ⟨g, 0, none⟩), .bool y.2, .string K, .bool true, .bool false, .string F, .int .i64 F.size, .bool false, .string K, .string F, .func (.func 36) #[] #[.pointer (some ⟨d + 1, 0, none⟩), .pointer (some ⟨d, 0, none⟩)], .agg #[.int .u64 y.1.n, .int .i64 y.1.i, .string y.1.s], .bool y.2, undef, undef, undef, undef, undef, undef, undef], defers := [] } ∧ FdAt W g y.1 ∧ d + 1 < g)
    ?ent ?ke ?assign ?body ?done ?stop
  case ent =>
    rintro x a W l o o' hl ho hc ⟨g, rfl, hfd, hg⟩
    exact ⟨g, rfl, fd_put hfd o' ho hc, hg⟩
  case ke =>
    intro W W1 hlt hb k hk
    exact hb.block k (by omega)
  case assign =>
    intro l y W K2 hlt hK2
    rw [hz3] at hlt
    unfold enc2
    gi_wp2
    refine hK2 _ _ ⟨W.heap.size, rfl, fd_new W y.1 _, by omega⟩ ((Below.refl _ W).alloc (Nat.le_refl _) _)
  case body =>
    rintro l pre y W a ⟨hall, ⟨⟨v, hv, hrow⟩, hB⟩, hX⟩ ⟨hlen, hOk⟩ hlt ⟨g, rfl, hfd, hg⟩
    rw [hz3] at hlt ⊢
    have Q4 := Lib.hid (hX.all _ (List.mem_cons_self))
    have Q5 := Lib.hid (hX.all _ (List.mem_cons_of_mem _ List.mem_cons_self))
    obtain ⟨f, z⟩ := y
    cases z with
    | false =>
      obtain ⟨r4, f4, l4⟩ := boxed_cells Q4.out
      obtain ⟨r5, f5, l5⟩ := boxed_cells Q5.out
      have hN : takeAll K.data.toList F.data.toList = none := by
        rcases hOk with h | h
        · cases h
        · exact h.2
      have HN := Lib.hid hN
      have HB := Lib.hid hX.b
      clear hX hOk hN hall hB hv hrow hfd
      gi_wp2
      obtain ⟨P4, P5⟩ := put2 (.slice none 0 0) (.int .i64 5) Q4.out Q5.out (by simp)
      refine ⟨((KeepsOthers.setCell _ _ _).trans (KeepsOthers.setCell _ _ _)).from _, ⟨rfl, HN.out⟩, fun x hx => ?_, (HB.out.setCell (Nat.le_refl _) _).setCell (by simp) _⟩
      rcases List.mem_cons.1 hx with rfl | hx
      · exact P4
      · rw [List.mem_singleton] at hx
        subst hx
        exact P5
    | true =>
      have hc0 := hv.cell
      have hf0 := hv.frozen
      obtain ⟨e0, e1, e2, e3⟩ := hfd
      have HX := Lib.hid hX
      have hpl : pre.length ≤ 1000 := by omega
      have hsz : w.heap.size + 1 + 1 ≤ W.heap.size := by omega
      clear hX hOk
      gi_wp2_with (gi_at_builtin; refine wpListIn_append_own _ rfl _ _ 22 rfl (d + 2) 47 i0 (.agg #[.int .u64 0, .int .i64 0, .string ⟨#[]⟩]) 3 32 Try.underlying22 hi hz0 hz1 hz2 rfl (by decide) _ _ _ rfl (hrow.alloc _) ⟨W.heap.size, 0, none⟩ 1 1 [.int .u64 f.n, .int .i64 f.i, .string f.s] rfl rfl (three_new _ _ _ _ _) (by simp [Value.oneCell']) (by unfold maxLen; omega) (by omega) (by simp; omega) ?_; intro v' w1' hown' hgrow _; obtain ⟨g', cap', rfl⟩ := ownsRow_succ hown'; obtain ⟨hv1, hv2, hr2, hk2, hj2, hb2⟩ := push hv (by omega) (by omega) hrow hown' hgrow; have hc1 := hv1.cell; have hf1 := hv1.frozen)
      have HF := hb2.mono (Nat.le_trans (Nat.le_succ _) (Nat.le_succ _) : w.heap.size ≤ w.heap.size + 1 + 1)
      refine ⟨hk2.from _, fun j hj => hj2 j (by omega) (by omega), fun q hq => ?_, ⟨⟨_, hv2, ?_⟩, hB.trans HF⟩, HX.out.moved (fun x hx => hj2 x.1 ?_ ?_) (hB.trans HF)⟩
      · rcases List.mem_append.1 hq with h | h
        · exact absurd (hall _ h) (by simp)
        · simp at h
      · rw [fsts_snoc, cells3_snoc]; simpa using hr2
      · rcases List.mem_cons.1 hx with rfl | hx
        · show w.heap.size < d + 2; omega
        · rw [List.mem_singleton] at hx
          subst hx
          show w.heap.size + 1 < d + 2; omega
      · rcases List.mem_cons.1 hx with rfl | hx
        · show w.heap.size ≠ _; omega
        · rw [List.mem_singleton] at hx
          subst hx
          show w.heap.size + 1 ≠ _; omega
  case done =>
    rintro xs W hS ⟨hall, ⟨⟨v, hv, hrow⟩, hB⟩, hX⟩ hK2
    obtain ⟨L, hL, rfl⟩ : ∃ L, takeAll K.data.toList F.data.toList = some L ∧ xs = yes L := by
      rcases hS with h | ⟨fs, z, rfl⟩
      · exact h
      · exact absurd (hall (z, false) (by simp)) (by simp)
    rw [fsts_yes] at hrow
    have hyl : (yes L).length = L.length := by simp [yes]
    rw [hyl] at hrow
    have HR := Lib.hid (get_some HK.out HFL.out hL)
    have Q4 := Lib.hid (hX.all _ (List.mem_cons_self))
    have Q5 := Lib.hid (hX.all _ (List.mem_cons_of_mem _ List.mem_cons_self))
    obtain ⟨r4, f4, l4⟩ := boxed_cells Q4.out
    obtain ⟨r5, f5, l5⟩ := boxed_cells Q5.out
    obtain ⟨va, vc, rfl⟩ : ∃ a cap, v = .slice a L.length cap := by
      rcases hrow.2 with ⟨rfl, h0⟩ | ⟨g, cap, cur, rfl, _⟩
      · exact ⟨none, 0, by rw [h0]⟩
      · exact ⟨_, _, rfl⟩
    have hc0 := hv.cell
    rw [hz3] at hK2 ⊢
    have HKK := Lib.hid hK2
    have HROW := Lib.hid hrow
    have HBB := Lib.hid hB
    dsimp only at r4 f4 l4 r5 f5 l5
    clear hX hK2 hrow hB hS hall hL hyl
    gi_wp2_with fail
    obtain ⟨v, hV⟩ : ∃ v, Value.slice va L.length vc = v := ⟨_, rfl⟩
    rw [hV] at HROW ⊢
    clear hV
    obtain ⟨P4, P5⟩ := put2 v (.int .i64 0) Q4.out Q5.out (by simp)
    have hK3 := (KeepsOthers.same ((KeepsOthers.setCell W ⟨w.heap.size, 0, none⟩ v).trans (KeepsOthers.setCell _ ⟨w.heap.size + 1, 0, none⟩ (.int .i64 0))) _ _ HKK.out rfl)
    refine ⟨by simp, .inl ⟨_, _, rfl, run_takeDeferred hK3, ?_⟩⟩
    have hp := fun (B : Nat) (t : TypeId) (u : Value) (hh : Boxed ((W.setCell ⟨w.heap.size, 0, none⟩ v).setCell ⟨w.heap.size + 1, 0, none⟩ (.int .i64 0)) B t u) => boxed_put hh (.deferred none) hK3 rfl
    have hr := ownsRow_putObj (own_set (own_set HROW.out (by omega) v) (by omega) (.int .i64 0)) (.deferred none) hK3 rfl
    obtain ⟨aa, cap, hvv, hfds⟩ := own_fds hr
    refine ⟨_, res_get rfl rfl (hp _ _ _ P4) (hp _ _ _ P5), aa, cap, ?_, ?_, ((HBB.out.setCell (Nat.le_refl _) _).setCell (by simp) _).grown (grownBy_putObj' _ _ _) (by simp [World.setCell]; have := HBB.out.size; omega) (fun j e => by cases e; omega)⟩
    · rw [HR.out, hvv]
    · rw [HR.out]; exact hfds
  case stop =>
    rintro cd pre W _ ⟨⟨rfl, hN⟩, hX⟩ hK2
    have Q4 := Lib.hid (hX.all _ (List.mem_cons_self))
    have Q5 := Lib.hid (hX.all _ (List.mem_cons_of_mem _ List.mem_cons_self))
    have HR := Lib.hid (get_none HK.out HFL.out hN)
    have HB := Lib.hid hX.b
    rw [hz3] at hK2 ⊢
    have HKK := Lib.hid hK2
    clear hX hN hK2
    gi_wp2
    refine ⟨by simp, .inl ⟨_, _, rfl, run_takeDeferred HKK.out, ?_⟩⟩
    exact ⟨_, res_get rfl rfl (boxed_put Q4.out (.deferred none) HKK.out rfl) (boxed_put Q5.out (.deferred none) HKK.out rfl), nil_res HR.out (HB.out.grown (grownBy_putObj' _ _ _) HB.out.size (fun j e => by cases e; omega))⟩
end Go.Proofs.Ytoicnpekbpphjaa.Or
