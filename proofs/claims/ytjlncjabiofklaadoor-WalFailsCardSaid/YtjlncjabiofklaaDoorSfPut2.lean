/- Package sheaf: Put, its contract. -/
import Derived.Test.YtjlncjabiofklaaDoorSfPut
namespace Go.Proofs.YtjlncjabiofklaaDoor.Shf
open Go.RowKit Go.Shelf Rf
attribute [local go_sem] Oper.semAt_some
theorem Bears.and {β : Type} {B : Nat} {J K : β → World → Prop} (h : Bears B J) (k : Bears B K) : Bears B (fun s W => J s W ∧ K s W) :=
  fun s W l o o' h1 h2 h3 hs => ⟨h s W l o o' h1 h2 h3 hs.1, k s W l o o' h1 h2 h3 hs.2⟩
theorem boxed_cells {W : World} {B : Nat} {t : TypeId} {v : Value} (h : Boxed W B t v) : W.cell? ⟨B, 0, none⟩ = some v ∧ W.frozen? ⟨B, 0, none⟩ = false ∧ B < W.heap.size := ⟨h.cell, h.frozen, h.lt⟩
theorem boxed_put {W : World} {B l : Nat} {t : TypeId} {v : Value} {o : Obj} (h : Boxed W B t v) (o' : Obj) (hl : W.heap[l]? = some o) (ho : o.isCells = false) : Boxed (W.putObj l o') B t v :=
  h.kept (grownBy_putObj' W l o') (by intro e; cases e; rw [show W.heap[B]? = _ from h] at hl; cases hl; cases ho)
theorem put2 {W : World} {a b t u : Nat} {v v' : Value} (p q : Value) (ha : Boxed W a t v) (hb : Boxed W b u v') (hne : a ≠ b) :
    Boxed ((W.setCell ⟨a, 0, none⟩ p).setCell ⟨b, 0, none⟩ q) a t p ∧ Boxed ((W.setCell ⟨a, 0, none⟩ p).setCell ⟨b, 0, none⟩ q) b u q :=
  ⟨boxed_other (ha.set p) q hne, (boxed_other hb p hne.symm).set q⟩
theorem _root_.Go.Proofs.YtjlncjabiofklaaDoor.Rf.Bxs.moved {w0 W W' : World} {l : List (Nat × TypeId × Value)} (h : Bxs w0 l W) (hj : ∀ x ∈ l, W'.heap[x.1]? = W.heap[x.1]?) (hb : Below w0.heap.size w0 W') : Bxs w0 l W' := ⟨fun x hx => (hj x hx).trans (h.all x hx), hb⟩
theorem others_below {W W' : World} (h : Below W.heap.size W W') : KeepsOthers W W' := ⟨h.size, fun _ _ hk _ => lies_below hk h⟩
set_option maxHeartbeats 400000 in
theorem res_put {W : World} {tmps : Array Value} {a b : Nat} {v : Value} {q : Int} (h4 : tmps[4]?.getD undef = .pointer (some ⟨a, 0, none⟩)) (h5 : tmps[5]?.getD undef = .pointer (some ⟨b, 0, none⟩))
    (P4 : Boxed W a 35 v) (P5 : Boxed W b 24 (.int .i64 q)) : (results Tryd.f54 tmps).run Tryd.prog W = .ok (.tuple #[v, .int .i64 q]) W := by
  have c4 := P4.cell
  have c5 := P5.cell
  simp [results, Tryd.results54, h4, h5, go_sem, c4, c5]
theorem lay3 (n : Int) (p : Value) (q : Int) (w : World) :
    Boxed (((w.alloc (.cells #[.int .u64 n] 32)).alloc (.cells #[p] 35)).alloc (.cells #[.int .i64 q] 24)) (w.heap.size + 1) 35 p ∧
    Boxed (((w.alloc (.cells #[.int .u64 n] 32)).alloc (.cells #[p] 35)).alloc (.cells #[.int .i64 q] 24)) (w.heap.size + 1 + 1) 24 (.int .i64 q) ∧
    Below w.heap.size w (((w.alloc (.cells #[.int .u64 n] 32)).alloc (.cells #[p] 35)).alloc (.cells #[.int .i64 q] 24)) := by
  refine ⟨?_, ?_, (((Below.refl _ w).alloc (Nat.le_refl _) _).alloc (by simp) _).alloc (by simp; omega) _⟩
  · have := (Boxed.new (w.alloc (.cells #[.int .u64 n] 32)) 35 p).alloc (.cells #[.int .i64 q] 24)
    rwa [World.size_alloc] at this
  · have := Boxed.new ((w.alloc (.cells #[.int .u64 n] 32)).alloc (.cells #[p] 35)) 24 (.int .i64 q)
    simpa using this
set_option maxRecDepth 100000 in
set_option maxHeartbeats 1600000 in
theorem put_no (n : Nat) (s : ByteArray) (w : World) (hn : n < 18446744073709551616) (hs : s.size ≤ 9223372036854775807) (z : Int) (h : (n = 0 ∧ z = 2) ∨ (n ≠ 0 ∧ 98304 < s.size ∧ z = 3)) :
    Calls Tryd.prog 54 #[.int .u64 n, .string s] w fun e w' => e = .returned (.tuple #[.slice none 0 0, .int .i64 z]) ∧ Below w.heap.size w w' := by
  rcases h with ⟨rfl, rfl⟩ | ⟨h1, h2, rfl⟩
  · go_enter Tryd.func54, Tryd.ntmps54
    go_wp2_with fail
    exact bodyPost_ret (res_put rfl rfl (lay3 0 (.slice none 0 0) 2 w).1 (lay3 0 (.slice none 0 0) 2 w).2.1) rfl ⟨rfl, (lay3 0 (.slice none 0 0) 2 w).2.2⟩
  · have q1 : ((n : Int) == 0) = false := beq_eq_false_iff_ne.2 (by omega)
    have q2 : (98304 : Int) < (s.size : Int) := by omega
    clear h1 h2
    go_enter Tryd.func54, Tryd.ntmps54
    go_wp2_with fail
    exact bodyPost_ret (res_put rfl rfl (lay3 n (.slice none 0 0) 3 w).1 (lay3 n (.slice none 0 0) 3 w).2.1) rfl ⟨rfl, (lay3 n (.slice none 0 0) 3 w).2.2⟩
def PutOk (n : Nat) (s : List UInt8) (w : World) (e : Ending) (w' : World) : Prop :=
  ∃ g cap, e = .returned (.tuple #[.slice (some ⟨g, 0, none⟩) (Sf.sheaf n s).length cap, .int .i64 0]) ∧
    w'.ownsRow w.heap.size 9 1 (.slice (some ⟨g, 0, none⟩) (Sf.sheaf n s).length cap) (Sf.sheaf n s).length ((Sf.sheaf n s).map sv) ∧ Below w.heap.size w w'
theorem infoStr : (Tryd.prog.info? 9).map (fun i => (i.zero, i.size, i.bytes)) = some (some (.string ⟨#[]⟩), 1, 16) := by kernel_rfl
/-- The leaves of the parts that have come. -/
def lvs (n : Nat) (pre : List (List UInt8)) : List Value := pre.map fun c => sv (Lf.leaf n c)
theorem lvs_snoc (n : Nat) (pre : List (List UInt8)) (x : List UInt8) : lvs n (pre ++ [x]) = lvs n pre ++ [sv (Lf.leaf n x)] := by simp [lvs]
theorem lvs_all (n : Nat) (s : List UInt8) : lvs n (Sf.chunks (Sf.text s)) = (Sf.sheaf n s).map sv := by unfold lvs Sf.sheaf; rw [List.map_map]; rfl
set_option maxRecDepth 100000 in
set_option maxHeartbeats 2000000 in
theorem put_ok (n : Nat) (s : ByteArray) (w : World) (h0 : n ≠ 0) (hn : n < 18446744073709551616) (hs : s.size ≤ 98304) :
    Calls Tryd.prog 54 #[.int .u64 n, .string s] w (PutOk n s.data.toList w) := by
  have KT := Lib.hid (fun w => Tal.text_c s w (by omega))
  have KP := Lib.hid (fun x w hx => put_leaf n x w h0 hn hx)
  have q1 : ((n : Int) == 0) = false := beq_eq_false_iff_ne.2 (by omega)
  have q2 : ¬ (98304 : Int) < (s.size : Int) := by omega
  have q3 : (s.size : Int) ≤ 98304 := by omega
  have hLp := Sf.chunks_head (Sf.text s.data.toList)
  have hLl := Sf.chunks_len _ (Sf.text s.data.toList) (Nat.le_refl _) (Sf.text_pos _)
  have hLs := Sf.chunks_small _ (Sf.text s.data.toList) (Nat.le_refl _)
  have htl : (Sf.text s.data.toList).length ≤ 98404 := by
    have := (Ta.num_len s.data.toList.length (by simp; omega)).1
    unfold Sf.text; rw [List.length_append]; simp at *; omega
  have hm : (Sf.chunks (Sf.text s.data.toList)).length ≤ 3000 := by omega
  have HSL := Lib.hid (show (Sf.chunks (Sf.text s.data.toList)).length = (Sf.sheaf n s.data.toList).length by unfold Sf.sheaf; rw [List.length_map])
  have HLV := Lib.hid (lvs_all n s.data.toList)
  obtain ⟨T, hT⟩ : ∃ T, Sf.text s.data.toList = T := ⟨_, rfl⟩
  have HTX := Lib.hid (show Tal.txt s.data.toList = T from hT)
  rw [hT] at hLp hLl hLs htl hm HSL HLV
  have hpos : 1 ≤ (Sf.chunks T).length := by obtain ⟨t, ht⟩ := hLp; rw [ht]; simp
  obtain ⟨L, hL⟩ : ∃ L, Sf.chunks T = L := ⟨_, rfl⟩
  have HLT := Lib.hid hL
  rw [hL] at hLs hm HSL HLV hpos
  have HSM := Lib.hid hLs
  clear h0 hT hLp hLl hLs hL
  have hmf := mk_fn
  refine (callsIn_wide (n := 4)).1 ?_
  refine callsIn_of_wp_marks Tryd.func54 rfl trivial ?_ rfl
  simp only [Tryd.ntmps54, List.size_toArray, List.length_cons, List.length_nil, Nat.reduceAdd, Nat.reduceSub, Array.replicate_succ, Array.replicate_zero, List.push_toArray, List.append_toArray, List.nil_append, List.cons_append]
  gi_wp2_with fail
  refine ⟨trivial, (callsIn_wide.2 (KT.out _)).mono ?_⟩
  rintro e w1 ⟨rfl, b1⟩
  rw [HTX.out]
  obtain ⟨W2, hW2⟩ : ∃ W2, (((w.alloc (.cells #[.int .u64 n] 32)).alloc (.cells #[.slice none 0 0] 35)).alloc (.cells #[.int .i64 0] 24)).alloc (.cells #[.slice none 0 0] 35) = W2 := ⟨_, rfl⟩
  have p0 : Boxed W2 w.heap.size 32 (.int .u64 n) := by rw [← hW2]; exact (((Boxed.new w _ _).alloc _).alloc _).alloc _
  have p1 : Boxed W2 (w.heap.size + 1) 35 (.slice none 0 0) := by rw [← hW2]; exact (lay3 n (.slice none 0 0) 0 w).1.alloc _
  have p2 : Boxed W2 (w.heap.size + 1 + 1) 24 (.int .i64 0) := by rw [← hW2]; exact (lay3 n (.slice none 0 0) 0 w).2.1.alloc _
  have p3 : Boxed W2 (w.heap.size + 1 + 1 + 1) 35 (.slice none 0 0) := by
    rw [← hW2]
    have := Boxed.new (((w.alloc (.cells #[.int .u64 n] 32)).alloc (.cells #[.slice none 0 0] 35)).alloc (.cells #[.int .i64 0] 24)) 35 (.slice none 0 0)
    simpa using this
  have bW2 : Below w.heap.size w W2 := by rw [← hW2]; exact (lay3 n (.slice none 0 0) 0 w).2.2.alloc (by simp; omega) _
  rw [hW2] at b1
  gi_wp2_with fail
  refine ⟨trivial, (callsIn_wide.2 (pieces_c _ _)).mono ?_⟩
  rintro e w3 ⟨rfl, rfl⟩
  gi_wp2_with fail
  obtain ⟨d, hd⟩ : ∃ d, w1.heap.size = d := ⟨_, rfl⟩
  have hd1 : w.heap.size + 1 + 1 + 1 < d := by rw [← hd]; have := b1.size; have := p3.lt; omega
  have c0 := boxed_later p0 b1
  have c1 := boxed_later p1 b1
  have c2 := boxed_later p2 b1
  have c3 := boxed_later p3 b1
  have cB := bW2.trans (b1.mono bW2.size)
  clear hW2 p0 p1 p2 p3 bW2 b1
  obtain ⟨W3, hW3⟩ : ∃ W3, w1.alloc (.cells #[.string ⟨T.toArray⟩] 9) = W3 := ⟨_, rfl⟩
  have hbl : Below w1.heap.size w1 W3 := by rw [← hW3]; exact (Below.refl _ w1).alloc (Nat.le_refl _) _
  have hz3 : W3.heap.size = d + 1 := by rw [← hW3, ← hd]; simp
  have hbx : Bxp d ⟨T.toArray⟩ W3 := by
    rw [← hW3, ← hd]
    exact ⟨(Boxed.new w1 _ _).cell, (Boxed.new w1 _ _).frozen⟩
  have c0 := boxed_later c0 hbl
  have c1 := boxed_later c1 hbl
  have c2 := boxed_later c2 hbl
  have c3 := boxed_later c3 hbl
  have cB := cB.trans (hbl.mono cB.size)
  have h0 : Bxs w [(w.heap.size, 32, .int .u64 n), (w.heap.size + 1, 35, .slice none 0 0), (w.heap.size + 1 + 1, 24, .int .i64 0)] W3 := by
    refine ⟨fun x hx => ?_, cB⟩
    rcases List.mem_cons.1 hx with rfl | hx
    · exact c0
    · rcases List.mem_cons.1 hx with rfl | hx
      · exact c1
      · rw [List.mem_singleton] at hx
        subst hx
        exact c2
  have h1 := Coll.start (e := 9) (size := 1) (base := d + 1) c3 cB
  rw [hW3, hd]
  clear hW3 hd hbl c0 c1 c2 c3
  have HCB := Lib.hid cB
  clear cB
  obtain ⟨i0, hi, hz0, hz1, hz2⟩ := info_parts infoStr
  refine law (gf := 79) (lb := #[.pointer (some ⟨d, 0, none⟩)]) rfl (enters_of Tryd.func79 (by kernel_rfl) rfl)
    (pieces_yields T ⟨T.toArray⟩ rfl (by show T.length ≤ _; omega) d W3 (by omega) hbx) (Below.refl _ _)
    (fun _ _ _ p q => q.trans p) (fun W l o o' hl ho hc => World.putObj_heap_other (by omega)) (fun _ => rfl)
    (fun pre W => Coll w (w.heap.size + 1 + 1 + 1) (d + 1) 35 9 1 pre.length (lvs n pre) W ∧ Bxs w [(w.heap.size, 32, .int .u64 n), (w.heap.size + 1, 35, .slice none 0 0), (w.heap.size + 1 + 1, 24, .int .i64 0)] W) (fun _ _ _ => False)
    (Bears.and (Coll.bears _ _ (by omega)) (Bxs.bears (fun _ => _) (by omega))) (fun _ _ _ _ _ _ _ _ _ h => h)
    (Stands.and (Coll.stands _ _ (fun b hb => by subst hb; omega)) (Bxs.stands (fun _ => _) (fun b s hb => by subst hb; simp; omega))) (fun _ => ⟨fun _ _ _ h _ => h, fun _ _ _ _ _ h => h⟩) ⟨h1, h0⟩
    ?act ?assign ?body ?done ?stop
  case assign =>
    intro l y W K hK
    gi_wp2
    exact hK
  case body =>
    rintro l pre y W ⟨⟨⟨v, hv, hrow⟩, hB⟩, hX⟩ ⟨r, hr⟩ hlt
    rw [HLT.out] at hr
    have hpl : pre.length + 1 ≤ L.length := by rw [hr]; simp
    have hy48 := HSM.out y (by rw [hr]; simp)
    have hx0 := hX.all _ List.mem_cons_self
    have HX := Lib.hid hX
    have HBB := Lib.hid hB
    have e0 := hx0.cell
    have e0' := hx0.lt
    dsimp only at e0 e0'
    have HV := Lib.hid hv
    have HROW := Lib.hid hrow
    clear hr hX hB hv hrow hx0
    gi_wp2_with fail
    refine ⟨trivial, (callsIn_wide.2 (KP.out y _ hy48)).mono ?_⟩
    rintro e w5 ⟨rfl, b5⟩
    have HX5 := Lib.hid (HX.out.later b5)
    have HB5 := Lib.hid (HBB.out.trans (b5.mono HBB.out.size))
    have hv5 := boxed_later HV.out b5
    have hrow5 := own_later HROW.out b5
    have HB5' := Lib.hid b5
    have hsz5 := b5.size
    have hc0 := hv5.cell
    have hf0 := hv5.frozen
    clear b5 e0 e0'
    gi_wp2_with (gi_at_builtin; refine wpListIn_append_own _ rfl _ _ 35 rfl (d + 1) 9 i0 (.string ⟨#[]⟩) 1 16 Tryd.underlying35 hi hz0 hz1 hz2 rfl (by decide) _ _ _ rfl (hrow5.alloc _) ⟨w5.heap.size, 0, none⟩ 1 1 [sv (Lf.leaf n y)] rfl rfl (one_new _ _ _) (by simp [Value.oneCell', sv]) (by unfold maxLen; omega) (by omega) (by simp; omega) ?_; intro v' w1' hown' hgrow _; obtain ⟨g', cap', rfl⟩ := ownsRow_succ hown'; obtain ⟨hv1, hv2, hr2, hk2, hj2, hb2⟩ := push hv5 (by omega) (by omega) hrow5 hown' hgrow; have hc1 := hv1.cell; have hf1 := hv1.frozen)
    have HF := (hb2.mono (Nat.le_trans (by omega : w.heap.size ≤ w.heap.size + 1 + 1 + 1) (Nat.le_refl _)))
    refine ⟨((others_below HB5'.out).trans hk2).from _, (hj2 d (by omega) (by omega)).trans (HB5'.out.block d (by omega)), ⟨⟨_, hv2, ?_⟩, HB5.out.trans HF⟩, HX5.out.moved (fun x hx => hj2 x.1 ?_ ?_) (HB5.out.trans HF)⟩
    · rw [lvs_snoc]; simpa using hr2
    · rcases List.mem_cons.1 hx with rfl | hx
      · show w.heap.size < d + 1; omega
      · rcases List.mem_cons.1 hx with rfl | hx
        · show w.heap.size + 1 < d + 1; omega
        · rw [List.mem_singleton] at hx
          subst hx
          show w.heap.size + 1 + 1 < d + 1; omega
    · rcases List.mem_cons.1 hx with rfl | hx
      · show w.heap.size ≠ _; omega
      · rcases List.mem_cons.1 hx with rfl | hx
        · show w.heap.size + 1 ≠ _; omega
        · rw [List.mem_singleton] at hx
          subst hx
          show w.heap.size + 1 + 1 ≠ _; omega
  case done =>
    rintro ys W hS ⟨⟨⟨v, hv, hrow⟩, hB⟩, hX⟩ hK
    have hS' := hS.trans HLT.out
    subst hS'
    obtain ⟨g, cap, rfl⟩ := own_form hrow hpos
    have Q4 := Lib.hid (hX.all _ (List.mem_cons_of_mem _ List.mem_cons_self))
    have Q5 := Lib.hid (hX.all _ (List.mem_cons_of_mem _ (List.mem_cons_of_mem _ List.mem_cons_self)))
    obtain ⟨r4, f4, l4⟩ := boxed_cells Q4.out
    obtain ⟨r5, f5, l5⟩ := boxed_cells Q5.out
    have hc0 := hv.cell
    rw [hz3] at hK
    have HKK := Lib.hid hK
    have HROW := Lib.hid hrow
    have HBB := Lib.hid hB
    have HS := Lib.hid hS
    dsimp only at r4 f4 l4 r5 f5 l5
    clear hX hK hrow hB hS
    gi_wp2_with fail
    obtain ⟨V, hV⟩ : ∃ V, Value.slice (some ⟨g, 0, none⟩) ys.length cap = V := ⟨_, rfl⟩
    have HV := Lib.hid hV
    rw [hV] at HROW ⊢
    clear hV
    obtain ⟨P4, P5⟩ := put2 V (.int .i64 0) Q4.out Q5.out (by simp)
    have hK2 := (KeepsOthers.same ((KeepsOthers.setCell W ⟨w.heap.size + 1, 0, none⟩ V).trans (KeepsOthers.setCell _ ⟨w.heap.size + 1 + 1, 0, none⟩ (.int .i64 0))) _ _ HKK.out rfl)
    refine ⟨by simp, .inl ⟨_, _, rfl, run_takeDeferred hK2, ?_⟩⟩
    have hp := fun (B : Nat) (t : TypeId) (v : Value) (hh : Boxed ((W.setCell ⟨w.heap.size + 1, 0, none⟩ V).setCell ⟨w.heap.size + 1 + 1, 0, none⟩ (.int .i64 0)) B t v) => boxed_put hh (.deferred none) hK2 rfl
    have hr := own_lower (base' := w.heap.size) (ownsRow_putObj (own_set (own_set HROW.out (by omega) V) (by omega) (.int .i64 0)) (.deferred none) hK2 rfl) (by omega)
    have HV2 : Value.slice (some ⟨g, 0, none⟩) (Sf.sheaf n s.data.toList).length cap = V := by rw [← HSL.out]; exact HV.out
    rw [HLV.out, HSL.out] at hr
    exact ⟨_, res_put rfl rfl (hp _ _ _ P4) (hp _ _ _ P5), g, cap, by rw [HV2], by rw [HV2]; exact hr, ((HBB.out.setCell (by simp) _).setCell (by simp; omega) _).grown (grownBy_putObj' _ _ _) (by simp [World.setCell]; have := HBB.out.size; omega) (fun j e => by cases e; omega)⟩
  case stop =>
    rintro c pre W _ h _
    exact h.elim
end Go.Proofs.YtjlncjabiofklaaDoor.Shf
