/- Package plans: an Id put in among the others: the list in memory. -/
import Derived.Test.YtakpoabpgdmneaaPlRep
import Derived.Deep.LoopGhost
namespace Go.Proofs.Ytakpoabpgdmneaa.Pl
open Go Go.RowKit Ck Go.Maps
theorem und_ints : Try.prog.underlying TUs = some (.slice (Try.prog.elem TUs)) := by kernel_rfl
theorem sz_int (w : World) : (Go.sizeOf (Try.prog.elem TUs)).run Try.prog w = .ok 1 w := by kernel_rfl
theorem slice_ints (g n cap e : Nat) (he : e ≤ n) (_hc : n ≤ cap) (u : World) :
    (Instr.sliceAt TUs (.slice (some ⟨g, 0, none⟩) n cap) (some (.int .i64 (e : Int))) none none).run Try.prog u = .ok (.slice (if cap = e then some ⟨g, 0, none⟩ else some ⟨g, e, none⟩) (n - e) (cap - e)) u := by
  rw [run_sliceAt_slice _ _ _ _ _ _ und_ints, run_slice_l _ _ _ _ _ und_ints .i64 (e : Int) (by omega) (by omega)]
  rw [sz_int]
  rcases Nat.eq_zero_or_pos e with rfl | h0
  · simp [Result.andThen, sliced, Addr.add]
  · simp [Result.andThen, sliced, Addr.add, show e ≠ 0 by omega]
/-- What is in the block then. -/
theorem ins_take {L : List Value} {K : List Int} {k : Int} {a : Nat} (ha : a ≤ K.length) (hL : K.length + 1 ≤ L.length) (ht : L.take (K.length + 1) = (K ++ [k]).map uv) :
    ((splice L (a + 1) ((K.drop a).map uv)).set a (uv k)).take (K.length + 1) = (ins K a k).map uv := by
  have hl : (splice L (a + 1) ((K.drop a).map uv)).length = L.length := length_splice _ _ _ (by simp; omega)
  have hcs : ((K.drop a).map uv).length = K.length - a := by simp
  apply List.ext_getElem?
  intro i
  by_cases hi : i < K.length + 1
  · rw [List.getElem?_take_of_lt hi]
    have hLi : L[i]? = ((K ++ [k]).map uv)[i]? := by rw [← ht, List.getElem?_take_of_lt hi]
    unfold ins
    rw [List.getElem?_map]
    by_cases h1 : i < a
    · rw [List.getElem?_set_ne (by omega), List.getElem?_append_left (by simp; omega), List.getElem?_take_of_lt h1]
      unfold splice
      rw [List.getElem?_append_left (by simp; omega), List.getElem?_take_of_lt (by omega), hLi, List.getElem?_map, List.getElem?_append_left (by omega)]
    · by_cases h2 : i = a
      · subst h2
        have e0 : i - (K.take i).length = 0 := by simp; omega
        rw [List.getElem?_set_self (by omega), List.getElem?_append_right (by simp; omega), e0]
        rfl
      · obtain ⟨j, rfl⟩ : ∃ j, i = a + 1 + j := ⟨i - a - 1, by omega⟩
        rw [List.getElem?_set_ne (by omega), List.getElem?_append_right (by simp; omega)]
        unfold splice
        rw [List.getElem?_append_right (by simp; omega), List.getElem?_append_left (by simp; omega)]
        have e1 : a + 1 + j - (L.take (a + 1)).length = j := by simp; omega
        have e2 : a + 1 + j - (K.take a).length = j + 1 := by simp; omega
        rw [e1, e2, List.getElem?_map, List.getElem?_cons_succ]
  · rw [List.getElem?_eq_none (by simp; omega), List.getElem?_eq_none (by rw [List.length_map, ins_len]; omega)]
theorem splice_nil {α : Type} (L : List α) (n : Nat) : splice L n ([] : List α) = L := by
  unfold splice
  simp
theorem own_form {base : Nat} {u : World} {v : Value} {N : Nat} {xs : List Value} (h : u.ownsRow base TU 1 v N xs) : ∃ a cap, v = .slice a N cap := by
  rcases h.2 with ⟨rfl, rfl⟩ | ⟨g, cap, cur, rfl, _⟩
  · exact ⟨none, 0, rfl⟩
  · exact ⟨_, cap, rfl⟩
theorem own_at {base : Nat} {u : World} {v : Value} {L : List Int} (h : u.ownsRow base TU 1 v L.length (L.map uv)) {i : Nat} (hi : i < L.length) : ∃ g cap, v = .slice (some ⟨g, 0, none⟩) L.length cap ∧ u.cell? ⟨g, i, none⟩ = some (uv L[i]) := by
  rcases h.2 with ⟨_, h0⟩ | ⟨g, cap, cur, rfl, _, hg, _, _, _, ht⟩
  · omega
  · refine ⟨g, cap, rfl, ?_⟩
    have e : cur.toList[i]? = some (uv L[i]) := by
      have := congrArg (fun l => l[i]?) ht
      simp only [Nat.mul_one] at this
      rw [List.getElem?_take_of_lt hi] at this
      rw [this]; simp [hi]
    simp only [World.cell?, hg]
    simpa using e
theorem below_drewN {lo : Nat} {w w' : World} (h : Below lo w w') (n : Nat) : Below lo w (w'.drewN n) := ⟨h.os, h.tape, h.output, h.size, h.block⟩
/-- An append carried out in a region that draws its order. -/
theorem step_append {P : Program} {ops : Array Oper} {o : Oper} {a : Act} {w w' : World} {Kq : Act → World → Prop} {Q : Exit → Act → World → Prop} {E : Prop} (hg : o.guard = none) (s x : Operand) (t : TypeId)
    (ho : o.op = .call { callee := .builtin .append, args := #[s, x], argTypes := #[t, t] }) (v : Value) (A : Option Addr) (m c : Nat) (v' : Value) (hs : a.eval s = v) (hx : a.eval x = .slice A m c)
    (hr : (Builtin.append_ #[t, t] o.type #[v, .slice A m c]).run P w = .ok v' w') (h : Kq (a.put o.dst v') w') : if Region.wanted o (yielded ops a.tmps) = true then o.wp P a w Kq Q else E := by
  simp only [Region.wanted, hg, if_true]
  unfold Oper.wp execOp
  simp only [ho, resolve, invoke, builtin, Sem.run_bind, Sem.run_pure, Result.andThen_ok, List.map_toArray, List.map_cons, List.map_nil, hs, hx, hr]
  exact h
/-- While Ids are put in order: what stands ready of the catalog. -/
structure Mid (w wx : World) (c bm n by' lo : Nat) (tv : Value) (D : DataW Unit) (box : List Value) (pv : Value) (m : Nat) (fp : List Value) (tv' : Value) : Prop where
  rc : Rw wx c TCat [.map (some bm), tv']
  rb : Rw wx by' TPlan box
  om : wx.ownsMap Try.prog TU plR bm n D
  op : wx.ownsRow lo TPrice 2 pv m fp
  kw : Keeps (fun j => j = c ∨ j = bm ∨ tv.ownBlock = some j) w wx
section
variable {w wx wy : World} {c bm n by' lo m : Nat} {tv tv' : Value} {D : DataW Unit} {box fp : List Value} {pv : Value}
theorem Mid.later (h : Mid w wx c bm n by' lo tv D box pv m fp tv') (k : Below wx.heap.size wx wy) : Mid w wy c bm n by' lo tv D box pv m fp tv' :=
  ⟨h.rc.later k, h.rb.later k, map_keeps h.om (Keeps.of (fun _ => False) k) (fun h => h), own_later h.op k, h.kw.then (S := fun _ => False) (Keeps.of _ k) fun _ hj => hj.elim⟩
theorem rw_ne {w : World} {b b' : Nat} {t t' : TypeId} {L L' : List Value} (h : Rw w b t L) (h' : Rw w b' t' L') (hne : t ≠ t') : b ≠ b' := fun e => by
  subst e
  have h1 : w.heap[b]? = some (.cells L.toArray t (0, 0)) := h
  have h2 : w.heap[b]? = some (.cells L'.toArray t' (0, 0)) := h'
  have := h1.symm.trans h2
  injection this with this
  injection this with _ h3
  exact hne h3
/-- A row of Ids is turned. -/
theorem Mid.row (h : Mid w wx c bm n by' lo tv D box pv m fp tv') {base e k : Nat} {v : Value} {xs : List Value} (ho : wx.ownsRow base TU e v k xs) (hv : ∀ j, v.ownBlock = some j → tv.ownBlock = some j ∨ w.heap.size ≤ j) (kp : Keeps (fun j => v.ownBlock = some j) wx wy) : Mid w wy c bm n by' lo tv D box pv m fp tv' :=
  ⟨h.rc.keeps kp (own_type ho h.rc (by decide)), h.rb.keeps kp (own_type ho h.rb (by decide)), map_keeps h.om kp (own_map ho h.om), own_keeps h.op kp fun j hj hj' => own_own ho h.op (by decide) j hj' hj, h.kw.then kp fun j hj => (hv j hj).imp_left fun h1 => .inr (.inr h1)⟩
theorem Mid.set (h : Mid w wx c bm n by' lo tv D box pv m fp tv') (v : Value) : Mid w (wx.setCell ⟨c, 1, none⟩ v) c bm n by' lo tv D box pv m fp v := by
  have kp : Keeps (fun j => j = c) wx (wx.setCell ⟨c, 1, none⟩ v) := (Keeps.refl (fun j => j = c) wx).setCell c 1 v (.inl rfl)
  refine ⟨h.rc.setCell 1 v, h.rb.keeps kp (rw_ne h.rb h.rc (by decide)), map_keeps h.om kp (fun e => ?_), own_keeps h.op kp fun j hj e => own_type h.op h.rc (by decide) (e ▸ hj), h.kw.then kp fun j hj => .inl (.inl hj)⟩
  obtain ⟨es, clock, hb, _⟩ := h.om
  have h1 : wx.heap[c]? = some (.cells [Value.map (some bm), tv'].toArray TCat (0, 0)) := h.rc
  rw [e] at hb
  have := h1.symm.trans hb
  injection this with this
  cases this
/-- Behind the append of one Id, and its storing. -/
theorem Mid.append (h : Mid w wx c bm n by' lo tv D box pv m fp tv) {K : List Int} {id : Int} {w5 w6 : World} {v' : Value} (ho : wx.ownsRow 0 TU 1 tv K.length (K.map uv)) (hb : Below wx.heap.size wx w5)
    (ho6 : w6.ownsRow 0 TU 1 v' (K.length + 1) (K.map uv ++ [uv id])) (hg : w5.grownBy w6 tv.ownBlock) (hat : v'.ownBlock = tv.ownBlock ∨ v'.ownBlock = some w5.heap.size) :
    ∃ (g cap5 : Nat) (cur : List Value), v' = .slice (some ⟨g, 0, none⟩) (K.length + 1) cap5 ∧ cur.length = cap5 ∧ (K.length + 1 ≤ cap5 ∧ cap5 ≤ maxLen ∧ cur.take (K.length + 1) = (K ++ [id]).map uv) ∧ Rw (w6.setCell ⟨c, 1, none⟩ v') g TU cur ∧ Mid w (w6.setCell ⟨c, 1, none⟩ v') c bm n by' lo tv D box pv m fp v' ∧ (tv.ownBlock = some g ∨ w.heap.size ≤ g) := by
  have h5 := h.later hb
  have k6 : Keeps (fun j => tv.ownBlock = some j) w5 w6 := (Keeps.refl (fun j => tv.ownBlock = some j) w5).grown hg fun j hj => .inl hj
  have m6 := h5.row (own_later ho hb) (fun j hj => .inl hj) k6
  have hs : w.heap.size ≤ w5.heap.size := h5.kw.size
  rcases ho6.2 with ⟨_, h0⟩ | ⟨g, cap, cur, rfl, _, h2, h3, h4, h5', h6⟩
  · omega
  · have hr : Rw w6 g TU cur.toList := by show w6.heap[g]? = _; rw [h2]
    refine ⟨g, cap, cur.toList, rfl, by simpa using h5', ⟨h3, h4, by rw [List.map_append]; simpa using h6⟩, hr.otherCell c 1 _ (rw_ne hr m6.rc (by decide)), m6.set _, ?_⟩
    rcases hat with ha | ha
    · exact .inl (by rw [← ha]; rfl)
    · injection ha with ha
      simp only at ha
      exact .inr (by omega)
/-- A plan that is put to the others. -/
theorem after_add {V : Int → Option Pv} {K K' : List Int} {n0 : Nat} {p : Pv} {pm : Nat} (h : At w c bm tv n0 V K) (hm : Mid w wx c bm (n0 + 1) by' lo tv D box p.sl p.x.ps.length (flatP p.x.ps) tv')
    (ha : Ag D (upd V p.x.id p)) (hi : wx.ownsRow 0 TU 1 tv' pm (K'.map uv)) (hg : ∀ j, p.g = some j → w.heap.size ≤ j) (ht : ∀ j, tv'.ownBlock = some j → tv.ownBlock = some j ∨ w.heap.size ≤ j)
    (hok : p.x.okB = true) (hu : U64 p.x.id) (hks : Ks (upd V p.x.id p) K') : After c bm tv n0 V w wx (upd (mdl V) p.x.id p.x) K' := by
  have hpm : pm = K'.length := by
    have := hi.1
    rw [List.length_map, Nat.mul_one] at this
    exact this.symm
  rw [hpm] at hi
  obtain ⟨n1, n2, n3⟩ := h.ne
  have hlt (q : Int) (r : Pv) (hr : V q = some r) (j : Nat) (hj : r.g = some j) : j < w.heap.size := h.lt j (.inr (.inr (.inr ⟨q, r, hr, hj⟩)))
  refine ⟨tv', n0 + 1, upd V p.x.id p, ⟨hm.rc, ⟨D, hm.om, ha⟩, hi, hks, fun q r hr => ?_, fun q q' r r' j hr hr' hj hj' => ?_, fun q r hr => ?_⟩, Nat.le_refl _, mdl_upd V _ p, hm.kw.mono fun j hj => .inl ?_, fun j hj => ?_⟩
  · by_cases e : q = p.x.id
    · subst e
      rw [upd_same] at hr
      injection hr with hr
      subst hr
      exact own_lower hm.op (Nat.zero_le _)
    · rw [upd_other _ _ e] at hr
      refine own_keeps (h.row _ _ hr) hm.kw fun j hj e2 => ?_
      obtain ⟨g1, g2, g3⟩ := h.nep hr
      rcases e2 with e2 | e2 | e2
      · exact g1 (e2 ▸ sl_own hj)
      · exact g2 (e2 ▸ sl_own hj)
      · exact g3 j e2 (sl_own hj)
  · by_cases e : q = p.x.id
    · by_cases e' : q' = p.x.id
      · rw [e, e']
      · subst e
        rw [upd_same] at hr
        injection hr with hr
        subst hr
        rw [upd_other _ _ e'] at hr'
        have h1 := hg j hj
        have := hlt _ _ hr' j hj'
        omega
    · rw [upd_other _ _ e] at hr
      by_cases e' : q' = p.x.id
      · subst e'
        rw [upd_same] at hr'
        injection hr' with hr'
        subst hr'
        have h1 := hg j hj'
        have := hlt _ _ hr j hj
        omega
      · rw [upd_other _ _ e'] at hr'
        exact h.dis _ _ _ _ j hr hr' hj hj'
  · by_cases e : q = p.x.id
    · subst e
      rw [upd_same] at hr
      injection hr with hr
      subst hr
      exact ⟨hok, rfl, hu⟩
    · rw [upd_other _ _ e] at hr
      exact h.ok _ _ hr
  · rcases hj with e | e | e
    · exact .inl e
    · exact .inr (.inl e)
    · exact .inr (.inr (.inl e))
  · rcases hj with hj | hj | hj | ⟨q, r, hr, hj⟩
    · exact .inl (.inl hj)
    · exact .inl (.inr (.inl hj))
    · exact (ht j hj).imp_left fun h1 => .inr (.inr (.inl h1))
    · by_cases e : q = p.x.id
      · subst e
        rw [upd_same] at hr
        injection hr with hr
        subst hr
        exact .inr (hg j hj)
      · rw [upd_other _ _ e] at hr
        exact .inl (.inr (.inr (.inr ⟨_, _, hr, hj⟩)))
end
end Go.Proofs.Ytakpoabpgdmneaa.Pl
