/- Package subs: what the laws of wholes and of ends lean on. -/
import Derived.Test.YtjchecjonkmhgaaDoorSuAll2
namespace Go.Proofs.YtjchecjonkmhgaaDoor.Su
open Go.RowKit Pr Cw An Rf
theorem onv_hi {p : Int} (hp : 0 ≤ p) (a b m : Int) : onv p a b m ≤ p := by
  unfold onv
  split
  · rename_i h
    obtain ⟨h0, h1, h2, h3, h4, h5, h6⟩ := h
    have d1 := du_hi (amt := p) (d := b) (m := m) ⟨h0, h1, h2, h3, by omega, h6⟩
    have d2 := du_lo (amt := p) (d := a) (m := m) ⟨h0, h1, h2, h3, h4, by omega⟩
    omega
  · exact hp
theorem amt_bd {c : Cy} {m : Int} {k : Nat} {p : Int} (hp : 0 ≤ p) (a b : Int) : 0 ≤ amt c m k p a b ∧ amt c m k p a b ≤ p := ⟨(onv_bd _ _ _ _).1, onv_hi hp _ _ _⟩
/-- A whole period, from the second one on, costs the price. -/
theorem amt_whole {c : Cy} {m : Int} {k : Nat} {p : Int} (h : c.Ok) (hin : In m c.s) (hh : Has c m (k + 1 + 1)) (p0 : 0 ≤ p) (p1 : p < 4611686018427387904) : amt c m (k + 1) p (bnd c m (k + 1)) (bnd c m (k + 1 + 1)) = p := by
  have hb := per_bd (k := k + 1) h hin hh
  have hs := per_small (k := k + 1) h hin hh
  have hg : bg c (mo c m (k + 1)) = bnd c m (k + 1) := bg_eq h hin hh
  rw [(amt_du (k := k + 1) h hin hh p (bnd c m (k + 1)) (bnd c m (k + 1 + 1)) p0 p1 (Int.le_refl _) (Int.le_of_lt hb.2.1) (Int.le_refl _)).1]
  have e1 : (per c m (k + 1)).pl (bnd c m (k + 1 + 1)) = (per c m (k + 1)).u := by simp only [per, Pd.pl]; omega
  have e2 : (per c m (k + 1)).pl (bnd c m (k + 1)) = 0 := by simp only [per, Pd.pl]; rw [hg]; omega
  have hu : 1 ≤ (per c m (k + 1)).u := by simp only [per]; rw [hg]; omega
  rw [e1, e2, du_0, du_all hu]
  omega
theorem en_le {e n : Int} : en e n ≤ n := by unfold en; split <;> omega
theorem en_le' {e n : Int} (he : e ≠ 0) : en e n ≤ e := by unfold en; split <;> omega
theorem en_or (e n : Int) : en e n = n ∨ en e n = e := by unfold en; split <;> simp
theorem en_gt {e n f : Int} (h : f < n) (he : e = 0 ∨ f < e) : f < en e n := by unfold en; split <;> omega
theorem bills_get (s : Sb) (m : Int) (n j : Nat) (h : j < (bills s m n).length) : (bills s m n)[j] = bill s m (s.b.toNat + j) := by simp [bills]
/-- What Cancel does: it refuses, or it ends. -/
theorem can_all (s : Sb) (day : Int) (at' : Bool) (hf : s.Fits) : (∃ z : Int, (z == 0) = false ∧ ∀ w, Tab w → Calls Tryd.prog 19 #[s.val, .int .i64 day, .bool at'] w (NoRes z w)) ∨
    ∃ (m : Int) (k : Nat), In m s.c.s ∧ s.Ok m ∧ (1 ≤ day ∧ day ≤ 3652059) ∧ s.e = 0 ∧ s.c.s ≤ day ∧ (at' = true → s.s ≤ day) ∧ Per s.c m day k ∧ s.b ≤ (k : Int) + 1 ∧ ∀ w, Tab w → Calls Tryd.prog 19 #[s.val, .int .i64 day, .bool at'] w (Yes s m day at' k w) := by
  obtain ⟨m, hin⟩ := month_ex s.c
  by_cases h : s.Ok m
  · have hi := hin h.c
    by_cases hd : 1 ≤ day ∧ day ≤ 3652059
    · by_cases h1 : s.e = 0
      · by_cases h2 : day < s.c.s
        · exact .inl ⟨_, by decide, fun w hw => can_s s m day at' w hw hi h hd h1 h2⟩
        · cases at' with
          | true =>
            by_cases h3 : day < s.s
            · exact .inl ⟨_, by decide, fun w hw => can_a s m day w hw hi h hd h1 h2 h3⟩
            · by_cases hk : ∃ k, Per s.c m day k
              · obtain ⟨k, hk⟩ := hk
                rcases (show (k : Int) + 1 < s.b ∨ s.b = (k : Int) + 1 ∨ s.b ≤ (k : Int) by omega) with hb | hb | hb
                · exact .inl ⟨_, by decide, fun w hw => can_late_true s m day w hw hi h hd h1 h2 h3 k hk hb⟩
                · exact .inr ⟨m, k, hi, h, hd, h1, by omega, fun _ => by omega, hk, by omega, fun w hw => can_at1 s m day w hw hi h hd h1 h2 h3 k hk hb⟩
                · exact .inr ⟨m, k, hi, h, hd, h1, by omega, fun _ => by omega, hk, by omega, fun w hw => can_at0 s m day w hw hi h hd h1 h2 h3 k hk hb⟩
              · exact .inl ⟨_, by decide, fun w hw => can_none_true s m day w hw hi h hd h1 h2 h3 fun k hh => hk ⟨k, hh⟩⟩
          | false =>
            by_cases hk : ∃ k, Per s.c m day k
            · obtain ⟨k, hk⟩ := hk
              rcases (show (k : Int) + 1 < s.b ∨ s.b ≤ (k : Int) + 1 by omega) with hb | hb
              · exact .inl ⟨_, by decide, fun w hw => can_late_false s m day w hw hi h hd h1 h2 k hk hb⟩
              · exact .inr ⟨m, k, hi, h, hd, h1, by omega, fun h' => (by cases h'), hk, hb, fun w hw => can_next s m day w hw hi h hd h1 h2 k hk hb⟩
            · exact .inl ⟨_, by decide, fun w hw => can_none_false s m day w hw hi h hd h1 h2 fun k hh => hk ⟨k, hh⟩⟩
      · exact .inl ⟨_, by decide, fun w hw => can_e s m day at' w hw hi h hd h1⟩
    · exact .inl ⟨_, by decide, fun w hw => can_day s m day at' w hw hi h hd⟩
  · exact .inl ⟨_, by decide, fun w hw => can_bad s m day at' w hw hf hin h⟩
/-- What an end is. -/
structure EndIs (s : Sb) (m day : Int) (at' : Bool) (k : Nat) (E : Int) (x : Tn) : Prop where
  ce : canEnd s m day at' k = E
  cx : canTurn s m day at' k = x
  e0 : 1 ≤ E
  e1 : E ≤ 3652059
  es : s.c.s ≤ E
  ed : day ≤ E
  at1 : at' = true → E = day
  at0 : at' = false → day < E ∧ x = Tn.none
  c0 : 0 ≤ x.c
  c1 : x.c ≤ s.p
  a : x.a = 0
theorem end_is {s : Sb} {m day : Int} {at' : Bool} {k : Nat} (hin : In m s.c.s) (h : s.Ok m) (hd : 1 ≤ day ∧ day ≤ 3652059) (hs : s.c.s ≤ day) (hk : Per s.c m day k) : EndIs s m day at' k (canEnd s m day at' k) (canTurn s m day at' k) := by
  have hb := per_bd h.c hin hk.1
  have h1 := hk.2.1
  have h2 := hk.2.2
  have hp := h.num.p0
  have ha := amt_bd (c := s.c) (m := m) (k := k) hp day (bnd s.c m (k + 1))
  cases at' with
  | true =>
    have e : canEnd s m day true k = day := by unfold canEnd; rw [if_pos rfl]
    refine ⟨rfl, rfl, by rw [e]; omega, by rw [e]; omega, by rw [e]; exact hs, by rw [e]; exact Int.le_refl _, fun _ => e, (by intro h'; cases h'), ?_, ?_, ?_⟩ <;> (unfold canTurn; split) <;> simp [Tn.none] <;> omega
  | false =>
    have e : canEnd s m day false k = bnd s.c m (k + 1) := by unfold canEnd; rw [if_neg (by simp)]
    have e2 : canTurn s m day false k = Tn.none := by unfold canTurn; rw [if_neg (by simp)]
    refine ⟨rfl, rfl, by rw [e]; omega, by rw [e]; omega, by rw [e]; omega, by rw [e]; omega, (by intro h'; cases h'), fun _ => ⟨by rw [e]; exact h2, e2⟩, ?_, ?_, ?_⟩ <;> rw [e2] <;> simp [Tn.none] <;> omega
theorem ended_ok {s : Sb} {m E : Int} (h : s.Ok m) (e0 : 1 ≤ E) (e1 : E ≤ 3652059) (es : s.c.s ≤ E) : (s.ended E).Ok m := ⟨⟨h.num.id, h.num.cu, h.num.pl, h.num.p0, h.num.p1, h.num.b0, h.num.b1⟩, h.c, h.has, h.ws, .inr ⟨e0, e1, es⟩⟩
theorem sta_over {s : Sb} {E : Int} (e0 : 1 ≤ E) (es : s.c.s ≤ E) : sta (s.ended E) E = 3 := by
  unfold sta Sb.ended
  simp only
  rw [if_neg (by omega), if_neg (by omega), if_neg (by omega)]
theorem sta_ending {s : Sb} {E : Int} (e0 : 1 ≤ E) (es : s.c.s < E) : sta (s.ended E) (E - 1) = 2 := by
  unfold sta Sb.ended
  simp only
  rw [if_neg (by omega), if_neg (by omega), if_pos (by omega)]
theorem not_stop {s : Sb} {m today most : Int} {i : Nat} (h : ¬ Stop s m today most i) : Has s.c m (s.b.toNat + i + 1) ∧ bnd s.c m (s.b.toNat + i) ≤ today ∧ (s.e = 0 ∨ bnd s.c m (s.b.toNat + i) < s.e) ∧ s.b.toNat + i < 2000 ∧ (i : Int) ≠ most := by
  unfold Stop at h
  refine ⟨Classical.byContradiction fun g => h (.inr (.inr (.inl g))), Int.not_lt.1 fun g => h (.inr (.inr (.inr (.inl g)))), ?_, Nat.lt_of_not_le fun g => h (.inr (.inl g)), fun g => h (.inl g)⟩
  by_cases he : s.e = 0
  · exact .inl he
  · exact .inr (Int.not_le.1 fun g => h (.inr (.inr (.inr (.inr ⟨he, g⟩)))))
theorem after_nat {s : Sb} {n : Nat} (h : 0 ≤ s.b) : (s.after n).b.toNat = s.b.toNat + n := by
  show (s.b + (n : Int)).toNat = _
  omega
theorem after_ok {s : Sb} {m today most : Int} {n : Nat} (h : s.Ok m) (hM : Many s m today most n) (hm : 0 ≤ most) : (s.after n).Ok m := by
  have hle := hM.le hm h.num
  refine ⟨⟨h.num.id, h.num.cu, h.num.pl, h.num.p0, h.num.p1, ?_, hle.2⟩, h.c, ?_, h.ws, h.we⟩
  · have := h.num.b0
    show 0 ≤ s.b + (n : Int)
    omega
  · rw [after_nat h.num.b0]
    cases n with
    | zero => exact h.has
    | succ n => exact (not_stop (hM.1 n (by omega))).1
theorem again {s : Sb} {m today most : Int} {n n2 : Nat} (h : s.Ok m) (hM : Many s m today most n) (hne : (n : Int) ≠ most) (hM2 : Many (s.after n) m today most n2) : n2 = 0 := by
  refine Many.one hM2 ⟨fun i hi => absurd hi (by omega), ?_⟩
  have hs := hM.2
  unfold Stop at hs ⊢
  rw [after_nat h.num.b0, Nat.add_zero]
  rcases hs with hs | hs | hs | hs | hs
  · exact absurd hs hne
  · exact .inr (.inl hs)
  · exact .inr (.inr (.inl hs))
  · exact .inr (.inr (.inr (.inl hs)))
  · exact .inr (.inr (.inr (.inr hs)))
/-- What a bill is. -/
structure BillIs (s : Sb) (m today : Int) (k : Nat) : Prop where
  t : bnd s.c m k ≤ today
  lt : bnd s.c m k < (bill s m k).n
  le : (bill s m k).n ≤ bnd s.c m (k + 1)
  en : (bill s m k).n = bnd s.c m (k + 1) ∨ (bill s m k).n = s.e
  a0 : 0 ≤ (bill s m k).a
  a1 : (bill s m k).a ≤ s.p
  w : 1 ≤ k → (bill s m k).n = bnd s.c m (k + 1) → (bill s m k).a = s.p
theorem bill_is {s : Sb} {m today most : Int} {i : Nat} (hin : In m s.c.s) (h : s.Ok m) (hs : ¬ Stop s m today most i) : BillIs s m today (s.b.toNat + i) := by
  obtain ⟨h1, h2, h3, h4, h5⟩ := not_stop hs
  have hb := per_bd h.c hin h1
  refine ⟨h2, en_gt hb.2.1 h3, en_le, en_or _ _, (amt_bd h.num.p0 _ _).1, (amt_bd h.num.p0 _ _).2, fun hk hn => ?_⟩
  show amt s.c m (s.b.toNat + i) s.p (bnd s.c m (s.b.toNat + i)) (en s.e (bnd s.c m (s.b.toNat + i + 1))) = s.p
  rw [show en s.e (bnd s.c m (s.b.toNat + i + 1)) = bnd s.c m (s.b.toNat + i + 1) from hn]
  obtain ⟨j, hj⟩ : ∃ j, s.b.toNat + i = j + 1 := ⟨s.b.toNat + i - 1, by omega⟩
  rw [hj] at h1 ⊢
  exact amt_whole h.c hin h1 h.num.p0 h.num.p1
end Go.Proofs.YtjchecjonkmhgaaDoor.Su
