/- Package subs: both sides tell the same: Due, State, Check. -/
import Derived.Test.YtjchecjonkmhgaaDoorSuCan0
namespace Go.Proofs.YtjchecjonkmhgaaDoor.Su
open Go.RowKit Pr Cw An Rf
theorem month_ex (c : Cy) : ∃ m, c.Ok → In m c.s := by
  by_cases h : c.Ok
  · obtain ⟨m, hm⟩ := In.ex c.s h.s0 h.s1
    exact ⟨m, fun _ => hm⟩
  · exact ⟨0, fun k => absurd k h⟩
theorem many_to (s : Sb) (m today most : Int) : ∀ N : Nat, Stop s m today most N → ∃ n, Many s m today most n
  | 0, h => ⟨0, fun i hi => absurd hi (by omega), h⟩
  | N + 1, h => by
    by_cases hs : ∃ i, i < N + 1 ∧ Stop s m today most i
    · obtain ⟨i, hi, hi2⟩ := hs
      have : i ≤ N := by omega
      exact many_le s m today most N i this hi2
    · exact ⟨N + 1, fun i hi hh => hs ⟨i, hi, hh⟩, h⟩
where
  many_le (s : Sb) (m today most : Int) : ∀ (N i : Nat), i ≤ N → Stop s m today most i → ∃ n, Many s m today most n
  | 0, i, hi, h => ⟨i, fun j hj => absurd hj (by omega), h⟩
  | N + 1, i, hi, h => by
    by_cases hs : ∃ j, j < i ∧ Stop s m today most j
    · obtain ⟨j, hj, hj2⟩ := hs
      exact many_le s m today most N j (by omega) hj2
    · exact ⟨i, fun j hj hh => hs ⟨j, hj, hh⟩, h⟩
theorem many_ex (s : Sb) (m today most : Int) (h : 0 ≤ most) : ∃ n, Many s m today most n := many_to s m today most most.toNat (Or.inl (by omega))
/-- What a call of Due tells. -/
def DueOut (a : Sb) (L : List Bl) (z : Int) (w : World) (e : Ending) (w' : World) : Prop :=
  ∃ ad cap, e = .returned (.tuple #[.slice ad L.length cap, a.val, .int .i64 z]) ∧ Rb w' ad L ∧ Below w.heap.size w w'
theorem due_out_no {w : World} {e : Ending} {w' : World} (h : DueNo w e w') : DueOut Sb.none [] 2 w e w' := ⟨Option.none, 0, h.1, fun j hj => absurd hj (by simp), h.2⟩
theorem due_out_yes {s : Sb} {m today most : Int} {n : Nat} (hm : Many s m today most n) {w : World} {e : Ending} {w' : World} (h : DueRes s m today most w e w') : DueOut (s.after n) (bills s m n) 0 w e w' := by
  obtain ⟨n', v, hM, he, hrow, hb⟩ := h
  obtain rfl := Many.one hM hm
  have hl := bills_len s m n'
  obtain ⟨a, cap, hv, hr⟩ := own_rb (L := bills s m n') (by rw [hl]; exact hrow)
  exact ⟨a, cap, by rw [he, hv], hr, hb⟩
theorem both_due (s : Sb) (today most : Int) (hf : s.Fits) : ∃ (a : Sb) (L : List Bl) (z : Int), L.length ≤ 2000 ∧ (∀ w, Tab w → Calls Tryd.prog 9 #[s.val, .int .i64 today, .int .i64 most] w (DueOut a L z w)) ∧
    ∀ w, Calls Tryd.prog 10 #[s.val, .int .i64 today, .int .i64 most] w (DueOut a L z w) := by
  obtain ⟨m, hin⟩ := month_ex s.c
  by_cases h : s.Ok m
  · have hi := hin h.c
    by_cases hd : 1 ≤ today ∧ today ≤ 3652059
    · by_cases hm : 1 ≤ most ∧ most ≤ 1000
      · obtain ⟨n, hn⟩ := many_ex s m today most (by omega)
        have hle := hn.le (by omega) h.num
        exact ⟨s.after n, bills s m n, 0, by rw [bills_len]; omega, fun w hw => (due_in s m today most w hw hi h hd hm.1 hm.2).mono fun _ _ hr => due_out_yes hn hr, fun w => (rdue_in s m today most w hi h hd hm.1 hm.2).mono fun _ _ hr => due_out_yes hn hr⟩
      · have hm' : most < 1 ∨ (1 ≤ most ∧ 1000 < most) := by omega
        exact ⟨_, _, _, by simp, fun w hw => (due_most s m today most w hw hi h hd hm').mono fun _ _ hr => due_out_no hr, fun w => (rdue_most s m today most w hi h hd hm').mono fun _ _ hr => due_out_no hr⟩
    · exact ⟨_, _, _, by simp, fun w hw => (due_day s m today most w hw hi h hd).mono fun _ _ hr => due_out_no hr, fun w => (rdue_day s m today most w hi h hd).mono fun _ _ hr => due_out_no hr⟩
  · exact ⟨_, _, _, by simp, fun w hw => (due_bad s m today most w hw hf hin h).mono fun _ _ hr => due_out_no hr, fun w => (rdue_bad s m today most w hf hin h).mono fun _ _ hr => due_out_no hr⟩
theorem both_state (s : Sb) (day : Int) (hf : s.Fits) : ∃ (v z : Int), (∀ w, Tab w → Calls Tryd.prog 11 #[s.val, .int .i64 day] w fun e w' => e = .returned (.tuple #[.int .u8 v, .int .i64 z]) ∧ Below w.heap.size w w') ∧
    ∀ w, Calls Tryd.prog 12 #[s.val, .int .i64 day] w fun e w' => e = .returned (.tuple #[.int .u8 v, .int .i64 z]) ∧ Below w.heap.size w w' := by
  obtain ⟨m, hin⟩ := month_ex s.c
  by_cases h : s.Ok m
  · have hi := hin h.c
    by_cases hd : 1 ≤ day ∧ day ≤ 3652059
    · exact ⟨sta s day, 0, fun w hw => state_ok s m day w hw hi h hd, fun w => rstate_ok s m day w hi h hd⟩
    · exact ⟨0, 2, fun w hw => state_day s m day w hw hi h hd, fun w => rstate_day s m day w hi h hd⟩
  · exact ⟨0, 2, fun w hw => state_bad s m day w hw hf hin h, fun w => rstate_bad s m day w hf hin h⟩
theorem both_check (s : Sb) (hf : s.Fits) : ∃ z : Int, (∀ w, Tab w → Calls Tryd.prog 14 #[s.val] w fun e w' => e = .returned (.int .i64 z) ∧ Below w.heap.size w w') ∧
    ∀ w, Calls Tryd.prog 15 #[s.val] w fun e w' => e = .returned (.int .i64 z) ∧ Below w.heap.size w w' := by
  obtain ⟨m, hin⟩ := month_ex s.c
  by_cases h : s.Ok m
  · exact ⟨0, fun w hw => check_yes s m w hw (hin h.c) h, fun w => rcheck_yes s m w (hin h.c) h⟩
  · exact ⟨2, fun w hw => check_no s m w hw hf hin h, fun w => rcheck_no s m w hf hin h⟩
/-- What a call of Change or Cancel tells. -/
def TurnOut (a : Sb) (x : Tn) (z : Int) (w : World) (e : Ending) (w' : World) : Prop := e = .returned (.tuple #[a.val, x.val, .int .i64 z]) ∧ Below w.heap.size w w'
end Go.Proofs.YtjchecjonkmhgaaDoor.Su
