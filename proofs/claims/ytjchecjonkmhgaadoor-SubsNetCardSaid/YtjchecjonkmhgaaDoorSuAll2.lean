/- Package subs: both sides tell the same: Cancel. -/
import Derived.Test.YtjchecjonkmhgaaDoorSuAll0
import Derived.Test.YtjchecjonkmhgaaDoorSuCan1
import Derived.Test.YtjchecjonkmhgaaDoorSuRCan
namespace Go.Proofs.YtjchecjonkmhgaaDoor.Su
open Go.RowKit Pr Cw An Rf
theorem both_can (s : Sb) (day : Int) (at' : Bool) (hf : s.Fits) : ∃ (a : Sb) (x : Tn) (z : Int), (∀ w, Tab w → Calls Tryd.prog 19 #[s.val, .int .i64 day, .bool at'] w (TurnOut a x z w)) ∧
    ∀ w, Calls Tryd.prog 20 #[s.val, .int .i64 day, .bool at'] w (TurnOut a x z w) := by
  obtain ⟨m, hin⟩ := month_ex s.c
  by_cases h : s.Ok m
  · have hi := hin h.c
    by_cases hd : 1 ≤ day ∧ day ≤ 3652059
    · by_cases h1 : s.e = 0
      · by_cases h2 : day < s.c.s
        · exact ⟨_, _, _, fun w hw => can_s s m day at' w hw hi h hd h1 h2, fun w => rcan_s s m day at' w hi h hd h1 h2⟩
        · cases at' with
          | true =>
            by_cases h3 : day < s.s
            · exact ⟨_, _, _, fun w hw => can_a s m day w hw hi h hd h1 h2 h3, fun w => rcan_a s m day w hi h hd h1 h2 h3⟩
            · by_cases hk : ∃ k, Per s.c m day k
              · obtain ⟨k, hk⟩ := hk
                rcases (show (k : Int) + 1 < s.b ∨ s.b = (k : Int) + 1 ∨ s.b ≤ (k : Int) by omega) with hb | hb | hb
                · exact ⟨_, _, _, fun w hw => can_late_true s m day w hw hi h hd h1 h2 h3 k hk hb, fun w => rcan_late_true s m day w hi h hd h1 h2 h3 k hk hb⟩
                · exact ⟨_, _, _, fun w hw => can_at1 s m day w hw hi h hd h1 h2 h3 k hk hb, fun w => rcan_at1 s m day w hi h hd h1 h2 h3 k hk hb⟩
                · exact ⟨_, _, _, fun w hw => can_at0 s m day w hw hi h hd h1 h2 h3 k hk hb, fun w => rcan_at0 s m day w hi h hd h1 h2 h3 k hk hb⟩
              · have hk' : ∀ k, ¬ Per s.c m day k := fun k hh => hk ⟨k, hh⟩
                exact ⟨_, _, _, fun w hw => can_none_true s m day w hw hi h hd h1 h2 h3 hk', fun w => rcan_none_true s m day w hi h hd h1 h2 h3 hk'⟩
          | false =>
            by_cases hk : ∃ k, Per s.c m day k
            · obtain ⟨k, hk⟩ := hk
              rcases (show (k : Int) + 1 < s.b ∨ s.b ≤ (k : Int) + 1 by omega) with hb | hb
              · exact ⟨_, _, _, fun w hw => can_late_false s m day w hw hi h hd h1 h2 k hk hb, fun w => rcan_late_false s m day w hi h hd h1 h2 k hk hb⟩
              · exact ⟨_, _, _, fun w hw => can_next s m day w hw hi h hd h1 h2 k hk hb, fun w => rcan_next s m day w hi h hd h1 h2 k hk hb⟩
            · have hk' : ∀ k, ¬ Per s.c m day k := fun k hh => hk ⟨k, hh⟩
              exact ⟨_, _, _, fun w hw => can_none_false s m day w hw hi h hd h1 h2 hk', fun w => rcan_none_false s m day w hi h hd h1 h2 hk'⟩
      · exact ⟨_, _, _, fun w hw => can_e s m day at' w hw hi h hd h1, fun w => rcan_e s m day at' w hi h hd h1⟩
    · exact ⟨_, _, _, fun w hw => can_day s m day at' w hw hi h hd, fun w => rcan_day s m day at' w hi h hd⟩
  · exact ⟨_, _, _, fun w hw => can_bad s m day at' w hw hf hin h, fun w => rcan_bad s m day at' w hf hin h⟩
end Go.Proofs.YtjchecjonkmhgaaDoor.Su
