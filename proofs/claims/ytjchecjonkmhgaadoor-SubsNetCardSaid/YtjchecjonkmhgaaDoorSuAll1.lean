/- Package subs: both sides tell the same: Change. -/
import Derived.Test.YtjchecjonkmhgaaDoorSuAll0
import Derived.Test.YtjchecjonkmhgaaDoorSuChg1
import Derived.Test.YtjchecjonkmhgaaDoorSuChg2
import Derived.Test.YtjchecjonkmhgaaDoorSuChg3
import Derived.Test.YtjchecjonkmhgaaDoorSuRChg
namespace Go.Proofs.YtjchecjonkmhgaaDoor.Su
open Go.RowKit Pr Cw An Rf
theorem chg_last {s : Sb} {m day : Int} {k : Nat} (h : s.Ok m) (hin : In m s.c.s) (_hd : 1 ≤ day) (hb : s.b = (k : Int) + 1) : lastB s m day = true ↔ Chg s m day k := by
  have hk : s.b.toNat = k + 1 := by omega
  have hh : Has s.c m (k + 1) := hk ▸ h.has
  have hpb := per_bd h.c hin hh
  have hse : s.e = 0 ∨ 1 ≤ s.e := by rcases h.we with hw0 | hw0 <;> omega
  have hen := en_bd (e := s.e) (n := bnd s.c m (k + 1)) hse (by omega)
  unfold lastB Chg Per
  rw [hk, Nat.add_sub_cancel]
  simp only [Bool.and_eq_true, decide_eq_true_eq]
  constructor
  · rintro ⟨h1, h2, h3⟩
    exact ⟨⟨hh, h1, by omega⟩, hb, h2, h3⟩
  · rintro ⟨⟨_, h1, _⟩, _, h2, h3⟩
    exact ⟨h1, h2, h3⟩
theorem both_chg (s : Sb) (day tp tq : Int) (hf : s.Fits) (htp : U64 tp) : ∃ (a : Sb) (x : Tn) (z : Int), (∀ w, Tab w → Calls Tryd.prog 17 #[s.val, .int .i64 day, .agg #[.int .u64 tp, .int .i64 tq]] w (TurnOut a x z w)) ∧
    ∀ w, Calls Tryd.prog 18 #[s.val, .int .i64 day, .agg #[.int .u64 tp, .int .i64 tq]] w (TurnOut a x z w) := by
  obtain ⟨m, hin⟩ := month_ex s.c
  by_cases h : s.Ok m
  · have hi := hin h.c
    have hb0 := h.num.b0
    by_cases hd : 1 ≤ day ∧ day ≤ 3652059
    · by_cases ht : tp = 0
      · exact ⟨_, _, _, fun w hw => chg_plan s m day tp tq w hw hi h hd ht, fun w => rchg_plan s m day tp tq w hi h hd ht⟩
      · have ht1 : 1 ≤ tp := by have := htp.1; omega
        by_cases hq : 0 ≤ tq ∧ tq < 4611686018427387904
        · obtain ⟨hq0, hq1⟩ := hq
          by_cases hc : ∃ k, Chg s m day k
          · obtain ⟨k, hk⟩ := hc
            have hl := (chg_last h hi hd.1 hk.2.1).2 hk
            have h1 : (k : Int) = s.b - 1 := by have := hk.2.1; omega
            have h2 : ¬ en s.e (bnd s.c m (k + 1)) ≤ day := by have := hk.2.2.1; omega
            have h3 : ¬ day < s.s := by have := hk.2.2.2; omega
            exact ⟨_, _, _, fun w hw => (chg_ok s m day tp tq w hw hi h hd ht1 hq0 hq1 k hk.1 ⟨h1, h2, h3⟩).mono fun _ _ hr => hr.2, fun w => rchg_ok s m day tp tq w hi h hd ht1 hq0 hq1 k hk.2.1 hl⟩
          · refine ⟨Sb.none, Tn.none, 9, fun w hw => ?_, fun w => ?_⟩
            · by_cases hp : ∃ k, Per s.c m day k
              · obtain ⟨k, hk⟩ := hp
                by_cases h1 : (k : Int) = s.b - 1
                · by_cases h2 : en s.e (bnd s.c m (k + 1)) ≤ day
                  · exact chg_end s m day tp tq w hw hi h hd ht1 hq0 hq1 k hk ⟨h1, h2⟩
                  · by_cases h3 : day < s.s
                    · exact chg_since s m day tp tq w hw hi h hd ht1 hq0 hq1 k hk ⟨h1, h2, h3⟩
                    · exact absurd ⟨k, hk, by omega, by omega, by omega⟩ hc
                · exact chg_k s m day tp tq w hw hi h hd ht1 hq0 hq1 k hk h1
              · exact chg_none s m day tp tq w hw hi h hd ht1 hq0 hq1 fun k hk => hp ⟨k, hk⟩
            · by_cases hb : s.b = 0
              · exact rchg_first s m day tp tq w hi h hd ht1 hq0 hq1 hb
              · cases hl : lastB s m day with
                | false => exact rchg_no s m day tp tq w hi h hd ht1 hq0 hq1 (by omega) hl
                | true => exact absurd ⟨s.b.toNat - 1, (chg_last h hi hd.1 (by omega)).1 hl⟩ hc
        · have hq' : tq < 0 ∨ (0 ≤ tq ∧ 4611686018427387904 ≤ tq) := by omega
          exact ⟨_, _, _, fun w hw => chg_price s m day tp tq w hw hi h hd ht1 (by omega), fun w => rchg_price s m day tp tq w hi h hd ht1 hq'⟩
    · exact ⟨_, _, _, fun w hw => chg_day s m day tp tq w hw hi h hd, fun w => rchg_day s m day tp tq w hi h hd⟩
  · exact ⟨_, _, _, fun w hw => chg_bad s m day tp tq w hw hf hin h, fun w => rchg_bad s m day tp tq w hf hin h⟩
end Go.Proofs.YtjchecjonkmhgaaDoor.Su
