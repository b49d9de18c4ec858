/- Package chart: Add. -/
import Derived.Test.YtialclecoamobaaChValid
namespace Go.Proofs.Ytialclecoamobaa.Ch
open Go Go.RowKit Ck Go.Maps
/-- What Add does. -/
def addM (M : Int → Option Acc) (a : A5) : (Int → Option Acc) × Int :=
  if a.validB = false then (M, 2) else if (M a.code).isSome = true then (M, 8) else
  if a.up = 0 then (upd M a.code ⟨a.code, a.up, a.cls, a.name, a.shut, ((M 0).getD Acc.zero).depth + 1, 0⟩, 0) else
  match M a.up with
  | none => (M, 7)
  | some p => if p.shut = true ∨ p.cls ≠ a.cls ∨ 8 ≤ p.depth then (M, 9) else
    (upd (upd M a.up ⟨p.code, p.up, p.cls, p.name, p.shut, p.depth, p.kids + 1⟩) a.code ⟨a.code, a.up, a.cls, a.name, a.shut, p.depth + 1, 0⟩, 0)
/-- What holds of all accounts. -/
def Bd (M : Int → Option Acc) : Prop := ∀ c p, M c = some p → 0 ≤ p.depth ∧ p.depth ≤ 1000 ∧ 0 ≤ p.kids ∧ p.kids ≤ 1000000
section
variable {w : World} {c bm n : Nat} {tv : Value} {M : Int → Option Acc} {K : List Int}
def AddRes (c bm n : Nat) (tv : Value) (M' : Int → Option Acc) (z : Int) (w : World) (e : Ending) (w' : World) : Prop :=
  e = .returned (.int .i64 z) ∧ ∃ (tv' : Value) (K' : List Int) (n' : Nat), n' ≤ n + 2 ∧ (z = 0 ∨ n' ≤ n) ∧ At w' c bm tv' n' M' K' ∧ Keeps (Bs c bm tv) w w' ∧ ∀ j, Bs c bm tv' j → Bs c bm tv j ∨ w.heap.size ≤ j
theorem add_same (h : At w c bm tv n M K) {z : Int} {w' : World} (k : Below w.heap.size w w') : AddRes c bm n tv M z w (.returned (.int .i64 z)) w' :=
  ⟨rfl, tv, K, n, by omega, .inr (Nat.le_refl _), h.later k, Keeps.of _ k, fun j hj => .inl hj⟩
set_option maxRecDepth 100000 in
theorem add_nil (a : A5) (w : World) : Calls Try.prog 11 #[.pointer none, a.val] w fun e w' => e = .returned (.int .i64 1) ∧ Below w.heap.size w w' := by
  obtain ⟨code, up, cls, name, shut⟩ := a
  have HB : Hid (Below w.heap.size w (w.alloc (.cells #[.int .i64 code, .int .i64 up, .int .u8 cls, .string name, .bool shut] 27))) := (Below.refl _ w).alloc (Nat.le_refl _) _
  have KI := Lib.hid is_nil
  unfold A5.val
  simp only
  go_enter Try.func11, Try.ntmps11
  go_wp2_with fail
  refine (KI.out _).mono ?_
  rintro e w' ⟨rfl, rfl⟩
  go_wp2_with fail
  go_ret
  exact ⟨rfl, HB.out⟩
set_option maxRecDepth 100000 in
theorem add_zero (h : Rw w c TCh [.map none, .slice none 0 0]) (a : A5) : Calls Try.prog 11 #[.pointer (some ⟨c, 0, none⟩), a.val] w fun e w' => e = .returned (.int .i64 1) ∧ Below w.heap.size w w' := by
  obtain ⟨code, up, cls, name, shut⟩ := a
  have HB : Hid (Below w.heap.size w (w.alloc (.cells #[.int .i64 code, .int .i64 up, .int .u8 cls, .string name, .bool shut] 27))) := (Below.refl _ w).alloc (Nat.le_refl _) _
  have KI := Lib.hid (is_zero (h.later HB.out))
  clear h
  unfold A5.val
  simp only
  go_enter Try.func11, Try.ntmps11
  go_wp2_with fail
  refine KI.out.mono ?_
  rintro e w' ⟨rfl, rfl⟩
  go_wp2_with fail
  go_ret
  exact ⟨rfl, HB.out⟩
set_option maxRecDepth 100000 in
set_option maxHeartbeats 3200000 in
theorem add_c (h : At w c bm tv n M K) (a : A5) (hf : a.Fits) (hn : n < 900000) (hK : K.length ≤ 900000) (hb : Bd M) : Calls Try.prog 11 #[.pointer (some ⟨c, 0, none⟩), a.val] w (AddRes c bm n tv (addM M a).1 (addM M a).2 w) := by
  have H := Lib.hid h
  have HBD := Lib.hid hb
  obtain ⟨code, up, cls, name, shut⟩ := a
  have hc1 := hf.code
  have hu1 := hf.up
  simp only at hc1 hu1
  have HB0 : Hid (Below w.heap.size w (w.alloc (.cells #[.int .i64 code, .int .i64 up, .int .u8 cls, .string name, .bool shut] 27))) := (Below.refl _ w).alloc (Nat.le_refl _) _
  have RB0 : Hid (Rw (w.alloc (.cells #[.int .i64 code, .int .i64 up, .int .u8 cls, .string name, .bool shut] 27)) w.heap.size 27 [.int .i64 code, .int .i64 up, .int .u8 cls, .string name, .bool shut]) := Rw.new w [.int .i64 code, .int .i64 up, .int .u8 cls, .string name, .bool shut] 27
  have KI := Lib.hid (is_c (h.later HB0.out))
  have KV : Hid (∀ u, Calls Try.prog 30 #[.agg #[.int .i64 code, .int .i64 up, .int .u8 cls, .string name, .bool shut]] u fun e w' => e = .returned (.bool (A5.validB ⟨code, up, cls, name, shut⟩)) ∧ Below u.heap.size u w') := fun u => valid_c ⟨code, up, cls, name, shut⟩ u hf
  have KG : Hid (∀ u k, Below w.heap.size w u → I64 k → Calls Try.prog 27 #[.pointer (some ⟨c, 0, none⟩), .int .i64 k] u (GetRes M k u)) := fun u k hu hk => get_c (H.out.later hu) k hk
  obtain ⟨R, hR⟩ : ∃ R, R = addM M ⟨code, up, cls, name, shut⟩ := ⟨_, rfl⟩
  rw [← hR]
  unfold addM at hR
  simp only at hR
  obtain ⟨vb, hvb⟩ : ∃ vb, vb = A5.validB ⟨code, up, cls, name, shut⟩ := ⟨_, rfl⟩
  rw [← hvb] at KV hR
  unfold A5.val
  simp only
  have HC1 := Lib.hid hc1
  have HU1 := Lib.hid hu1
  clear h hb hf hvb hc1 hu1
  cases vb with
  | false =>
    rw [if_pos rfl] at hR
    subst hR
    go_enter Try.func11, Try.ntmps11
    go_wp2_with fail
    refine KI.out.mono ?_
    rintro e w' ⟨rfl, rfl⟩
    go_wp2_with fail
    refine (KV.out _).mono ?_
    rintro e u1 ⟨rfl, hb⟩
    have HB1 : Hid (Below w.heap.size w u1) := HB0.out.trans (hb.mono HB0.out.size)
    clear hb
    go_wp2_with fail
    go_ret
    exact add_same H.out HB1.out
  | true =>
    rw [if_neg (by decide)] at hR
    obtain ⟨q, hq⟩ : ∃ q, q = (M code).getD Acc.zero := ⟨_, rfl⟩
    have HQ := Lib.hid hq
    clear hq
    go_enter Try.func11, Try.ntmps11
    go_wp2_with fail
    generalize w.alloc (.cells #[.int .i64 code, .int .i64 up, .int .u8 cls, .string name, .bool shut] 27) = W0 at HB0 RB0 KI ⊢
    refine KI.out.mono ?_
    rintro e w' ⟨rfl, rfl⟩
    have b0 : W0.cell? ⟨w.heap.size, 0, none⟩ = some (.int .i64 code) := (RB0.out).cell 0
    have b1 : W0.cell? ⟨w.heap.size, 1, none⟩ = some (.int .i64 up) := (RB0.out).cell 1
    have b2 : W0.cell? ⟨w.heap.size, 2, none⟩ = some (.int .u8 cls) := (RB0.out).cell 2
    have b3 : W0.cell? ⟨w.heap.size, 3, none⟩ = some (.string name) := (RB0.out).cell 3
    have b4 : W0.cell? ⟨w.heap.size, 4, none⟩ = some (.bool shut) := (RB0.out).cell 4
    go_wp2_with fail
    refine (KV.out _).mono ?_
    rintro e u1 ⟨rfl, hb⟩
    have HB1 : Hid (Below w.heap.size w u1) := HB0.out.trans (hb.mono HB0.out.size)
    have RB1 := Lib.hid (RB0.out.later hb)
    clear hb b0 b1 b2 b3 b4 KI KV HB0 RB0
    have b0 : u1.cell? ⟨w.heap.size, 0, none⟩ = some (.int .i64 code) := (RB1.out).cell 0
    have b1 : u1.cell? ⟨w.heap.size, 1, none⟩ = some (.int .i64 up) := (RB1.out).cell 1
    have b2 : u1.cell? ⟨w.heap.size, 2, none⟩ = some (.int .u8 cls) := (RB1.out).cell 2
    have b3 : u1.cell? ⟨w.heap.size, 3, none⟩ = some (.string name) := (RB1.out).cell 3
    have b4 : u1.cell? ⟨w.heap.size, 4, none⟩ = some (.bool shut) := (RB1.out).cell 4
    have KG1 := Lib.hid (KG.out u1 code HB1.out HC1.out)
    unfold GetRes at KG1
    rw [← HQ.out] at KG1
    obtain ⟨qa, qb, qc, qs, qd, qe, qf⟩ := q
    unfold Acc.val at KG1
    simp only at KG1
    go_wp2_with fail
    refine KG1.out.mono ?_
    rintro e u2 ⟨rfl, hb⟩
    have RB2 := Lib.hid ((RB1.out.later hb).later ((Below.refl _ u2).alloc (Nat.le_refl _) (.cells #[.int .i64 qa, .int .i64 qb, .int .u8 qc, .string qs, .bool qd, .int .i64 qe, .int .i64 qf] TAcc)))
    have HB2 : Hid (Below w.heap.size w (u2.alloc (.cells #[.int .i64 qa, .int .i64 qb, .int .u8 qc, .string qs, .bool qd, .int .i64 qe, .int .i64 qf] TAcc))) := (HB1.out.trans (hb.mono HB1.out.size)).alloc (Nat.le_trans HB1.out.size hb.size) _
    clear hb b0 b1 b2 b3 b4 KG1 RB1 HB1
    cases hs : (M code).isSome with
    | true =>
      rw [hs, if_pos rfl] at hR
      subst hR
      go_wp2_with fail
      go_ret
      exact add_same H.out HB2.out
    | false =>
      rw [hs, if_neg (by decide)] at hR
      have HS := Lib.hid hs
      clear hs
      have b0 : (u2.alloc (.cells #[.int .i64 qa, .int .i64 qb, .int .u8 qc, .string qs, .bool qd, .int .i64 qe, .int .i64 qf] TAcc)).cell? ⟨w.heap.size, 0, none⟩ = some (.int .i64 code) := (RB2.out).cell 0
      have b1 : (u2.alloc (.cells #[.int .i64 qa, .int .i64 qb, .int .u8 qc, .string qs, .bool qd, .int .i64 qe, .int .i64 qf] TAcc)).cell? ⟨w.heap.size, 1, none⟩ = some (.int .i64 up) := (RB2.out).cell 1
      have b2 : (u2.alloc (.cells #[.int .i64 qa, .int .i64 qb, .int .u8 qc, .string qs, .bool qd, .int .i64 qe, .int .i64 qf] TAcc)).cell? ⟨w.heap.size, 2, none⟩ = some (.int .u8 cls) := (RB2.out).cell 2
      have b3 : (u2.alloc (.cells #[.int .i64 qa, .int .i64 qb, .int .u8 qc, .string qs, .bool qd, .int .i64 qe, .int .i64 qf] TAcc)).cell? ⟨w.heap.size, 3, none⟩ = some (.string name) := (RB2.out).cell 3
      have b4 : (u2.alloc (.cells #[.int .i64 qa, .int .i64 qb, .int .u8 qc, .string qs, .bool qd, .int .i64 qe, .int .i64 qf] TAcc)).cell? ⟨w.heap.size, 4, none⟩ = some (.bool shut) := (RB2.out).cell 4
      have KG2 := Lib.hid (KG.out (u2.alloc (.cells #[.int .i64 qa, .int .i64 qb, .int .u8 qc, .string qs, .bool qd, .int .i64 qe, .int .i64 qf] TAcc)) up HB2.out HU1.out)
      unfold GetRes at KG2
      obtain ⟨p, hp⟩ : ∃ p, p = (M up).getD Acc.zero := ⟨_, rfl⟩
      obtain ⟨s, hsu⟩ : ∃ s, s = (M up).isSome := ⟨_, rfl⟩
      rw [← hp, ← hsu] at KG2
      have HPB : Hid (0 ≤ p.depth ∧ p.depth ≤ 1000 ∧ 0 ≤ p.kids ∧ p.kids ≤ 1000000) := by
        rw [hp]
        cases hm : M up with
        | none => exact ⟨by decide, by decide, by decide, by decide⟩
        | some p0 => exact HBD.out up p0 hm
      have HP := Lib.hid hp
      have HSU := Lib.hid hsu
      clear hp hsu KG
      obtain ⟨pa, pb, pc, ps, pd, pe, pf⟩ := p
      unfold Acc.val at KG2
      simp only at KG2
      go_wp2_with fail
      refine KG2.out.mono ?_
      rintro e u3 ⟨rfl, hb⟩
      have RB3 := Lib.hid ((RB2.out.later hb).later ((Below.refl _ u3).alloc (Nat.le_refl _) (.cells #[.int .i64 pa, .int .i64 pb, .int .u8 pc, .string ps, .bool pd, .int .i64 pe, .int .i64 pf] TAcc)))
      have RP3 : Hid (Rw (u3.alloc (.cells #[.int .i64 pa, .int .i64 pb, .int .u8 pc, .string ps, .bool pd, .int .i64 pe, .int .i64 pf] TAcc)) u3.heap.size TAcc [.int .i64 pa, .int .i64 pb, .int .u8 pc, .string ps, .bool pd, .int .i64 pe, .int .i64 pf]) := Rw.new u3 [.int .i64 pa, .int .i64 pb, .int .u8 pc, .string ps, .bool pd, .int .i64 pe, .int .i64 pf] TAcc
      have HB3 : Hid (Below w.heap.size w (u3.alloc (.cells #[.int .i64 pa, .int .i64 pb, .int .u8 pc, .string ps, .bool pd, .int .i64 pe, .int .i64 pf] TAcc))) := (HB2.out.trans (hb.mono HB2.out.size)).alloc (Nat.le_trans HB2.out.size hb.size) _
      have HBP : Hid (w.heap.size < u3.heap.size) := RB2.out.lt |> fun h => Nat.lt_of_lt_of_le h hb.size
      clear hb b0 b1 b2 b3 b4 KG2 RB2 HB2
      go_upto_region 9 with (fail)
      obtain ⟨bp, hbp⟩ : ∃ bp, bp = u3.heap.size := ⟨_, rfl⟩
      generalize u3.alloc (.cells #[.int .i64 pa, .int .i64 pb, .int .u8 pc, .string ps, .bool pd, .int .i64 pe, .int .i64 pf] TAcc) = W3 at RB3 RP3 HB3 ⊢
      rw [← hbp] at RP3 HBP ⊢
      clear hbp
      have b0 : W3.cell? ⟨w.heap.size, 0, none⟩ = some (.int .i64 code) := (RB3.out).cell 0
      have b1 : W3.cell? ⟨w.heap.size, 1, none⟩ = some (.int .i64 up) := (RB3.out).cell 1
      have b2 : W3.cell? ⟨w.heap.size, 2, none⟩ = some (.int .u8 cls) := (RB3.out).cell 2
      have b3 : W3.cell? ⟨w.heap.size, 3, none⟩ = some (.string name) := (RB3.out).cell 3
      have b4 : W3.cell? ⟨w.heap.size, 4, none⟩ = some (.bool shut) := (RB3.out).cell 4
      have q0 : W3.cell? ⟨bp, 0, none⟩ = some (.int .i64 pa) := RP3.out.cell 0
      have q1 : W3.cell? ⟨bp, 1, none⟩ = some (.int .i64 pb) := RP3.out.cell 1
      have q2 : W3.cell? ⟨bp, 2, none⟩ = some (.int .u8 pc) := RP3.out.cell 2
      have q3 : W3.cell? ⟨bp, 3, none⟩ = some (.string ps) := RP3.out.cell 3
      have q4 : W3.cell? ⟨bp, 4, none⟩ = some (.bool pd) := RP3.out.cell 4
      have q5 : W3.cell? ⟨bp, 5, none⟩ = some (.int .i64 pe) := RP3.out.cell 5
      have q6 : W3.cell? ⟨bp, 6, none⟩ = some (.int .i64 pf) := RP3.out.cell 6
      have qf6 := RP3.out.frozen 6
      by_cases hup : up = 0
      · subst hup
        rw [if_pos rfl, ← HP.out] at hR
        subst hR
        obtain ⟨x1, x2, -, -⟩ := HPB.out
        try simp only at x1 x2
        have KW : Hid (Keeps (Bs c bm tv) w W3.drew) := (Keeps.of _ HB3.out).drew
        have HA := Lib.hid (H.out.keeps ((Keeps.of (fun _ => False) HB3.out).drew) fun _ _ h => h)
        have KS := Lib.hid (set_c HA.out code ⟨code, 0, cls, name, shut, pe + 1, 0⟩ HC1.out (by omega) (by omega))
        unfold Acc.val at KS
        simp only at KS
        go_upto_region 18 with (fail)
        go_still_tail 10, (by kernel_rfl)
        change wpList _ _ _ _ _ W3.drew
        go_wp2_with fail
        refine KS.out.mono ?_
        rintro e w1 ⟨rfl, tv', K', hA, hl, hk, hB⟩
        go_wp2_with fail
        go_ret
        exact ⟨rfl, tv', K', n + 1, by omega, .inl rfl, hA, KW.out.trans hk, fun j hj => (hB j hj).elim .inl fun h => .inr (Nat.le_trans HB3.out.size h)⟩
      · rw [if_neg hup] at hR
        have bup : (up != 0) = true := by simpa using hup
        cases s with
        | false =>
          have hm : M up = none := by
            have := HSU.out
            cases hmm : M up with
            | none => rfl
            | some _ => rw [hmm] at this; cases this
          rw [hm] at hR
          subst hR
          clear hm hup
          go_wp2_with fail
          go_ret
          exact add_same H.out HB3.out
        | true =>
          have hm : M up = some ⟨pa, pb, pc, ps, pd, pe, pf⟩ := by
            have h1 := HSU.out
            have h2 := HP.out
            cases hmm : M up with
            | none => rw [hmm] at h1; cases h1
            | some p0 => rw [hmm] at h2; rw [h2]; rfl
          rw [hm] at hR
          simp only at hR
          have HM := Lib.hid hm
          clear hm hup
          cases pd with
          | true =>
            rw [if_pos (.inl rfl)] at hR
            subst hR
            go_wp2_with fail
            go_ret
            exact add_same H.out HB3.out
          | false =>
            by_cases hcl : pc = cls
            · subst hcl
              by_cases hdp : 8 ≤ pe
              · rw [if_pos (.inr (.inr hdp))] at hR
                subst hR
                go_wp2_with fail
                go_ret
                exact add_same H.out HB3.out
              · rw [if_neg (by rintro (h | h | h); cases h; exact h rfl; exact hdp h)] at hR
                subst hR
                obtain ⟨x1, x2, x3, x4⟩ := HPB.out
                try simp only at x1 x2 x3 x4
                go_upto_region 17 with (fail)
                have HNE : Hid (w.heap.size ≠ bp) := Nat.ne_of_lt HBP.out
                have RP5 : Hid (Rw (W3.setCell ⟨bp, 6, none⟩ (.int .i64 (pf + 1))) bp TAcc [.int .i64 pa, .int .i64 pb, .int .u8 pc, .string ps, .bool false, .int .i64 pe, .int .i64 (pf + 1)]) := RP3.out.setCell 6 _
                have RB5 : Hid (Rw (W3.setCell ⟨bp, 6, none⟩ (.int .i64 (pf + 1))) w.heap.size 27 [.int .i64 code, .int .i64 up, .int .u8 pc, .string name, .bool shut]) := RB3.out.otherCell bp 6 _ HNE.out
                have HB5 : Hid (Below w.heap.size w (W3.setCell ⟨bp, 6, none⟩ (.int .i64 (pf + 1)))) := Keeps.belowT HB3.out ((Keeps.refl (fun j => j = bp) W3).setCell bp 6 _ (.inl rfl)) (fun j hj => by cases hj; exact Nat.le_of_lt HBP.out) HB3.out.size
                generalize W3.setCell ⟨bp, 6, none⟩ (.int .i64 (pf + 1)) = W5 at RP5 RB5 HB5 ⊢
                clear b0 b1 b2 b3 b4 q0 q1 q2 q3 q4 q5 q6
                clear qf6 RP3 RB3 HB3
                have b0 : W5.cell? ⟨w.heap.size, 0, none⟩ = some (.int .i64 code) := (RB5.out).cell 0
                have b1 : W5.cell? ⟨w.heap.size, 1, none⟩ = some (.int .i64 up) := (RB5.out).cell 1
                have b2 : W5.cell? ⟨w.heap.size, 2, none⟩ = some (.int .u8 pc) := (RB5.out).cell 2
                have b3 : W5.cell? ⟨w.heap.size, 3, none⟩ = some (.string name) := (RB5.out).cell 3
                have b4 : W5.cell? ⟨w.heap.size, 4, none⟩ = some (.bool shut) := (RB5.out).cell 4
                have q0 : W5.cell? ⟨bp, 0, none⟩ = some (.int .i64 pa) := (RP5.out).cell 0
                have q1 : W5.cell? ⟨bp, 1, none⟩ = some (.int .i64 pb) := (RP5.out).cell 1
                have q2 : W5.cell? ⟨bp, 2, none⟩ = some (.int .u8 pc) := (RP5.out).cell 2
                have q3 : W5.cell? ⟨bp, 3, none⟩ = some (.string ps) := (RP5.out).cell 3
                have q4 : W5.cell? ⟨bp, 4, none⟩ = some (.bool false) := (RP5.out).cell 4
                have q5 : W5.cell? ⟨bp, 5, none⟩ = some (.int .i64 pe) := (RP5.out).cell 5
                have q6 : W5.cell? ⟨bp, 6, none⟩ = some (.int .i64 (pf + 1)) := (RP5.out).cell 6
                have HA5 := Lib.hid (H.out.keeps ((Keeps.of (fun _ => False) HB5.out).drew) fun _ _ h => h)
                have KS5 := Lib.hid (set_c HA5.out up ⟨pa, pb, pc, ps, false, pe, pf + 1⟩ HU1.out (by omega) (by omega))
                unfold Acc.val at KS5
                simp only at KS5
                go_still_tail 6, (by kernel_rfl)
                change wpList _ _ _ _ _ W5.drew
                go_wp2_with fail
                refine KS5.out.mono ?_
                rintro e w1 ⟨rfl, tv1, K1, hA1, hl1, hk1, hB1⟩
                have HA6 := Lib.hid hA1
                have HK6 : Hid (Keeps (Bs c bm tv) W5.drew w1) := hk1
                have HB6 := Lib.hid hB1
                have RB6 := Lib.hid (RB5.out.drew.keeps hk1 fun h => Nat.lt_irrefl _ (H.out.lt _ h))
                have RP6 := Lib.hid (RP5.out.drew.keeps hk1 fun h => Nat.lt_asymm HBP.out (H.out.lt _ h))
                clear b0 b1 b2 b3 b4 q0 q1 q2 q3 q4 q5 q6
                clear hA1 hk1 hB1 KS5
                have b0 : w1.cell? ⟨w.heap.size, 0, none⟩ = some (.int .i64 code) := (RB6.out).cell 0
                have b1 : w1.cell? ⟨w.heap.size, 1, none⟩ = some (.int .i64 up) := (RB6.out).cell 1
                have b2 : w1.cell? ⟨w.heap.size, 2, none⟩ = some (.int .u8 pc) := (RB6.out).cell 2
                have b3 : w1.cell? ⟨w.heap.size, 3, none⟩ = some (.string name) := (RB6.out).cell 3
                have b4 : w1.cell? ⟨w.heap.size, 4, none⟩ = some (.bool shut) := (RB6.out).cell 4
                have q0 : w1.cell? ⟨bp, 0, none⟩ = some (.int .i64 pa) := (RP6.out).cell 0
                have q1 : w1.cell? ⟨bp, 1, none⟩ = some (.int .i64 pb) := (RP6.out).cell 1
                have q2 : w1.cell? ⟨bp, 2, none⟩ = some (.int .u8 pc) := (RP6.out).cell 2
                have q3 : w1.cell? ⟨bp, 3, none⟩ = some (.string ps) := (RP6.out).cell 3
                have q4 : w1.cell? ⟨bp, 4, none⟩ = some (.bool false) := (RP6.out).cell 4
                have q5 : w1.cell? ⟨bp, 5, none⟩ = some (.int .i64 pe) := (RP6.out).cell 5
                have q6 : w1.cell? ⟨bp, 6, none⟩ = some (.int .i64 (pf + 1)) := (RP6.out).cell 6
                have HA7 := Lib.hid (HA6.out.keeps ((Keeps.refl (fun _ => False) w1).drew) fun _ _ h => h)
                have KS7 := Lib.hid (set_c HA7.out code ⟨code, up, pc, name, shut, pe + 1, 0⟩ HC1.out (by omega) (by omega))
                unfold Acc.val at KS7
                simp only at KS7
                go_upto_region 18 with (fail)
                go_still_tail 10, (by kernel_rfl)
                change wpList _ _ _ _ _ w1.drew
                go_wp2_with fail
                refine KS7.out.mono ?_
                rintro e w2 ⟨rfl, tv2, K2, hA2, hl2, hk2, hB2⟩
                go_wp2_with fail
                go_ret
                have hs5 : w.heap.size ≤ w1.heap.size := Nat.le_trans HB5.out.size HK6.out.size
                have hT : ∀ j, Bs c bm tv1 j → Bs c bm tv j ∨ w.heap.size ≤ j := fun j hj => (HB6.out j hj).elim .inl fun h => .inr (Nat.le_trans HB5.out.size h)
                exact ⟨rfl, tv2, K2, n + 1 + 1, by omega, .inl rfl, hA2, ((Keeps.of _ HB5.out).drew.trans HK6.out).drew.then hk2 hT, fun j hj => (hB2 j hj).elim (hT j) fun h => .inr (Nat.le_trans hs5 h)⟩
            · rw [if_pos (.inr (.inl hcl))] at hR
              subst hR
              have bcl : (pc != cls) = true := by simpa using hcl
              clear hcl
              go_wp2_with fail
              go_ret
              exact add_same H.out HB3.out
end
end Go.Proofs.Ytialclecoamobaa.Ch
