/- Package wal: write for lists that are looked at; Commit, Save. -/
import Derived.Test.YtjlncjabiofklaaDoorWjD
import Derived.Test.YtjlncjabiofklaaDoorWjB
import Derived.StillTailTactics
import Derived.IntWalk
namespace Go.Proofs.YtjlncjabiofklaaDoor.Wl
open Go Go.RowKit Dv Rf Shf Rk
open Tal (Strs bas)
/-- The bounds under which a log is looked at. -/
structure Wf (x : Dr) (M : Wm) : Prop where
  now : M.now ≤ 1
  f0 : Fit x M.R0
  f1 : Fit x M.R1
  l : M.L.S.T.length ≤ 10000
  m : M.many ≤ 10000
theorem Wf.half {x : Dr} {M : Wm} (h : Wf x M) (k : Nat) : Fit x (M.half k) := by unfold Wm.half; split; exact h.f0; exact h.f1
/-- What a write does. -/
def codeW (M : Wm) (x : Dr) (l : List Rk.Sec) (k many p : Nat) : Wm × Dr × Int :=
  if M.down = true then (M, x, 30) else codePut M x l k many p
theorem putM_zero {R R1 : Rm} {x x1 : Dr} {p n : Nat} {t : List UInt8} (h : putM R x p n t = (R1, x1, 0)) (hf : Fit x R) (hp : p = R.S.e ∨ p = 0) (hn : n < 18446744073709551616) :
    x1.Ok ∧ x1.P.length ≤ 100000 ∧ 0 < R1.n ∧ R1.n ≤ 100000 ∧ R1.S.e ≤ R1.n := by
  unfold putM at h
  split at h
  · simp at h
  split at h
  · simp at h
  split at h
  · simp at h
  split at h
  · simp at h
  rename_i hfl
  split at h
  · cases h
    have h1 := hf.n9
    have h2 := hf.hP
    have h3 := hf.f
    have hsl := Sf.sheaf_len n t
    refine ⟨drv_ok hf.hx (sheaf_64 hn) (by rw [hsl]; omega), ?_, hf.n0, by show R.n ≤ _; omega, ?_⟩
    · unfold drv; simp only [List.length_append, ws_len]; omega
    · show (if p = 0 then Ld.zero else R.S).e + Sf.many t.length ≤ R.n
      by_cases hp0 : p = 0
      · rw [if_pos hp0]; show 0 + _ ≤ _; omega
      · rw [if_neg hp0]
        rcases hp with hp | hp
        · omega
        · exact absurd hp hp0
  · simp at h
theorem sync_z {x x2 : Dr} {z : Int} (h : x.sync = (x2, z)) : z = 0 ∨ z = 30 := by
  unfold Dr.sync at h
  split at h
  · cases h; exact .inr rfl
  · cases h; exact .inl rfl
section
variable {U : Nat → Prop} {b r0 r1 g : Nat} {x : Dr} {M : Wm} {w : World} {l : List Rk.Sec} {a : Option Addr}
theorem small_all (h : Small l) : l.all (fun p => decide (p.length ≤ 60000)) = true := by
  rw [List.all_eq_true]
  intro p hp
  have := h.2 p hp
  exact decide_eq_true (by omega)
theorem wf_add (h : Trio U w b r0 r1 g x M) (hw : Wf x M) (hl : Small l) (c : Nat) (hs : Strs w a (bas l)) (k many : Nat) (hk : k ≤ 1) :
    Calls Tryd.prog 27 #[.pointer (some ⟨b, 0, none⟩), .slice a l.length c, .int .i64 (k : Int), .int .i64 (many : Int), .func (.func 28) #[] #[]] w (WrRes U b r0 r1 g (codeW M x l k many (M.half k).S.e) w) := by
  have hl1 := hl.1
  have hsz : ∀ p ∈ l, p.length ≤ 1000000 := fun p hp => by have := hl.2 p hp; omega
  have hrow := hl.row
  unfold codeW codePut
  by_cases hd : M.down = true
  · rw [if_pos hd]
    exact write_down U b r0 r1 g x M w h hw.now a l.length c k many _ hd
  · rw [if_neg hd]
    have hd' : M.down = false := by simpa using hd
    by_cases hT : 9223372036854775807 ≤ M.top
    · rw [if_pos hT]
      exact write_full U b r0 r1 g x M w h hw.now a c l hs (by omega) hsz k many _ hd' (small_all hl) (by omega) (by omega) hw.f0.n0 hw.f1.n0 hT
    · rw [if_neg hT]
      obtain ⟨R1, x1, z1, hq⟩ : ∃ R1 x1 z1, putM (M.half k) x (M.half k).S.e (M.top + 1) (Tal.row (bas l)) = (R1, x1, z1) := ⟨_, _, _, rfl⟩
      obtain ⟨x2, z2, hsy⟩ : ∃ x2 z2, x1.sync = (x2, z2) := ⟨_, _, rfl⟩
      refine write_add U b r0 r1 g x M w h hw.now a c l hs (by omega) hsz k many _ rfl _ hd' (small_all hl) (by omega) (by omega) hw.f0.n0 hw.f1.n0 (by omega) hk _ rfl (fun V u hB => ?_) R1 x1 x2 z1 z2 hq hsy (sync_z hsy) (fun hz => by subst hz; exact putM_zero hq (hw.half k) (.inl rfl) (by omega))
      exact add_c V _ g x (M.half k) u hB (hw.half k) (M.top + 1) ⟨(Tal.row (bas l)).toArray⟩ (by omega) (by show (Tal.row (bas l)).length ≤ _; omega)
theorem wf_begin (h : Trio U w b r0 r1 g x M) (hw : Wf x M) (hl : Small l) (c : Nat) (hs : Strs w a (bas l)) (k many : Nat) (hk : k ≤ 1) :
    Calls Tryd.prog 27 #[.pointer (some ⟨b, 0, none⟩), .slice a l.length c, .int .i64 (k : Int), .int .i64 (many : Int), .func (.func 29) #[] #[]] w (WrRes U b r0 r1 g (codeW M x l k many 0) w) := by
  have hl1 := hl.1
  have hsz : ∀ p ∈ l, p.length ≤ 1000000 := fun p hp => by have := hl.2 p hp; omega
  have hrow := hl.row
  unfold codeW codePut
  by_cases hd : M.down = true
  · rw [if_pos hd]
    exact write_down U b r0 r1 g x M w h hw.now a l.length c k many _ hd
  · rw [if_neg hd]
    have hd' : M.down = false := by simpa using hd
    by_cases hT : 9223372036854775807 ≤ M.top
    · rw [if_pos hT]
      exact write_full U b r0 r1 g x M w h hw.now a c l hs (by omega) hsz k many _ hd' (small_all hl) (by omega) (by omega) hw.f0.n0 hw.f1.n0 hT
    · rw [if_neg hT]
      obtain ⟨R1, x1, z1, hq⟩ : ∃ R1 x1 z1, putM (M.half k) x 0 (M.top + 1) (Tal.row (bas l)) = (R1, x1, z1) := ⟨_, _, _, rfl⟩
      obtain ⟨x2, z2, hsy⟩ : ∃ x2 z2, x1.sync = (x2, z2) := ⟨_, _, rfl⟩
      refine write_begin U b r0 r1 g x M w h hw.now a c l hs (by omega) hsz k many _ rfl _ hd' (small_all hl) (by omega) (by omega) hw.f0.n0 hw.f1.n0 (by omega) hk _ rfl (fun V u hB => ?_) R1 x1 x2 z1 z2 hq hsy (sync_z hsy) (fun hz => by subst hz; exact putM_zero hq (hw.half k) (.inr rfl) (by omega))
      exact begin_c V _ g x (M.half k) u hB (hw.half k) (M.top + 1) ⟨(Tal.row (bas l)).toArray⟩ (by omega) (by show (Tal.row (bas l)).length ≤ _; omega)
/-- What a save does, what a commit does. -/
def saveW (M : Wm) (x : Dr) (l : List Rk.Sec) : Wm × Dr × Int := codeW M x l (if M.age = 0 then 0 else 1 - M.now) 1 0
def commitW (M : Wm) (x : Dr) (l : List Rk.Sec) : Wm × Dr × Int := if M.age = 0 then codeW M x l 0 1 0 else codeW M x l M.now (M.many + 1) (M.half M.now).S.e
theorem WrRes.lift {q : Wm × Dr × Int} {u w' : World} {e : Ending} (h : Trio U w b r0 r1 g x M) (k : Below w.heap.size w u) (hr : WrRes (fun j => U j ∨ w.heap.size ≤ j) b r0 r1 g q u e w') : WrRes U b r0 r1 g q w e w' :=
  ⟨hr.1, (Then.refl h k).trans hr.2⟩
set_option maxRecDepth 100000 in
set_option maxHeartbeats 1600000 in
theorem save_c (h : Trio U w b r0 r1 g x M) (hw : Wf x M) (hl : Small l) (c : Nat) (hs : Strs w a (bas l)) :
    Calls Tryd.prog 11 #[.pointer (some ⟨b, 0, none⟩), .slice a l.length c] w (WrRes U b r0 r1 g (saveW M x l) w) := by
  have H := Lib.hid h
  have KW : Hid (∀ u, Below w.heap.size w u → ∀ k : Nat, k ≤ 1 → Calls Tryd.prog 27 #[.pointer (some ⟨b, 0, none⟩), .slice a l.length c, .int .i64 (k : Int), .int .i64 1, .func (.func 29) #[] #[]] u (WrRes U b r0 r1 g (codeW M x l k 1 0) w)) := fun u hu k hk =>
    (wf_begin ((Then.refl H.out hu).1) hw hl c (hs.later hu) k 1 hk).mono fun e w' hr => hr.lift H.out hu
  have KA : Hid (Calls Tryd.prog 24 #[.pointer (some ⟨b, 0, none⟩)] w fun e w' => e = .returned (.int .u64 (M.age : Int)) ∧ ∃ n, w' = w.drewN n) := by
    obtain ⟨t0, t1, hv⟩ := h
    exact age_c b r0 r1 M w hv.blk hw.now
  have HC : Hid (∀ n, (w.drewN n).cell? ⟨b, 2, none⟩ = some (.int .i64 (M.now : Int))) := fun n => by
    obtain ⟨t0, t1, hv⟩ := H.out.later (drewN_below (Below.refl _ w) n)
    exact hv.blk.cell 2
  have HB : Hid (∀ n, Below w.heap.size w (w.drewN n)) := fun n => drewN_below (Below.refl _ w) n
  have HQ : Hid (∀ k : Nat, k = (if M.age = 0 then 0 else 1 - M.now) → codeW M x l k 1 0 = saveW M x l) := fun k e => by rw [e]; rfl
  obtain ⟨q, hq⟩ : ∃ q, q = saveW M x l := ⟨_, rfl⟩
  rw [← hq] at HQ ⊢
  have hnow := hw.now
  have HK : Hid (∀ k : Nat, k = (if M.age = 0 then 0 else 1 - M.now) → ∀ n, Calls Tryd.prog 27 #[.pointer (some ⟨b, 0, none⟩), .slice a l.length c, .int .i64 (k : Int), .int .i64 1, .func (.func 29) #[] #[]] (w.drewN n) (WrRes U b r0 r1 g q w)) := fun k e n => by
    have := KW.out (w.drewN n) (HB.out n) k (by rw [e]; split <;> omega)
    rwa [HQ.out k e] at this
  obtain ⟨ag, hag⟩ : ∃ ag, ag = M.age := ⟨_, rfl⟩
  obtain ⟨nw, hnw⟩ : ∃ nw, nw = M.now := ⟨_, rfl⟩
  rw [← hag] at KA HK
  rw [← hnw] at HC HK hnow
  clear h hw hl hs KW HQ hq hag hnw
  by_cases h0 : ag = 0
  · have K0 := Lib.hid (HK.out 0 (by rw [if_pos h0]))
    have d0 : decide (0 < ag) = false := decide_eq_false (by omega)
    clear h0 HK
    go_enter Tryd.func11, Tryd.ntmps11
    go_wp2_with fail
    refine KA.out.mono ?_
    rintro e w1 ⟨rfl, n, rfl⟩
    have K1 := Lib.hid (K0.out n)
    go_wp2_with fail
    refine K1.out.mono ?_
    rintro e w2 ⟨rfl, hb⟩
    have HB2 := Lib.hid hb
    clear hb
    go_wp2_with fail
    go_ret
    exact ⟨rfl, HB2.out⟩
  · have K0 := Lib.hid (HK.out (1 - nw) (by rw [if_neg h0]))
    have d0 : decide (0 < ag) = true := decide_eq_true (by omega)
    have HE : Hid ((1 : Int) - (nw : Int) = ((1 - nw : Nat) : Int)) := by show _ = _; omega
    have e0 : (0 : Int) ≤ (nw : Int) := by omega
    have e1 : (nw : Int) ≤ 1 := by omega
    clear h0 HK
    go_enter Tryd.func11, Tryd.ntmps11
    go_wp2_with fail
    refine KA.out.mono ?_
    rintro e w1 ⟨rfl, n, rfl⟩
    have K1 := Lib.hid (K0.out n)
    have c2 := HC.out n
    rw [← HE.out] at K1
    go_wp2_with fail
    refine K1.out.mono ?_
    rintro e w2 ⟨rfl, hb⟩
    have HB2 := Lib.hid hb
    clear hb
    go_wp2_with fail
    go_ret
    exact ⟨rfl, HB2.out⟩
theorem codeW_hf (M : Wm) : codeW M x l M.now (M.many + 1) (M.half M.now).S.e = commitW M x l ∨ M.age = 0 := by
  unfold commitW
  by_cases h : M.age = 0
  · exact .inr h
  · rw [if_neg h]; exact .inl rfl
set_option maxRecDepth 100000 in
set_option maxHeartbeats 3200000 in
theorem commit_c (h : Trio U w b r0 r1 g x M) (hw : Wf x M) (hl : Small l) (c : Nat) (hs : Strs w a (bas l)) :
    Calls Tryd.prog 10 #[.pointer (some ⟨b, 0, none⟩), .slice a l.length c] w (WrRes U b r0 r1 g (commitW M x l) w) := by
  have H := Lib.hid h
  have HB : Hid (∀ n, Below w.heap.size w (w.drewN n)) := fun n => drewN_below (Below.refl _ w) n
  have KA : Hid (Calls Tryd.prog 24 #[.pointer (some ⟨b, 0, none⟩)] w fun e w' => e = .returned (.int .u64 (M.age : Int)) ∧ ∃ n, w' = w.drewN n) := by
    obtain ⟨t0, t1, hv⟩ := h
    exact age_c b r0 r1 M w hv.blk hw.now
  by_cases h0 : M.age = 0
  · have KS : Hid (∀ n, Calls Tryd.prog 11 #[.pointer (some ⟨b, 0, none⟩), .slice a l.length c] (w.drewN n) (WrRes U b r0 r1 g (commitW M x l) w)) := fun n => by
      have e : commitW M x l = saveW M x l := by unfold commitW saveW; rw [if_pos h0, if_pos h0]
      rw [e]
      exact (save_c ((Then.refl H.out (HB.out n)).1) hw hl c (hs.later (HB.out n))).mono fun e w' hr => hr.lift H.out (HB.out n)
    rw [h0] at KA
    obtain ⟨q, hq⟩ : ∃ q, q = commitW M x l := ⟨_, rfl⟩
    rw [← hq] at KS ⊢
    clear h hw hl hs h0 hq
    go_enter Tryd.func10, Tryd.ntmps10
    go_wp2_with fail
    refine KA.out.mono ?_
    rintro e w1 ⟨rfl, n, rfl⟩
    have K1 := Lib.hid (KS.out n)
    go_wp2_with fail
    refine K1.out.mono ?_
    rintro e w2 ⟨rfl, hb⟩
    have HB2 := Lib.hid hb
    clear hb
    go_wp2_with fail
    go_ret
    exact ⟨rfl, HB2.out⟩
  · have KW : Hid (∀ n, Calls Tryd.prog 27 #[.pointer (some ⟨b, 0, none⟩), .slice a l.length c, .int .i64 (M.now : Int), .int .i64 ((M.many : Int) + 1), .func (.func 28) #[] #[]] (w.drewN n) (WrRes U b r0 r1 g (commitW M x l) w)) := fun n => by
      have := (wf_add ((Then.refl H.out (HB.out n)).1) hw hl c (hs.later (HB.out n)) M.now (M.many + 1) hw.now).mono fun e w' hr => hr.lift H.out (HB.out n)
      rw [(codeW_hf M).resolve_right h0, show ((M.many + 1 : Nat) : Int) = (M.many : Int) + 1 by omega] at this
      exact this
    have HC : Hid (∀ n, (w.drewN n).cell? ⟨b, 2, none⟩ = some (.int .i64 (M.now : Int)) ∧ (w.drewN n).cell? ⟨b, 3, none⟩ = some (.int .i64 (M.many : Int))) := fun n => by
      obtain ⟨t0, t1, hv⟩ := H.out.later (drewN_below (Below.refl _ w) n)
      exact ⟨hv.blk.cell 2, hv.blk.cell 3⟩
    have z0 : ((M.age : Int) == 0) = false := by simp; omega
    have hm := hw.m
    obtain ⟨ag, hag⟩ : ∃ ag, ag = M.age := ⟨_, rfl⟩
    obtain ⟨nw, hnw⟩ : ∃ nw, nw = M.now := ⟨_, rfl⟩
    obtain ⟨mn, hmn⟩ : ∃ mn, mn = M.many := ⟨_, rfl⟩
    obtain ⟨q, hq⟩ : ∃ q, q = commitW M x l := ⟨_, rfl⟩
    rw [← hq] at KW ⊢
    rw [← hag] at KA z0
    rw [← hnw] at HC KW
    rw [← hmn] at HC KW hm
    clear h hw hl hs h0 hq hag hnw hmn
    go_enter Tryd.func10, Tryd.ntmps10
    go_wp2_with fail
    refine KA.out.mono ?_
    rintro e w1 ⟨rfl, n, rfl⟩
    have K1 : Hid (Calls Tryd.prog 27 #[.pointer (some ⟨b, 0, none⟩), .slice a l.length c, .int .i64 (nw : Int), .int .i64 ((mn : Int) + 1), .func (.func 28) #[] #[]] (w.drewN n).drew (WrRes U b r0 r1 g q w)) := KW.out (n + 1)
    obtain ⟨c2, c3⟩ := HC.out n
    generalize w.drewN n = w1 at *
    go_wp2_with fail
    have hw1 : IntKind.i64.wrap ((mn : Int) + 1) = (mn : Int) + 1 := IntWalk.i64_in _ ⟨by omega, by omega⟩
    go_still_tail 11, (by kernel_rfl)
    change wpList _ _ _ _ _ w1.drew
    clear hw1 c2 c3
    go_wp2_with fail
    refine K1.out.mono ?_
    rintro e w2 ⟨rfl, hb⟩
    have HB2 := Lib.hid hb
    clear hb
    go_wp2_with fail
    go_ret
    exact ⟨rfl, HB2.out⟩
end
end Go.Proofs.YtjlncjabiofklaaDoor.Wl
