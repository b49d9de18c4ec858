/- Joined: WlOps0 WlOpens. -/
import Derived.Test.YtbbnpcldplmgfaaGreatDoorWjG
import Derived.Test.YtbbnpcldplmgfaaGreatDoorWjH
import Derived.Test.YtbbnpcldplmgfaaGreatDoorRgE
import Derived.Deep.RegionHeld3
import Derived.Deep.DeepCutAuto
import Derived.IntWalk
section
namespace Go.Proofs.YtbbnpcldplmgfaaGreatDoor.Wl
open Go Go.RowKit Dv Rf Shf Rk
open Tal (Strs bas)
theorem bas_lists' (L : List ByteArray) : bas (Shf.lists L) = L := by
  unfold bas Shf.lists
  rw [List.map_map]
  have : ∀ x ∈ L, ((fun x : List UInt8 => (⟨x.toArray⟩ : ByteArray)) ∘ fun s : ByteArray => s.data.toList) x = id x := fun x _ => by
    show (⟨x.data.toList.toArray⟩ : ByteArray) = x
    simp
  rw [List.map_congr_left this, List.map_id]
/-- A drive of 16 sectors, some of them written. -/
structure Wd (S : Nat → Prop) (w : World) (g : Nat) (x : Dr) (k : Nat) : Prop where
  os : Dv.Os S w g x
  ok : x.Ok
  F : x.F = none
  D : x.D.length = 16
  P : x.P.length ≤ k
theorem Wd.write {S : Nat → Prop} {w : World} {g : Nat} {x : Dr} {k : Nat} (h : Wd S w g x k) (i : Nat) (hi : i < 16) (t : ByteArray) (ht : t.size ≤ 64) (hk : k ≤ 16) : Calls Tryz.prog 25 #[.pointer (some ⟨g, 0, Option.none⟩), .int .i64 (i : Int), .string t] w fun e w' => e = .returned (.int .i64 0) ∧ (∃ x', Wd (fun j => S j ∨ w.heap.size ≤ j) w' g x' (k + 1)) ∧ Keeps S w w' := by
  have hb : burn x.F = some none := by rw [h.F]; rfl
  have htl : t.data.toList.length = t.size := by simp
  have e : x.write (i : Int) t.data.toList = (⟨x.D, x.P ++ [((i : Int).toNat, pad t.data.toList)], none⟩, 0) := by
    unfold Dr.write
    rw [if_neg (by have := h.D; omega), if_neg (by omega), hb]
  have hok := h.ok.write (i : Int) t.data.toList
  rw [e] at hok
  refine (os_write h.os h.ok (by have := h.P; omega) (i : Int) t (by omega) 0 e).mono fun e w' hr => ⟨hr.1, ⟨_, ⟨hr.2.1, hok, rfl, h.D, ?_⟩⟩, hr.2.2⟩
  simp
  exact h.P
/-- Two lists in a slice of acts. -/
theorem ls_two (w : World) (a b : List Rk.Sec) (sa sb : Option Addr) (ca cb : Nat) (ha : Strs w sa (bas a)) (hb : Strs w sb (bas b)) (t : TypeId) : Ls6 (w.alloc (.cells #[.int .u8 0, .slice sa a.length ca, .int .u8 0, .int .u64 0, .int .i64 0, .int .i64 0, .int .u8 0, .slice sb b.length cb, .int .u8 0, .int .u64 0, .int .i64 0, .int .i64 0] t)) (some ⟨w.heap.size, 0, none⟩) [a, b] := by
  have k : Below w.heap.size w (w.alloc (.cells #[.int .u8 0, .slice sa a.length ca, .int .u8 0, .int .u64 0, .int .i64 0, .int .i64 0, .int .u8 0, .slice sb b.length cb, .int .u8 0, .int .u64 0, .int .i64 0, .int .i64 0] t)) := (Below.refl _ w).alloc (Nat.le_refl _) _
  intro j hj
  rcases j with _|_|j
  · exact ⟨w.heap.size, 0, sa, ca, rfl, by simp, by simp [go_sem], ha.later k⟩
  · exact ⟨w.heap.size, 0, sb, cb, rfl, by simp, by simp [go_sem], hb.later k⟩
  · simp at hj; omega
/-- A store into a row of one's own. -/
theorem ow_set {base : Nat} {w : World} {L : List Rk.Sec} {g n c : Nat} (h : Ow base w (.slice (some ⟨g, 0, none⟩) n c) L) (i : Nat) (hi : i < L.length) (y : Rk.Sec) : Ow base (w.setCell ⟨g, i, none⟩ (sv y)) (.slice (some ⟨g, 0, none⟩) n c) (L.set i y) ∧ w.cell? ⟨g, i, none⟩ = some (sv L[i]) ∧ w.frozen? ⟨g, i, none⟩ = false := by
  have hcell := (Rf.own_cell (show w.ownsRow base TStr 1 (.slice (some ⟨g, 0, none⟩) n c) n (L.map sv) from by
    rcases h.2 with ⟨e, _⟩ | ⟨g', cap, cur, e, _⟩
    · cases e
    · have e' : n = L.length := by cases e; rfl
      rw [e']; rw [e'] at h; exact h)).2 i (sv L[i]) (by simp [hi])
  rcases h.2 with ⟨e, _⟩ | ⟨g', cap, cur, e, hb, hh, hn, hm, hs, ht⟩
  · cases e
  · cases e
    have hrw : Rw w g TStr cur.toList := by unfold Rw; simpa using hh
    refine ⟨⟨by simp, .inr ⟨g, c, (cur.toList.set i (sv y)).toArray, by simp, hb, hrw.setCell i (sv y), by simpa using hn, hm, by simpa using hs, ?_⟩⟩, hcell, hrw.frozen i⟩
    have ht' : cur.toList.take L.length = L.map sv := by simpa using ht
    simp only [List.length_set, Nat.mul_one]
    rw [List.map_set, ← ht', List.take_set]
set_option maxRecDepth 100000 in
set_option maxHeartbeats 1600000 in
theorem rnew06_s (n : Nat) (hn : n ≤ 1000) (w : World) : Calls Tryz.prog 9 #[.int .i64 (n : Int)] w fun e w' => ∃ vA vB, e = .returned (.agg #[vA, vB]) ∧ Lg w.heap.size w' vA vB (List.replicate (n / 2) Rk.zs) (List.replicate (n / 2) Rk.zs) ∧ (∀ j, vA.ownBlock = some j → vB.ownBlock ≠ some j) ∧ Below w.heap.size w w' := by
  have KN : Hid (∀ u : World, Calls Tryz.prog 35 #[.int .i64 ((n / 2 : Nat) : Int)] u fun e w' => ∃ v, e = .returned v ∧ Ow u.heap.size w' v (List.replicate (n / 2) Rk.zs) ∧ Below u.heap.size u w') := fun u => rnew_c (n / 2) (by omega) u
  obtain ⟨Z, hZ⟩ : ∃ Z, Z = List.replicate (n / 2) Rk.zs := ⟨_, rfl⟩
  rw [← hZ] at KN ⊢
  clear hZ
  have HB0 : Hid (Below w.heap.size w (w.alloc (.cells #[.slice none 0 0, .slice none 0 0] TLg))) := (Below.refl _ w).alloc (Nat.le_refl _) _
  have HO0 : Hid (Rw (w.alloc (.cells #[.slice none 0 0, .slice none 0 0] TLg)) w.heap.size TLg [.slice none 0 0, .slice none 0 0]) := Rw.new w [.slice none 0 0, .slice none 0 0] TLg
  go_enter Tryz.func9, Tryz.ntmps9
  go_wp2_with fail
  generalize w.alloc (.cells #[.slice none 0 0, .slice none 0 0] TLg) = w0 at *
  rw [show (n : Int) / 2 = ((n / 2 : Nat) : Int) by omega]
  refine (KN.out _).mono ?_
  rintro e w1 ⟨v1, rfl, ho1, hb⟩
  have HB1 : Hid (Below w.heap.size w w1) := HB0.out.trans (hb.mono HB0.out.size)
  have HO1 := Lib.hid (HO0.out.later hb)
  have HL1 : Hid (Ow w.heap.size w1 v1 Z) := ho1.lower HB0.out.size
  have hlt1 := ho1.lt
  obtain ⟨a1, c1, rfl⟩ := own_slice ho1
  have HLT1 := Lib.hid hlt1
  clear hlt1
  clear ho1 hb HO0
  go_wp2_with fail
  rw [show (n : Int) / 2 = ((n / 2 : Nat) : Int) by omega]
  refine (KN.out _).mono ?_
  rintro e w2 ⟨v2, rfl, ho2, hb⟩
  have X2 : Hid (Below w.heap.size w w2) := HB1.out.trans (hb.mono HB1.out.size)
  have HO2 := Lib.hid (HO1.out.later hb)
  have HL2 : Hid (Ow w.heap.size w2 v2 Z) := ho2.lower HB1.out.size
  have HL1' : Hid (Ow w.heap.size w2 (.slice a1 Z.length c1) Z) := HL1.out.later hb
  have hlt2 := ho2.lt
  obtain ⟨a2, c2, rfl⟩ := own_slice ho2
  have HNE : Hid (∀ j, (Value.slice a1 Z.length c1).ownBlock = some j → (Value.slice a2 Z.length c2).ownBlock ≠ some j) := fun j h1 h2 => by have := (HLT1.out j h1).2; have := (hlt2 j h2).1; omega
  clear hlt2
  have o0 : w2.cell? ⟨w.heap.size, 0, none⟩ = some (.slice none 0 0) := HO2.out.cell 0
  have o1 : w2.cell? ⟨w.heap.size, 1, none⟩ = some (.slice none 0 0) := HO2.out.cell 1
  have f0 := HO2.out.frozen 0
  have f1 := HO2.out.frozen 1
  clear ho2 hb HO1 HL1
  go_wp2_with fail
  have HRW : Hid (Rw ((w2.setCell ⟨w.heap.size, 0, none⟩ (.slice a1 Z.length c1)).setCell ⟨w.heap.size, 1, none⟩ (.slice a2 Z.length c2)) w.heap.size TLg [.slice a1 Z.length c1, .slice a2 Z.length c2]) := (HO2.out.setCell 0 _).setCell 1 _
  have HBW : Hid (Below w.heap.size w ((w2.setCell ⟨w.heap.size, 0, none⟩ (.slice a1 Z.length c1)).setCell ⟨w.heap.size, 1, none⟩ (.slice a2 Z.length c2))) := (X2.out.setCell (Nat.le_refl _) _).setCell (Nat.le_refl _) _
  have own : ∀ (v x y : Value), Ow w.heap.size w2 v Z → Ow w.heap.size ((w2.setCell ⟨w.heap.size, 0, none⟩ x).setCell ⟨w.heap.size, 1, none⟩ y) v Z := fun v x y ho =>
    ho.keeps (T := fun j => j = w.heap.size) (((Keeps.refl (fun j => j = w.heap.size) w2).setCell _ 0 _ (.inl rfl)).setCell _ 1 _ (.inl rfl)) fun j hj e => own_type ho HO2.out (by decide) (e ▸ hj)
  have HLG : Hid (Lg w.heap.size ((w2.setCell ⟨w.heap.size, 0, none⟩ (.slice a1 Z.length c1)).setCell ⟨w.heap.size, 1, none⟩ (.slice a2 Z.length c2)) (.slice a1 Z.length c1) (.slice a2 Z.length c2) Z Z) := ⟨own _ _ _ HL1'.out, own _ _ _ HL2.out⟩
  generalize (w2.setCell ⟨w.heap.size, 0, none⟩ (.slice a1 Z.length c1)).setCell ⟨w.heap.size, 1, none⟩ (.slice a2 Z.length c2) = W at HRW HBW HLG ⊢
  have r0 : W.cell? ⟨w.heap.size, 0, none⟩ = some (.slice a1 Z.length c1) := HRW.out.cell 0
  have r1 : W.cell? ⟨w.heap.size, 1, none⟩ = some (.slice a2 Z.length c2) := HRW.out.cell 1
  refine bodyPost_ret (v := .agg #[.slice a1 Z.length c1, .slice a2 Z.length c2]) (by simp [results, Tryz.results9, go_sem, r0, r1]) rfl ?_
  exact ⟨_, _, rfl, HLG.out, HNE.out, HBW.out⟩
theorem loaded_ex (L : List Rk.Sec) : ∃ s, Loaded L s := by
  have main : ∀ (k : Nat) (s : Ld), Reads L s → L.length - s.e ≤ k → ∃ z, Loaded L z := by
    intro k
    induction k with
    | zero =>
      intro s hs hk
      cases hst : Rk.step L s with
      | none => exact ⟨s, hs, hst⟩
      | some b =>
        have hb := (Reads.more hs hst).fine.le
        obtain ⟨n, t, k', hi, _, rfl⟩ := step_some hst
        have := is_pos hi
        have : (s.took n t k').e = s.e + k' := rfl
        omega
    | succ k ih =>
      intro s hs hk
      cases hst : Rk.step L s with
      | none => exact ⟨s, hs, hst⟩
      | some b =>
        have hb := Reads.more hs hst
        refine ih b hb ?_
        obtain ⟨n, t, k', hi, _, rfl⟩ := step_some hst
        have := is_pos hi
        have : (s.took n t k').e = s.e + k' := rfl
        omega
  exact main _ Ld.zero .nil (Nat.le_refl _)
/-- Sectors that are read in so far. -/
structure So (V : List Rk.Sec) (f i : Nat) (L : List Rk.Sec) : Prop where
  len : L.length = 8
  eq : ∀ j, j < i → L[j]? = V[f + j]?
theorem So.next {V : List Rk.Sec} {f i : Nat} {L : List Rk.Sec} (h : So V f i L) (hi : i < 8) (hV : f + i < V.length) : So V f (i + 1) (L.set i (V.getD (f + i) [])) := by
  refine ⟨by simp [h.len], fun j hj => ?_⟩
  by_cases e : j = i
  · subst e
    rw [List.getElem?_set_self (by rw [h.len]; exact hi), List.getD_eq_getElem?_getD, List.getElem?_eq_getElem hV]
    rfl
  · rw [List.getElem?_set_ne (Ne.symm e)]
    exact h.eq j (by omega)
theorem So.all {V : List Rk.Sec} {f : Nat} {L : List Rk.Sec} (h : So V f 8 L) : L = seg V f 8 := by
  refine List.ext_getElem? fun j => ?_
  by_cases hj : j < 8
  · rw [h.eq j hj, seg_get hj]
  · rw [List.getElem?_eq_none (by rw [h.len]; omega), seg_none (by omega)]
end Go.Proofs.YtbbnpcldplmgfaaGreatDoor.Wl
end
section
namespace Go.Proofs.YtbbnpcldplmgfaaGreatDoor.Wl
open Go Go.RowKit Dv Rf Shf Rk
open Tal (Strs bas)
/-- Where a read into a row stands, in any order. -/
structure Rq (W : World) (gX i : Nat) (y : Rk.Sec) (lr ls : Bool) (u : World) : Prop where
  c0 : ls = false → Below W.heap.size W u
  c1 : ls = true → ∃ w2, Below W.heap.size W w2 ∧ u = w2.setCell ⟨gX, i, none⟩ (sv y)
  m : ls = true → lr = true
section
variable {W u u' : World} {gX i : Nat} {y : Rk.Sec} {lr ls : Bool}
theorem Rq.start : Rq W gX i y false false W := ⟨fun _ => Below.refl _ _, fun h => (by cases h), fun h => (by cases h)⟩
theorem Rq.rd (h : Rq W gX i y lr ls u) (e : lr = false) : ls = false := by cases hl : ls; rfl; have := h.m hl; rw [e] at this; cases this
theorem Rq.at (h : Rq W gX i y lr ls u) (e : ls = false) : Below W.heap.size W u := h.c0 e
theorem Rq.did (h : Rq W gX i y lr ls u) (e : lr = false) (k : Below u.heap.size u u') : Rq W gX i y true ls u' := by
  have e2 := h.rd e
  subst e2
  exact ⟨fun _ => (h.c0 rfl).trans (k.mono (h.c0 rfl).size), fun h => (by cases h), fun _ => rfl⟩
theorem Rq.store (h : Rq W gX i y lr ls u) (e : ls = false) (e2 : lr = true) : Rq W gX i y lr true (u.setCell ⟨gX, i, none⟩ (sv y)) := ⟨fun h => (by cases h), fun _ => ⟨u, h.c0 e, rfl⟩, fun _ => e2⟩
theorem Rq.end' (h : Rq W gX i y lr ls u) (e : ls = true) : ∃ w2, Below W.heap.size W w2 ∧ u = w2.setCell ⟨gX, i, none⟩ (sv y) := h.c1 e
/-- What is kept: all but the row. -/
theorem Rq.other (h : Rq W gX i y lr ls u) : Keeps (fun j => j = gX) W u := by
  cases hl : ls
  · exact Keeps.of _ (h.c0 hl)
  · obtain ⟨w2, k, rfl⟩ := h.c1 hl
    exact (Keeps.of _ k).setCell gX i _ (.inl rfl)
end
/-- The drive, and the rows that are read in. -/
structure Lo (w : World) (g qb gA cA gB cB : Nat) (wr : World) (x : Dr) (QA QB : List Rk.Sec) : Prop where
  os : ∃ U, Dv.Os U wr g x ∧ (∀ j, U j → w.heap.size ≤ j) ∧ ¬ U gA ∧ ¬ U gB ∧ ¬ U qb
  a : Ow w.heap.size wr (.slice (some ⟨gA, 0, none⟩) 8 cA) QA
  c : Ow w.heap.size wr (.slice (some ⟨gB, 0, none⟩) 8 cB) QB
  q : Rw wr qb TLg [.slice (some ⟨gA, 0, none⟩) 8 cA, .slice (some ⟨gB, 0, none⟩) 8 cB]
  n1 : gA ≠ gB
  n2 : gA ≠ qb
  n3 : gB ≠ qb
  s1 : w.heap.size ≤ gA
  s2 : w.heap.size ≤ gB
  s3 : w.heap.size ≤ qb
  b : Below w.heap.size w wr
section
variable {w wr w2 : World} {g qb gA cA gB cB : Nat} {x : Dr} {QA QB : List Rk.Sec}
theorem Lo.later (h : Lo w g qb gA cA gB cB wr x QA QB) (k : Below wr.heap.size wr w2) : Lo w g qb gA cA gB cB w2 x QA QB := by
  obtain ⟨U, h1, h2⟩ := h.os
  exact ⟨⟨U, h1.later k, h2⟩, h.a.later k, h.c.later k, h.q.later k, h.n1, h.n2, h.n3, h.s1, h.s2, h.s3, h.b.trans (k.mono h.b.size)⟩
theorem Lo.setA (h : Lo w g qb gA cA gB cB wr x QA QB) (i : Nat) (hi : i < QA.length) (y : Rk.Sec) : Lo w g qb gA cA gB cB (wr.setCell ⟨gA, i, none⟩ (sv y)) x (QA.set i y) QB := by
  obtain ⟨U, h1, h2, h3, h4⟩ := h.os
  have k : Keeps (fun j => j = gA) wr (wr.setCell ⟨gA, i, none⟩ (sv y)) := (Keeps.refl _ _).setCell gA i _ (.inl rfl)
  exact ⟨⟨U, h1.keep k fun j hj e => h3 (e ▸ hj), h2, h3, h4⟩, (ow_set h.a i hi y).1, h.c.keeps k fun j hj e => h.n1 (e.symm.trans (Option.some.inj hj).symm), h.q.keeps k fun e => h.n2 e.symm, h.n1, h.n2, h.n3, h.s1, h.s2, h.s3, h.b.setCell h.s1 _⟩
theorem Lo.setB (h : Lo w g qb gA cA gB cB wr x QA QB) (i : Nat) (hi : i < QB.length) (y : Rk.Sec) : Lo w g qb gA cA gB cB (wr.setCell ⟨gB, i, none⟩ (sv y)) x QA (QB.set i y) := by
  obtain ⟨U, h1, h2, h3, h4, h5⟩ := h.os
  have k : Keeps (fun j => j = gB) wr (wr.setCell ⟨gB, i, none⟩ (sv y)) := (Keeps.refl _ _).setCell gB i _ (.inl rfl)
  exact ⟨⟨U, h1.keep k fun j hj e => h4 (e ▸ hj), h2, h3, h4, h5⟩, h.a.keeps k fun j hj e => h.n1 ((Option.some.inj hj).trans e), (ow_set h.c i hi y).1, h.q.keeps k fun e => h.n3 e.symm, h.n1, h.n2, h.n3, h.s1, h.s2, h.s3, h.b.setCell h.s2 _⟩
theorem Lo.open_yes (h : Lo w g qb gA cA gB cB wr x QA QB) (hx : x.Ok) (hD : x.D.length = 16) {SA SB : Ld} (hA : Loaded (seg x.V 0 8) SA) (hB : Loaded (seg x.V 8 8) SB) {LL : List (List Rk.Sec)} (hp : Ps (lgS SA SB).T LL) :
    Calls Tryz.prog 6 #[.pointer (some ⟨g, 0, none⟩)] wr fun e w' => ∃ b r0 r1, e = .returned (.tuple #[.pointer (some ⟨b, 0, none⟩), .int .i64 0]) ∧ Wq w g qb w' b r0 r1 (.slice (some ⟨gA, 0, none⟩) 8 cA) (.slice (some ⟨gB, 0, none⟩) 8 cB) x (openW x 8 SA SB) QA QB := by
  obtain ⟨U, h1, h2, h3, h4, h5⟩ := h.os
  refine (open_w h1.lt hx 8 SA SB (by rw [hD]) (by rw [hD]; decide) (by rw [hD]; decide) hA hB).mono fun e w' hr => ?_
  obtain ⟨k2, hr⟩ := hr
  have la := (h.a.lt gA rfl).2
  have lc := (h.c.lt gB rfl).2
  have lq := h.q.lt
  rcases hr with ⟨_, b', r0', r1', _, rfl, k1⟩ | ⟨hno, _⟩
  · refine ⟨b', r0', r1', rfl, ⟨_, k1, fun j hj => hj.elim (fun h => h2 j h.1) fun hj => Nat.le_trans h.b.size hj, fun j hj hu => ?_, fun hu => ?_⟩, ⟨h.a.keeps k2 fun j hj hu => h3 (by cases hj; exact hu.1), h.c.keeps k2 fun j hj hu => h4 (by cases hj; exact hu.1)⟩, h.q.keeps k2 fun hu => h5 hu.1, h.s3, h.b.trans (k2.below (fun j hj => h2 j hj.1) h.b.size)⟩
    · rcases hj with hj | hj
      · have ej : gA = j := Option.some.inj hj
        subst ej
        rcases hu with hu | hu
        · exact h3 hu.1
        · omega
      · have ej : gB = j := Option.some.inj hj
        subst ej
        rcases hu with hu | hu
        · exact h4 hu.1
        · omega
    · rcases hu with hu | hu
      · exact h5 hu.1
      · omega
  · exact absurd hp (hno LL)
theorem Lo.open_no (h : Lo w g qb gA cA gB cB wr x QA QB) (hx : x.Ok) (hD : x.D.length = 16) {SA SB : Ld} (hA : Loaded (seg x.V 0 8) SA) (hB : Loaded (seg x.V 8 8) SB) (hp : ¬ ∃ LL, Ps (lgS SA SB).T LL) :
    Calls Tryz.prog 6 #[.pointer (some ⟨g, 0, none⟩)] wr fun e w' => e = .returned (.tuple #[.pointer none, .int .i64 5]) ∧ Lg w.heap.size w' (.slice (some ⟨gA, 0, none⟩) 8 cA) (.slice (some ⟨gB, 0, none⟩) 8 cB) QA QB ∧ Rw w' qb TLg [.slice (some ⟨gA, 0, none⟩) 8 cA, .slice (some ⟨gB, 0, none⟩) 8 cB] ∧ Below w.heap.size w w' := by
  obtain ⟨U, h1, h2, h3, h4, h5⟩ := h.os
  refine (open_w h1.lt hx 8 SA SB (by rw [hD]) (by rw [hD]; decide) (by rw [hD]; decide) hA hB).mono fun e w' hr => ?_
  obtain ⟨k2, hr⟩ := hr
  rcases hr with ⟨LL, _, _, _, hps, _⟩ | ⟨_, rfl⟩
  · exact absurd ⟨LL, hps⟩ hp
  · exact ⟨rfl, ⟨h.a.keeps k2 fun j hj hu => h3 (by cases hj; exact hu.1), h.c.keeps k2 fun j hj hu => h4 (by cases hj; exact hu.1)⟩, h.q.keeps k2 fun hu => h5 hu.1, h.b.trans (k2.below (fun j hj => h2 j hj.1) h.b.size)⟩
/-- The calls that are compared. -/
structure Cko (b : Nat) (vA vB : Value) (LL : List (List Rk.Sec)) (ag rm : Nat) (u : World) : Prop where
  txns : Calls Tryz.prog 16 #[.pointer (some ⟨b, 0, none⟩)] u fun e w' => ∃ v, e = .returned v ∧ Lss u.heap.size w' v LL ∧ Below u.heap.size u w'
  age : Calls Tryz.prog 17 #[.pointer (some ⟨b, 0, none⟩)] u fun e w' => e = .returned (.int .u64 (ag : Int)) ∧ Below u.heap.size u w'
  rage : Calls Tryz.prog 18 #[.agg #[vA, vB]] u fun e w' => e = .returned (.int .u64 (ag : Int)) ∧ Below u.heap.size u w'
  room : Calls Tryz.prog 19 #[.pointer (some ⟨b, 0, none⟩)] u fun e w' => e = .returned (.int .i64 (rm : Int)) ∧ Below u.heap.size u w'
  rroom : Calls Tryz.prog 20 #[.agg #[vA, vB]] u fun e w' => e = .returned (.int .i64 (rm : Int)) ∧ Below u.heap.size u w'
  rtx : Calls Tryz.prog 14 #[.agg #[vA, vB]] u fun e w' => ∃ v, e = .returned (.tuple #[v, .bool true]) ∧ Lss u.heap.size w' v LL ∧ Below u.heap.size u w'
  same : Calls Tryz.prog 24 #[.pointer (some ⟨g, 0, none⟩), .agg #[vA, vB]] u fun e w' => e = .returned (.bool true) ∧ Below u.heap.size u w'
theorem cko {u : World} {n b r0 r1 : Nat} {vA vB : Value} {M : Wm} {A B : List Rk.Sec} {LL : List (List Rk.Sec)} (h : Wq w g qb u b r0 r1 vA vB x M A B) (hg : Gd n x M A B LL) : Cko (g := g) b vA vB LL M.age M.room u := by
  obtain ⟨U, h1, _, _, _⟩ := h.tr
  have hn := hg.n8
  have hn9 := hg.n9
  have dr : ∀ w', (∃ n, w' = u.drewN n) → Below u.heap.size u w' := fun w' ⟨n, e⟩ => by rw [e]; exact drewN_below (Below.refl _ _) n
  have hos : Dv.Os U u g x := by obtain ⟨_, _, hv⟩ := h1; exact hv.os
  refine ⟨txns_gd h1 hg, (age_gd h1 hg).mono fun e w' hr => ⟨hr.1, dr w' hr.2⟩, ?_, (room_gd h1 hg).mono fun e w' hr => ⟨hr.1, dr w' hr.2⟩, ?_, rtxns_gd h.lg hg, ?_⟩
  · have := rage_c h.lg hg.rd
    rwa [← hg.lS, ← hg.age] at this
  · have := rroom_c h.lg hg.rd
    rwa [← hg.lS, ← hg.room] at this
  · exact same_l h.lg hg.la hg.lb (by omega) (by omega) hos hg.ok (by rw [hg.D]; omega) (gd_V hg)
theorem Lo.rd (h : Lo w g qb gA cA gB cB wr x QA QB) (hx : x.Ok) (j : Nat) (hj : j < x.D.length) : Calls Tryz.prog 26 #[.pointer (some ⟨g, 0, none⟩), .int .i64 (j : Int)] wr fun e w' => e = .returned (.tuple #[.string ⟨(x.V.getD j []).toArray⟩, .int .i64 0]) ∧ Below wr.heap.size wr w' := by
  obtain ⟨U, h1, _⟩ := h.os
  refine (os_read h1 hx _).mono fun e w' hr => ?_
  unfold RdRes Dr.read at hr
  rw [if_neg (by omega), Int.toNat_natCast] at hr
  exact hr
end
set_option maxRecDepth 100000 in
set_option maxHeartbeats 12800000 in
theorem opens_law (a : Option Addr) (cap : Nat) (L : List ByteArray) (a1 : Option Addr) (cap1 : Nat) (L1 : List ByteArray) (a2 : Option Addr) (cap2 : Nat) (L2 : List ByteArray) (w : World) (hL : Strs w a L) (hl : L.length ≤ 9223372036854775807) (hs : ∀ s ∈ L, s.size ≤ 9223372036854775807)
    (hL1 : Strs w a1 L1) (hl1 : L1.length ≤ 9223372036854775807) (hs1 : ∀ s ∈ L1, s.size ≤ 9223372036854775807) (hL2 : Strs w a2 L2) (hl2 : L2.length ≤ 9223372036854775807) (hs2 : ∀ s ∈ L2, s.size ≤ 9223372036854775807) :
    Calls Tryz.prog 4 #[.slice a L.length cap, .slice a1 L1.length cap1, .slice a2 L2.length cap2] w fun e w' => e = .returned (.bool true) ∧ Below w.heap.size w w' := by
  have HL := Lib.hid hL
  have HSZ := Lib.hid hs
  obtain ⟨la, hla⟩ : ∃ la, la = Shf.lists L1 := ⟨_, rfl⟩
  obtain ⟨lb, hlb⟩ : ∃ lb, lb = Shf.lists L2 := ⟨_, rfl⟩
  have ela : la.length = L1.length := by rw [hla, Shf.lists_len]
  have elb : lb.length = L2.length := by rw [hlb, Shf.lists_len]
  have HSA : Hid (Strs w a1 (bas la)) := by show Strs _ _ _; rw [hla, bas_lists']; exact hL1
  have HSB : Hid (Strs w a2 (bas lb)) := by show Strs _ _ _; rw [hlb, bas_lists']; exact hL2
  have HZA : Hid (∀ p ∈ la, p.length ≤ 9223372036854775807) := fun p hp => by
    rw [hla] at hp
    obtain ⟨q, hq, rfl⟩ := List.mem_map.1 (show p ∈ L1.map _ from hp)
    have := hs1 q hq
    show q.data.toList.length ≤ _
    simp; omega
  have HZB : Hid (∀ p ∈ lb, p.length ≤ 9223372036854775807) := fun p hp => by
    rw [hlb] at hp
    obtain ⟨q, hq, rfl⟩ := List.mem_map.1 (show p ∈ L2.map _ from hp)
    have := hs2 q hq
    show q.data.toList.length ≤ _
    simp; omega
  rw [← ela, ← elb]
  have HLA : Hid (la.length ≤ 9223372036854775807 ∧ lb.length ≤ 9223372036854775807) := ⟨by omega, by omega⟩
  clear hL hs hL1 hs1 hL2 hs2 hla hlb ela elb hl1 hl2
  go_enter Tryz.func4, Tryz.ntmps4
  go_wp2_with fail
  refine (os_new 16 (by decide) (by decide) _).mono ?_
  rintro e w1 ⟨g, rfl, ho, hb⟩
  have HO := Lib.hid ho
  have HB := Lib.hid hb
  clear ho hb
  have KG : Hid (Calls Tryz.prog 7 #[.slice (some ⟨w1.heap.size, 0, none⟩) 2 2] (w1.alloc (.cells #[.int .u8 0, .slice a1 la.length cap1, .int .u8 0, .int .u64 0, .int .i64 0, .int .i64 0, .int .u8 0, .slice a2 lb.length cap2, .int .u8 0, .int .u64 0, .int .i64 0, .int .i64 0] 40)) (GrRes [la, lb] (w1.alloc (.cells #[.int .u8 0, .slice a1 la.length cap1, .int .u8 0, .int .u64 0, .int .i64 0, .int .i64 0, .int .u8 0, .slice a2 lb.length cap2, .int .u8 0, .int .u64 0, .int .i64 0, .int .i64 0] 40)))) :=
    great_c [la, lb] _ 2 _ (ls_two w1 la lb a1 a2 cap1 cap2 (HSA.out.later HB.out) (HSB.out.later HB.out) _) (by simp) (fun l hl => by
      rcases List.mem_cons.1 hl with rfl | hl
      · exact ⟨HLA.out.1, HZA.out⟩
      · rcases List.mem_cons.1 hl with rfl | hl
        · exact ⟨HLA.out.2, HZB.out⟩
        · cases hl)
  have HB2 : Hid (Below w.heap.size w (w1.alloc (.cells #[.int .u8 0, .slice a1 la.length cap1, .int .u8 0, .int .u64 0, .int .i64 0, .int .i64 0, .int .u8 0, .slice a2 lb.length cap2, .int .u8 0, .int .u64 0, .int .i64 0, .int .i64 0] 40))) := below_alloc HB.out _
  have HO2 : Hid (Dv.Os (fun j => w.heap.size ≤ j) (w1.alloc (.cells #[.int .u8 0, .slice a1 la.length cap1, .int .u8 0, .int .u64 0, .int .i64 0, .int .i64 0, .int .u8 0, .slice a2 lb.length cap2, .int .u8 0, .int .u64 0, .int .i64 0, .int .i64 0] 40)) g (Dr.new 16)) := HO.out.later ((Below.refl _ _).alloc (Nat.le_refl _) _)
  clear HO HB
  go_wp2_with fail
  generalize w1.alloc (.cells #[.int .u8 0, .slice a1 la.length cap1, .int .u8 0, .int .u64 0, .int .i64 0, .int .i64 0, .int .u8 0, .slice a2 lb.length cap2, .int .u8 0, .int .u64 0, .int .i64 0, .int .i64 0] 40) = w2 at *
  refine KG.out.mono ?_
  rintro e w' ⟨zg, rfl, rfl, hgz⟩
  cases zg with
  | true =>
    have KH := Lib.hid (head_c w2)
    clear hgz
    go_wp2_with fail
    refine KH.out.mono ?_
    rintro e w3 ⟨rfl, hb⟩
    have HB3 : Hid (Below w.heap.size w w3) := HB2.out.trans (hb.mono HB2.out.size)
    clear hb
    go_wp2_with fail
    go_ret
    exact ⟨rfl, HB3.out⟩
  | false =>
    obtain ⟨_, hsm⟩ := hgz rfl
    have HSMA : Hid (Small la) := hsm la (by simp)
    have HSMB : Hid (Small lb) := hsm lb (by simp)
    have T0 : Hid (Wd (fun j => w.heap.size ≤ j) w2 g (Dr.new 16) 0) := ⟨HO2.out, Dr.new_ok 16 (by decide) (by decide), rfl, rfl, Nat.le_refl _⟩
    clear hgz hsm KG HO2 HLA HZA HZB
    go_upto_region 4 with (fail)
    go_cut [9] (fun s9 wx => s9 = .int .i64 0 ∧ w2 = wx)
    case first =>
      go_wp2_with fail
      go_meet
      exact ⟨rfl, rfl⟩
    obtain ⟨rfl, rfl⟩ := hcut
    rename_i K1 hK1 K0 hK
    apply hK
    go_cut [9] (fun s9 wx => ∃ x, Hid (Wd (fun j => w.heap.size ≤ j) wx g x 16) ∧ Hid (Below w.heap.size w wx))
    case rest =>
      obtain ⟨x, TT, HB⟩ := hcut
      clear T0 HB2
      apply hK1
      go_wp2_with fail
      refine (rnew06_s 16 (by omega) _).mono ?_
      rintro e w3 ⟨vA, vB, rfl, hlg, hne, hb⟩
      have hz8 : (List.replicate (16 / 2) Rk.zs).length = 8 := by simp
      obtain ⟨gA, cA, rfl, hgA, _⟩ := own_some hlg.a hz8 (by omega)
      obtain ⟨gB, cB, rfl, hgB, _⟩ := own_some hlg.b hz8 (by omega)
      obtain ⟨Z, hZ⟩ : ∃ Z, Z = List.replicate (16 / 2) Rk.zs := ⟨_, rfl⟩
      rw [← hZ] at hlg hz8
      have T2 : Hid (Lo w g w3.heap.size gA cA gB cB (w3.alloc (.cells #[.slice (some ⟨gA, 0, none⟩) 8 cA, .slice (some ⟨gB, 0, none⟩) 8 cB] TLg)) x Z Z) := by
        have hk : Below w3.heap.size w3 (w3.alloc (.cells #[.slice (some ⟨gA, 0, none⟩) 8 cA, .slice (some ⟨gB, 0, none⟩) 8 cB] TLg)) := (Below.refl _ _).alloc (Nat.le_refl _) _
        have h1 := (hlg.a.lt gA rfl).1
        have h2 := (hlg.b.lt gB rfl).1
        have hs := HB.out.size
        have hs2 := hb.size
        refine ⟨⟨fun j => w.heap.size ≤ j ∧ j < wc.heap.size, (TT.out.os.lt.later hb).later hk, fun j hj => hj.1, fun hu => ?_, fun hu => ?_, fun hu => ?_⟩, (hlg.a.lower hs).later hk, (hlg.b.lower hs).later hk, Rw.new w3 [.slice (some ⟨gA, 0, none⟩) 8 cA, .slice (some ⟨gB, 0, none⟩) 8 cB] TLg, fun e => hne gA rfl (by rw [e]; rfl), Nat.ne_of_lt hgA, Nat.ne_of_lt hgB, Nat.le_trans hs h1, Nat.le_trans hs h2, Nat.le_trans hs hs2, (HB.out.trans (hb.mono hs)).trans (hk.mono (Nat.le_trans hs hs2))⟩
        · have := hu.2; omega
        · have := hu.2; omega
        · have := hu.2; omega
      have SA0 : Hid (So x.V 0 0 Z ∧ So x.V 8 0 Z) := ⟨⟨hz8, fun j h => absurd h (Nat.not_lt_zero _)⟩, ⟨hz8, fun j h => absurd h (Nat.not_lt_zero _)⟩⟩
      obtain ⟨qb, hqb⟩ : ∃ qb, qb = w3.heap.size := ⟨_, rfl⟩
      have HQB := Lib.hid hqb
      rw [← hqb] at T2
      have HVL : Hid (x.V.length = 16) := by show _ = _; rw [Dr.vlen, TT.out.D]
      clear hlg hne hb hgA hgB hz8 hZ hqb
      go_wp2_with fail
      rw [← HQB.out]
      generalize w3.alloc (.cells #[.slice (some ⟨gA, 0, none⟩) 8 cA, .slice (some ⟨gB, 0, none⟩) 8 cB] TLg) = w4 at T2 ⊢
      clear HQB HB
      go_loopg [11] 8 (fun kx s11 wr => ∃ (i : Nat) (QA QB : List Rk.Sec), s11 = .int .i64 (i : Int) ∧ i ≤ 8 ∧ Hid (So x.V 0 i QA) ∧ Hid (So x.V 8 i QB) ∧ Hid (Lo w g qb gA cA gB cB wr x QA QB) ∧ 8 ≤ i + kx)
      case atStart => exact ⟨0, Z, Z, rfl, Nat.zero_le _, SA0.out.1, SA0.out.2, T2, by omega⟩
      case round =>
        clear T2 SA0
        obtain ⟨i, QA, QB, rfl, hi8, HSAo, HSBo, TL, hkx⟩ := hrel
        by_cases hlt : i < 8
        · have hsa := HSAo.out
          have hsb := HSBo.out
          obtain ⟨yA, hyA⟩ : ∃ yA, yA = x.V.getD i [] := ⟨_, rfl⟩
          obtain ⟨yB, hyB⟩ : ∃ yB, yB = x.V.getD (8 + i) [] := ⟨_, rfl⟩
          have i0 : (0 : Int) ≤ (i : Int) := by omega
          have i1 : (i : Int) < 8 := by omega
          have c0 : wr.cell? ⟨qb, 0, none⟩ = some (.slice (some ⟨gA, 0, none⟩) 8 cA) := TL.out.q.cell 0
          have HQ0 : Hid (∀ u, Keeps (fun j => j = gA) wr.drew u → u.cell? ⟨qb, 0, none⟩ = some (.slice (some ⟨gA, 0, none⟩) 8 cA)) := fun u hu => ((TL.out.later (Below.refl _ _).drew).q.keeps hu fun e => TL.out.n2 e.symm).cell 0
          have hqal : i < QA.length := by rw [hsa.len]; omega
          have HO0 : Hid (∀ u, Below wr.drew.heap.size wr.drew u → u.cell? ⟨gA, i, none⟩ = some (sv (QA[i]'hqal)) ∧ u.frozen? ⟨gA, i, none⟩ = false) := fun u hu => (ow_set (TL.out.later ((Below.refl _ _).drew.trans hu)).a i hqal []).2
          have KRD : Hid (∀ u, Below wr.drew.heap.size wr.drew u → Calls Tryz.prog 26 #[.pointer (some ⟨g, 0, none⟩), .int .i64 (i : Int)] u fun e w' => e = .returned (.tuple #[.string ⟨yA.toArray⟩, .int .i64 0]) ∧ Below u.heap.size u w') := fun u hu => by
            have := (TL.out.later ((Below.refl _ _).drew.trans hu)).rd TT.out.ok i (by rw [TT.out.D]; omega)
            rwa [← hyA] at this
          obtain ⟨oA, hoA⟩ : ∃ oA, oA = sv (QA[i]'hqal) := ⟨_, rfl⟩
          rw [← hoA] at HO0
          have HYA := Lib.hid hyA
          have HYB := Lib.hid hyB
          clear hoA hyA hyB
          go_upto_region 12 with (fail)
          refine wp_region_inv (I := (fun A0 L a u => ∃ (x0 x1 x2 x3 x4 x5 x6 x7 x8 x9 : Value), a = putAll A0 [(58, x0), (59, x1), (60, x2), (61, x3), (62, x4), (63, x5), (57, x6), (64, x7), (65, x8), (66, x9)] ∧ (L 0 = true → x0 = (.pointer (some ⟨qb, 0, Option.none⟩))) ∧ (L 1 = true → x1 = (.slice (some ⟨gA, 0, none⟩) 8 cA)) ∧ (L 2 = true → x2 = (.int .i64 (i : Int))) ∧ (L 3 = true → x3 = (.pointer (some ⟨g, 0, Option.none⟩))) ∧ (L 4 = true → x4 = (.int .i64 (i : Int))) ∧ (L 5 = true → x5 = (.tuple #[.string ⟨yA.toArray⟩, .int .i64 0])) ∧ (L 6 = true → x6 = (.tuple #[.string ⟨yA.toArray⟩, .int .i64 0])) ∧ (L 7 = true → x7 = (.string ⟨yA.toArray⟩)) ∧ (L 8 = true → x8 = (.int .i64 0)) ∧ (L 9 = true → x9 = (.pointer (some ⟨gA, i, Option.none⟩))) ∧ Rq wr.drew gA i yA (L 5) (L 10) u)) (by kernel_rfl) (by kernel_rfl) ?_ ?_ ?_
          · intro L hL
            exact ⟨_, _, _, _, _, _, _, _, _, _, by (simp only [putAll, Act.put, List.setIfInBounds_toArray, List.set_cons_zero, List.set_cons_succ]; rfl), (fun h => absurd h (by rw [hL 0 (by decide)]; decide)), (fun h => absurd h (by rw [hL 1 (by decide)]; decide)), (fun h => absurd h (by rw [hL 2 (by decide)]; decide)), (fun h => absurd h (by rw [hL 3 (by decide)]; decide)), (fun h => absurd h (by rw [hL 4 (by decide)]; decide)), (fun h => absurd h (by rw [hL 5 (by decide)]; decide)), (fun h => absurd h (by rw [hL 6 (by decide)]; decide)), (fun h => absurd h (by rw [hL 7 (by decide)]; decide)), (fun h => absurd h (by rw [hL 8 (by decide)]; decide)), (fun h => absurd h (by rw [hL 9 (by decide)]; decide)), by rw [hL 5 (by decide), hL 10 (by decide)]; exact Rq.start⟩
          refine Steps.cons (i := 0) rfl ?_ ?_
          · rintro L a u ⟨x0, x1, x2, x3, x4, x5, x6, x7, x8, x9, rfl, h0, h1, h2, h3, h4, h5, h6, h7, h8, h9, hm⟩ hi hd K hK
            simp only [putAll, Act.put, List.setIfInBounds_toArray, List.set_cons_zero, List.set_cons_succ]
            (try simp [Region.binds] at hd)
            replace h0 := Lib.hid h0
            replace h1 := Lib.hid h1
            replace h2 := Lib.hid h2
            replace h3 := Lib.hid h3
            replace h4 := Lib.hid h4
            replace h5 := Lib.hid h5
            replace h6 := Lib.hid h6
            replace h7 := Lib.hid h7
            replace h8 := Lib.hid h8
            replace h9 := Lib.hid h9
            go_simp
            exact hK.out _ _ ⟨_, _, _, _, _, _, _, _, _, _, by ((simp only [putAll, Act.put, List.setIfInBounds_toArray, List.set_cons_zero, List.set_cons_succ]) <;> rfl), (fun _ => rfl), h1.out, h2.out, h3.out, h4.out, h5.out, h6.out, h7.out, h8.out, h9.out, hm⟩
          refine Steps.cons (i := 1) rfl ?_ ?_
          · rintro L a u ⟨x0, x1, x2, x3, x4, x5, x6, x7, x8, x9, rfl, h0, h1, h2, h3, h4, h5, h6, h7, h8, h9, hm⟩ hi hd K hK
            simp only [putAll, Act.put, List.setIfInBounds_toArray, List.set_cons_zero, List.set_cons_succ]
            (try simp [Region.binds] at hd)
            replace h0 := Lib.hid h0
            replace h1 := Lib.hid h1
            replace h2 := Lib.hid h2
            replace h3 := Lib.hid h3
            replace h4 := Lib.hid h4
            replace h5 := Lib.hid h5
            replace h6 := Lib.hid h6
            replace h7 := Lib.hid h7
            replace h8 := Lib.hid h8
            replace h9 := Lib.hid h9
            obtain rfl := (h0.out (by simp [hd])).symm
            have c0 := HQ0.out u hm.other
            go_simp
            exact hK.out _ _ ⟨_, _, _, _, _, _, _, _, _, _, by ((simp only [putAll, Act.put, List.setIfInBounds_toArray, List.set_cons_zero, List.set_cons_succ]) <;> rfl), h0.out, (fun _ => rfl), h2.out, h3.out, h4.out, h5.out, h6.out, h7.out, h8.out, h9.out, hm⟩
          refine Steps.cons (i := 2) rfl ?_ ?_
          · rintro L a u ⟨x0, x1, x2, x3, x4, x5, x6, x7, x8, x9, rfl, h0, h1, h2, h3, h4, h5, h6, h7, h8, h9, hm⟩ hi hd K hK
            simp only [putAll, Act.put, List.setIfInBounds_toArray, List.set_cons_zero, List.set_cons_succ]
            (try simp [Region.binds] at hd)
            replace h0 := Lib.hid h0
            replace h1 := Lib.hid h1
            replace h2 := Lib.hid h2
            replace h3 := Lib.hid h3
            replace h4 := Lib.hid h4
            replace h5 := Lib.hid h5
            replace h6 := Lib.hid h6
            replace h7 := Lib.hid h7
            replace h8 := Lib.hid h8
            replace h9 := Lib.hid h9
            go_simp
            exact hK.out _ _ ⟨_, _, _, _, _, _, _, _, _, _, by ((simp only [putAll, Act.put, List.setIfInBounds_toArray, List.set_cons_zero, List.set_cons_succ]) <;> rfl), h0.out, h1.out, (fun _ => rfl), h3.out, h4.out, h5.out, h6.out, h7.out, h8.out, h9.out, hm⟩
          refine Steps.cons (i := 3) rfl ?_ ?_
          · rintro L a u ⟨x0, x1, x2, x3, x4, x5, x6, x7, x8, x9, rfl, h0, h1, h2, h3, h4, h5, h6, h7, h8, h9, hm⟩ hi hd K hK
            simp only [putAll, Act.put, List.setIfInBounds_toArray, List.set_cons_zero, List.set_cons_succ]
            (try simp [Region.binds] at hd)
            replace h0 := Lib.hid h0
            replace h1 := Lib.hid h1
            replace h2 := Lib.hid h2
            replace h3 := Lib.hid h3
            replace h4 := Lib.hid h4
            replace h5 := Lib.hid h5
            replace h6 := Lib.hid h6
            replace h7 := Lib.hid h7
            replace h8 := Lib.hid h8
            replace h9 := Lib.hid h9
            go_simp
            exact hK.out _ _ ⟨_, _, _, _, _, _, _, _, _, _, by ((simp only [putAll, Act.put, List.setIfInBounds_toArray, List.set_cons_zero, List.set_cons_succ]) <;> rfl), h0.out, h1.out, h2.out, (fun _ => rfl), h4.out, h5.out, h6.out, h7.out, h8.out, h9.out, hm⟩
          refine Steps.cons (i := 4) rfl ?_ ?_
          · rintro L a u ⟨x0, x1, x2, x3, x4, x5, x6, x7, x8, x9, rfl, h0, h1, h2, h3, h4, h5, h6, h7, h8, h9, hm⟩ hi hd K hK
            simp only [putAll, Act.put, List.setIfInBounds_toArray, List.set_cons_zero, List.set_cons_succ]
            (try simp [Region.binds] at hd)
            replace h0 := Lib.hid h0
            replace h1 := Lib.hid h1
            replace h2 := Lib.hid h2
            replace h3 := Lib.hid h3
            replace h4 := Lib.hid h4
            replace h5 := Lib.hid h5
            replace h6 := Lib.hid h6
            replace h7 := Lib.hid h7
            replace h8 := Lib.hid h8
            replace h9 := Lib.hid h9
            go_simp
            exact hK.out _ _ ⟨_, _, _, _, _, _, _, _, _, _, by ((simp only [putAll, Act.put, List.setIfInBounds_toArray, List.set_cons_zero, List.set_cons_succ]) <;> rfl), h0.out, h1.out, h2.out, h3.out, (fun _ => rfl), h5.out, h6.out, h7.out, h8.out, h9.out, hm⟩
          refine Steps.cons (i := 5) rfl ?_ ?_
          · rintro L a u ⟨x0, x1, x2, x3, x4, x5, x6, x7, x8, x9, rfl, h0, h1, h2, h3, h4, h5, h6, h7, h8, h9, hm⟩ hi hd K hK
            simp only [putAll, Act.put, List.setIfInBounds_toArray, List.set_cons_zero, List.set_cons_succ]
            (try simp [Region.binds] at hd)
            replace h0 := Lib.hid h0
            replace h1 := Lib.hid h1
            replace h2 := Lib.hid h2
            replace h3 := Lib.hid h3
            replace h4 := Lib.hid h4
            replace h5 := Lib.hid h5
            replace h6 := Lib.hid h6
            replace h7 := Lib.hid h7
            replace h8 := Lib.hid h8
            replace h9 := Lib.hid h9
            obtain rfl := (h3.out (by simp [hd])).symm
            obtain rfl := (h4.out (by simp [hd])).symm
            have hlo : L 10 = false := hm.rd hi
            go_simp
            refine (KRD.out u (hm.at hlo)).mono ?_
            rintro e u5 ⟨rfl, hb5⟩
            go_wp2_with fail
            exact hK.out _ _ ⟨_, _, _, _, _, _, _, _, _, _, by ((simp only [putAll, Act.put, List.setIfInBounds_toArray, List.set_cons_zero, List.set_cons_succ]) <;> rfl), h0.out, h1.out, h2.out, (fun _ => rfl), (fun _ => rfl), (fun _ => rfl), h6.out, h7.out, h8.out, h9.out, (hm.did hi hb5)⟩
          refine Steps.cons (i := 6) rfl ?_ ?_
          · rintro L a u ⟨x0, x1, x2, x3, x4, x5, x6, x7, x8, x9, rfl, h0, h1, h2, h3, h4, h5, h6, h7, h8, h9, hm⟩ hi hd K hK
            simp only [putAll, Act.put, List.setIfInBounds_toArray, List.set_cons_zero, List.set_cons_succ]
            (try simp [Region.binds] at hd)
            replace h0 := Lib.hid h0
            replace h1 := Lib.hid h1
            replace h2 := Lib.hid h2
            replace h3 := Lib.hid h3
            replace h4 := Lib.hid h4
            replace h5 := Lib.hid h5
            replace h6 := Lib.hid h6
            replace h7 := Lib.hid h7
            replace h8 := Lib.hid h8
            replace h9 := Lib.hid h9
            obtain rfl := (h5.out (by simp [hd])).symm
            go_simp
            exact hK.out _ _ ⟨_, _, _, _, _, _, _, _, _, _, by ((simp only [putAll, Act.put, List.setIfInBounds_toArray, List.set_cons_zero, List.set_cons_succ]) <;> rfl), h0.out, h1.out, h2.out, h3.out, h4.out, h5.out, (fun _ => rfl), h7.out, h8.out, h9.out, hm⟩
          refine Steps.cons (i := 7) rfl ?_ ?_
          · rintro L a u ⟨x0, x1, x2, x3, x4, x5, x6, x7, x8, x9, rfl, h0, h1, h2, h3, h4, h5, h6, h7, h8, h9, hm⟩ hi hd K hK
            simp only [putAll, Act.put, List.setIfInBounds_toArray, List.set_cons_zero, List.set_cons_succ]
            (try simp [Region.binds] at hd)
            replace h0 := Lib.hid h0
            replace h1 := Lib.hid h1
            replace h2 := Lib.hid h2
            replace h3 := Lib.hid h3
            replace h4 := Lib.hid h4
            replace h5 := Lib.hid h5
            replace h6 := Lib.hid h6
            replace h7 := Lib.hid h7
            replace h8 := Lib.hid h8
            replace h9 := Lib.hid h9
            obtain rfl := (h6.out (by simp [hd])).symm
            go_simp
            exact hK.out _ _ ⟨_, _, _, _, _, _, _, _, _, _, by ((simp only [putAll, Act.put, List.setIfInBounds_toArray, List.set_cons_zero, List.set_cons_succ]) <;> rfl), h0.out, h1.out, h2.out, h3.out, h4.out, h5.out, h6.out, (fun _ => rfl), h8.out, h9.out, hm⟩
          refine Steps.cons (i := 8) rfl ?_ ?_
          · rintro L a u ⟨x0, x1, x2, x3, x4, x5, x6, x7, x8, x9, rfl, h0, h1, h2, h3, h4, h5, h6, h7, h8, h9, hm⟩ hi hd K hK
            simp only [putAll, Act.put, List.setIfInBounds_toArray, List.set_cons_zero, List.set_cons_succ]
            (try simp [Region.binds] at hd)
            replace h0 := Lib.hid h0
            replace h1 := Lib.hid h1
            replace h2 := Lib.hid h2
            replace h3 := Lib.hid h3
            replace h4 := Lib.hid h4
            replace h5 := Lib.hid h5
            replace h6 := Lib.hid h6
            replace h7 := Lib.hid h7
            replace h8 := Lib.hid h8
            replace h9 := Lib.hid h9
            obtain rfl := (h6.out (by simp [hd])).symm
            go_simp
            exact hK.out _ _ ⟨_, _, _, _, _, _, _, _, _, _, by ((simp only [putAll, Act.put, List.setIfInBounds_toArray, List.set_cons_zero, List.set_cons_succ]) <;> rfl), h0.out, h1.out, h2.out, h3.out, h4.out, h5.out, h6.out, h7.out, (fun _ => rfl), h9.out, hm⟩
          refine Steps.cons (i := 9) rfl ?_ ?_
          · rintro L a u ⟨x0, x1, x2, x3, x4, x5, x6, x7, x8, x9, rfl, h0, h1, h2, h3, h4, h5, h6, h7, h8, h9, hm⟩ hi hd K hK
            simp only [putAll, Act.put, List.setIfInBounds_toArray, List.set_cons_zero, List.set_cons_succ]
            (try simp [Region.binds] at hd)
            replace h0 := Lib.hid h0
            replace h1 := Lib.hid h1
            replace h2 := Lib.hid h2
            replace h3 := Lib.hid h3
            replace h4 := Lib.hid h4
            replace h5 := Lib.hid h5
            replace h6 := Lib.hid h6
            replace h7 := Lib.hid h7
            replace h8 := Lib.hid h8
            replace h9 := Lib.hid h9
            obtain rfl := (h1.out (by simp [hd])).symm
            obtain rfl := (h2.out (by simp [hd])).symm
            go_simp
            exact hK.out _ _ ⟨_, _, _, _, _, _, _, _, _, _, by ((simp only [putAll, Act.put, List.setIfInBounds_toArray, List.set_cons_zero, List.set_cons_succ]) <;> rfl), h0.out, h1.out, h2.out, h3.out, h4.out, h5.out, h6.out, h7.out, h8.out, (fun _ => rfl), hm⟩
          refine Steps.cons (i := 10) rfl ?_ ?_
          · rintro L a u ⟨x0, x1, x2, x3, x4, x5, x6, x7, x8, x9, rfl, h0, h1, h2, h3, h4, h5, h6, h7, h8, h9, hm⟩ hi hd K hK
            simp only [putAll, Act.put, List.setIfInBounds_toArray, List.set_cons_zero, List.set_cons_succ]
            (try simp [Region.binds] at hd)
            replace h0 := Lib.hid h0
            replace h1 := Lib.hid h1
            replace h2 := Lib.hid h2
            replace h3 := Lib.hid h3
            replace h4 := Lib.hid h4
            replace h5 := Lib.hid h5
            replace h6 := Lib.hid h6
            replace h7 := Lib.hid h7
            replace h8 := Lib.hid h8
            replace h9 := Lib.hid h9
            obtain rfl := (h7.out (by simp [hd])).symm
            obtain rfl := (h9.out (by simp [hd])).symm
            have hrd : L 5 = true := by simp [hd]
            have hbu := hm.at hi
            have ho := HO0.out u hbu
            have co := ho.1
            have fo := ho.2
            clear ho
            go_simp
            exact hK.out _ _ ⟨_, _, _, _, _, _, _, _, _, _, by ((simp only [putAll, Act.put, List.setIfInBounds_toArray, List.set_cons_zero, List.set_cons_succ]) <;> rfl), h0.out, h1.out, h2.out, h3.out, h4.out, h5.out, h6.out, h7.out, h8.out, h9.out, (hm.store hi hrd)⟩
          · exact Steps.nil
          · rintro L a u ⟨x0, x1, x2, x3, x4, x5, x6, x7, x8, x9, rfl, h0, h1, h2, h3, h4, h5, h6, h7, h8, h9, hm⟩ hall
            simp only [putAll, Act.put, List.setIfInBounds_toArray, List.set_cons_zero, List.set_cons_succ]
            have HM := Lib.hid (hm.end' (hall 10 (by decide)))
            clear hm
            clear h0 h1 h2 h3 h4 h5 h6 h7 h8 h9 hall
            obtain ⟨w5, hb5, rfl⟩ := HM.out
            have hL5 := (TL.out.later ((Below.refl _ _).drew.trans hb5)).setA i (by rw [hsa.len]; omega) yA
            have TL5 := Lib.hid hL5
            generalize w5.setCell ⟨gA, i, none⟩ (sv yA) = w6 at TL5 ⊢
            clear hb5 hL5 HM HQ0 HO0 KRD c0
            have c1 : w6.cell? ⟨qb, 1, none⟩ = some (.slice (some ⟨gB, 0, none⟩) 8 cB) := TL5.out.q.cell 1
            have HQ1 : Hid (∀ u, Keeps (fun j => j = gB) w6.drew u → u.cell? ⟨qb, 1, none⟩ = some (.slice (some ⟨gB, 0, none⟩) 8 cB)) := fun u hu => ((TL5.out.later (Below.refl _ _).drew).q.keeps hu fun e => TL5.out.n3 e.symm).cell 1
            have HO1 : Hid (∀ u, Below w6.drew.heap.size w6.drew u → u.cell? ⟨gB, i, none⟩ = some (sv (QB[i]'(by rw [hsb.len]; omega))) ∧ u.frozen? ⟨gB, i, none⟩ = false) := fun u hu => (ow_set (TL5.out.later ((Below.refl _ _).drew.trans hu)).c i (by rw [hsb.len]; omega) []).2
            have KRD : Hid (∀ u, Below w6.drew.heap.size w6.drew u → Calls Tryz.prog 26 #[.pointer (some ⟨g, 0, none⟩), .int .i64 (8 + (i : Int))] u fun e w' => e = .returned (.tuple #[.string ⟨yB.toArray⟩, .int .i64 0]) ∧ Below u.heap.size u w') := fun u hu => by
              have := (TL5.out.later ((Below.refl _ _).drew.trans hu)).rd TT.out.ok (8 + i) (by rw [TT.out.D]; omega)
              rwa [← HYB.out, show ((8 + i : Nat) : Int) = 8 + (i : Int) by omega] at this
            obtain ⟨oB, hoB⟩ : ∃ oB, oB = sv (QB[i]'(by rw [hsb.len]; omega)) := ⟨_, rfl⟩
            rw [← hoB] at HO1
            have HSA2 : Hid (So x.V 0 (i + 1) (QA.set i yA)) := by have := hsa.next (by omega) (by rw [HVL.out]; omega); rwa [Nat.zero_add, ← HYA.out] at this
            have HSB2 : Hid (So x.V 8 (i + 1) (QB.set i yB)) := by have := hsb.next (by omega) (by rw [HVL.out]; omega); rwa [← HYB.out] at this
            have hqbl : i < QB.length := by rw [hsb.len]; omega
            have HQBL := Lib.hid hqbl
            clear hoB hqbl
            have hwr : IntKind.i64.wrap (8 + (i : Int)) = 8 + (i : Int) := IntWalk.i64_in _ ⟨by omega, by omega⟩
            go_upto_region 13 with (fail)
            refine wp_region_inv (I := (fun A0 L a u => ∃ (x0 x1 x2 x3 x4 x5 x6 x7 x8 x9 x10 : Value), a = putAll A0 [(68, x0), (69, x1), (70, x2), (71, x3), (72, x4), (73, x5), (74, x6), (67, x7), (75, x8), (76, x9), (77, x10)] ∧ (L 0 = true → x0 = (.pointer (some ⟨qb, 1, Option.none⟩))) ∧ (L 1 = true → x1 = (.slice (some ⟨gB, 0, none⟩) 8 cB)) ∧ (L 2 = true → x2 = (.int .i64 (i : Int))) ∧ (L 3 = true → x3 = (.pointer (some ⟨g, 0, Option.none⟩))) ∧ (L 4 = true → x4 = (.int .i64 (i : Int))) ∧ (L 5 = true → x5 = (.int .i64 (8 + (i : Int)))) ∧ (L 6 = true → x6 = (.tuple #[.string ⟨yB.toArray⟩, .int .i64 0])) ∧ (L 7 = true → x7 = (.tuple #[.string ⟨yB.toArray⟩, .int .i64 0])) ∧ (L 8 = true → x8 = (.string ⟨yB.toArray⟩)) ∧ (L 9 = true → x9 = (.int .i64 0)) ∧ (L 10 = true → x10 = (.pointer (some ⟨gB, i, Option.none⟩))) ∧ Rq w6.drew gB i yB (L 6) (L 11) u)) (by kernel_rfl) (by kernel_rfl) ?_ ?_ ?_
            · intro L hL
              exact ⟨_, _, _, _, _, _, _, _, _, _, _, by (simp only [putAll, Act.put, List.setIfInBounds_toArray, List.set_cons_zero, List.set_cons_succ]; rfl), (fun h => absurd h (by rw [hL 0 (by decide)]; decide)), (fun h => absurd h (by rw [hL 1 (by decide)]; decide)), (fun h => absurd h (by rw [hL 2 (by decide)]; decide)), (fun h => absurd h (by rw [hL 3 (by decide)]; decide)), (fun h => absurd h (by rw [hL 4 (by decide)]; decide)), (fun h => absurd h (by rw [hL 5 (by decide)]; decide)), (fun h => absurd h (by rw [hL 6 (by decide)]; decide)), (fun h => absurd h (by rw [hL 7 (by decide)]; decide)), (fun h => absurd h (by rw [hL 8 (by decide)]; decide)), (fun h => absurd h (by rw [hL 9 (by decide)]; decide)), (fun h => absurd h (by rw [hL 10 (by decide)]; decide)), by rw [hL 6 (by decide), hL 11 (by decide)]; exact Rq.start⟩
            refine Steps.cons (i := 0) rfl ?_ ?_
            · rintro L a u ⟨x0, x1, x2, x3, x4, x5, x6, x7, x8, x9, x10, rfl, h0, h1, h2, h3, h4, h5, h6, h7, h8, h9, h10, hm⟩ hi hd K hK
              simp only [putAll, Act.put, List.setIfInBounds_toArray, List.set_cons_zero, List.set_cons_succ]
              (try simp [Region.binds] at hd)
              replace h0 := Lib.hid h0
              replace h1 := Lib.hid h1
              replace h2 := Lib.hid h2
              replace h3 := Lib.hid h3
              replace h4 := Lib.hid h4
              replace h5 := Lib.hid h5
              replace h6 := Lib.hid h6
              replace h7 := Lib.hid h7
              replace h8 := Lib.hid h8
              replace h9 := Lib.hid h9
              replace h10 := Lib.hid h10
              go_simp
              exact hK.out _ _ ⟨_, _, _, _, _, _, _, _, _, _, _, by ((simp only [putAll, Act.put, List.setIfInBounds_toArray, List.set_cons_zero, List.set_cons_succ]) <;> rfl), (fun _ => rfl), h1.out, h2.out, h3.out, h4.out, h5.out, h6.out, h7.out, h8.out, h9.out, h10.out, hm⟩
            refine Steps.cons (i := 1) rfl ?_ ?_
            · rintro L a u ⟨x0, x1, x2, x3, x4, x5, x6, x7, x8, x9, x10, rfl, h0, h1, h2, h3, h4, h5, h6, h7, h8, h9, h10, hm⟩ hi hd K hK
              simp only [putAll, Act.put, List.setIfInBounds_toArray, List.set_cons_zero, List.set_cons_succ]
              (try simp [Region.binds] at hd)
              replace h0 := Lib.hid h0
              replace h1 := Lib.hid h1
              replace h2 := Lib.hid h2
              replace h3 := Lib.hid h3
              replace h4 := Lib.hid h4
              replace h5 := Lib.hid h5
              replace h6 := Lib.hid h6
              replace h7 := Lib.hid h7
              replace h8 := Lib.hid h8
              replace h9 := Lib.hid h9
              replace h10 := Lib.hid h10
              obtain rfl := (h0.out (by simp [hd])).symm
              have c0 := HQ1.out u hm.other
              go_simp
              exact hK.out _ _ ⟨_, _, _, _, _, _, _, _, _, _, _, by ((simp only [putAll, Act.put, List.setIfInBounds_toArray, List.set_cons_zero, List.set_cons_succ]) <;> rfl), h0.out, (fun _ => rfl), h2.out, h3.out, h4.out, h5.out, h6.out, h7.out, h8.out, h9.out, h10.out, hm⟩
            refine Steps.cons (i := 2) rfl ?_ ?_
            · rintro L a u ⟨x0, x1, x2, x3, x4, x5, x6, x7, x8, x9, x10, rfl, h0, h1, h2, h3, h4, h5, h6, h7, h8, h9, h10, hm⟩ hi hd K hK
              simp only [putAll, Act.put, List.setIfInBounds_toArray, List.set_cons_zero, List.set_cons_succ]
              (try simp [Region.binds] at hd)
              replace h0 := Lib.hid h0
              replace h1 := Lib.hid h1
              replace h2 := Lib.hid h2
              replace h3 := Lib.hid h3
              replace h4 := Lib.hid h4
              replace h5 := Lib.hid h5
              replace h6 := Lib.hid h6
              replace h7 := Lib.hid h7
              replace h8 := Lib.hid h8
              replace h9 := Lib.hid h9
              replace h10 := Lib.hid h10
              go_simp
              exact hK.out _ _ ⟨_, _, _, _, _, _, _, _, _, _, _, by ((simp only [putAll, Act.put, List.setIfInBounds_toArray, List.set_cons_zero, List.set_cons_succ]) <;> rfl), h0.out, h1.out, (fun _ => rfl), h3.out, h4.out, h5.out, h6.out, h7.out, h8.out, h9.out, h10.out, hm⟩
            refine Steps.cons (i := 3) rfl ?_ ?_
            · rintro L a u ⟨x0, x1, x2, x3, x4, x5, x6, x7, x8, x9, x10, rfl, h0, h1, h2, h3, h4, h5, h6, h7, h8, h9, h10, hm⟩ hi hd K hK
              simp only [putAll, Act.put, List.setIfInBounds_toArray, List.set_cons_zero, List.set_cons_succ]
              (try simp [Region.binds] at hd)
              replace h0 := Lib.hid h0
              replace h1 := Lib.hid h1
              replace h2 := Lib.hid h2
              replace h3 := Lib.hid h3
              replace h4 := Lib.hid h4
              replace h5 := Lib.hid h5
              replace h6 := Lib.hid h6
              replace h7 := Lib.hid h7
              replace h8 := Lib.hid h8
              replace h9 := Lib.hid h9
              replace h10 := Lib.hid h10
              go_simp
              exact hK.out _ _ ⟨_, _, _, _, _, _, _, _, _, _, _, by ((simp only [putAll, Act.put, List.setIfInBounds_toArray, List.set_cons_zero, List.set_cons_succ]) <;> rfl), h0.out, h1.out, h2.out, (fun _ => rfl), h4.out, h5.out, h6.out, h7.out, h8.out, h9.out, h10.out, hm⟩
            refine Steps.cons (i := 4) rfl ?_ ?_
            · rintro L a u ⟨x0, x1, x2, x3, x4, x5, x6, x7, x8, x9, x10, rfl, h0, h1, h2, h3, h4, h5, h6, h7, h8, h9, h10, hm⟩ hi hd K hK
              simp only [putAll, Act.put, List.setIfInBounds_toArray, List.set_cons_zero, List.set_cons_succ]
              (try simp [Region.binds] at hd)
              replace h0 := Lib.hid h0
              replace h1 := Lib.hid h1
              replace h2 := Lib.hid h2
              replace h3 := Lib.hid h3
              replace h4 := Lib.hid h4
              replace h5 := Lib.hid h5
              replace h6 := Lib.hid h6
              replace h7 := Lib.hid h7
              replace h8 := Lib.hid h8
              replace h9 := Lib.hid h9
              replace h10 := Lib.hid h10
              go_simp
              exact hK.out _ _ ⟨_, _, _, _, _, _, _, _, _, _, _, by ((simp only [putAll, Act.put, List.setIfInBounds_toArray, List.set_cons_zero, List.set_cons_succ]) <;> rfl), h0.out, h1.out, h2.out, h3.out, (fun _ => rfl), h5.out, h6.out, h7.out, h8.out, h9.out, h10.out, hm⟩
            refine Steps.cons (i := 5) rfl ?_ ?_
            · rintro L a u ⟨x0, x1, x2, x3, x4, x5, x6, x7, x8, x9, x10, rfl, h0, h1, h2, h3, h4, h5, h6, h7, h8, h9, h10, hm⟩ hi hd K hK
              simp only [putAll, Act.put, List.setIfInBounds_toArray, List.set_cons_zero, List.set_cons_succ]
              (try simp [Region.binds] at hd)
              replace h0 := Lib.hid h0
              replace h1 := Lib.hid h1
              replace h2 := Lib.hid h2
              replace h3 := Lib.hid h3
              replace h4 := Lib.hid h4
              replace h5 := Lib.hid h5
              replace h6 := Lib.hid h6
              replace h7 := Lib.hid h7
              replace h8 := Lib.hid h8
              replace h9 := Lib.hid h9
              replace h10 := Lib.hid h10
              obtain rfl := (h4.out (by simp [hd])).symm
              go_simp
              exact hK.out _ _ ⟨_, _, _, _, _, _, _, _, _, _, _, by ((simp only [putAll, Act.put, List.setIfInBounds_toArray, List.set_cons_zero, List.set_cons_succ]) <;> rfl), h0.out, h1.out, h2.out, h3.out, h4.out, (fun _ => rfl), h6.out, h7.out, h8.out, h9.out, h10.out, hm⟩
            refine Steps.cons (i := 6) rfl ?_ ?_
            · rintro L a u ⟨x0, x1, x2, x3, x4, x5, x6, x7, x8, x9, x10, rfl, h0, h1, h2, h3, h4, h5, h6, h7, h8, h9, h10, hm⟩ hi hd K hK
              simp only [putAll, Act.put, List.setIfInBounds_toArray, List.set_cons_zero, List.set_cons_succ]
              (try simp [Region.binds] at hd)
              replace h0 := Lib.hid h0
              replace h1 := Lib.hid h1
              replace h2 := Lib.hid h2
              replace h3 := Lib.hid h3
              replace h4 := Lib.hid h4
              replace h5 := Lib.hid h5
              replace h6 := Lib.hid h6
              replace h7 := Lib.hid h7
              replace h8 := Lib.hid h8
              replace h9 := Lib.hid h9
              replace h10 := Lib.hid h10
              obtain rfl := (h3.out (by simp [hd])).symm
              obtain rfl := (h5.out (by simp [hd])).symm
              have hlo : L 11 = false := hm.rd hi
              go_simp
              refine (KRD.out u (hm.at hlo)).mono ?_
              rintro e u5 ⟨rfl, hb5⟩
              go_wp2_with fail
              exact hK.out _ _ ⟨_, _, _, _, _, _, _, _, _, _, _, by ((simp only [putAll, Act.put, List.setIfInBounds_toArray, List.set_cons_zero, List.set_cons_succ]) <;> rfl), h0.out, h1.out, h2.out, (fun _ => rfl), h4.out, (fun _ => rfl), (fun _ => rfl), h7.out, h8.out, h9.out, h10.out, (hm.did hi hb5)⟩
            refine Steps.cons (i := 7) rfl ?_ ?_
            · rintro L a u ⟨x0, x1, x2, x3, x4, x5, x6, x7, x8, x9, x10, rfl, h0, h1, h2, h3, h4, h5, h6, h7, h8, h9, h10, hm⟩ hi hd K hK
              simp only [putAll, Act.put, List.setIfInBounds_toArray, List.set_cons_zero, List.set_cons_succ]
              (try simp [Region.binds] at hd)
              replace h0 := Lib.hid h0
              replace h1 := Lib.hid h1
              replace h2 := Lib.hid h2
              replace h3 := Lib.hid h3
              replace h4 := Lib.hid h4
              replace h5 := Lib.hid h5
              replace h6 := Lib.hid h6
              replace h7 := Lib.hid h7
              replace h8 := Lib.hid h8
              replace h9 := Lib.hid h9
              replace h10 := Lib.hid h10
              obtain rfl := (h6.out (by simp [hd])).symm
              go_simp
              exact hK.out _ _ ⟨_, _, _, _, _, _, _, _, _, _, _, by ((simp only [putAll, Act.put, List.setIfInBounds_toArray, List.set_cons_zero, List.set_cons_succ]) <;> rfl), h0.out, h1.out, h2.out, h3.out, h4.out, h5.out, h6.out, (fun _ => rfl), h8.out, h9.out, h10.out, hm⟩
            refine Steps.cons (i := 8) rfl ?_ ?_
            · rintro L a u ⟨x0, x1, x2, x3, x4, x5, x6, x7, x8, x9, x10, rfl, h0, h1, h2, h3, h4, h5, h6, h7, h8, h9, h10, hm⟩ hi hd K hK
              simp only [putAll, Act.put, List.setIfInBounds_toArray, List.set_cons_zero, List.set_cons_succ]
              (try simp [Region.binds] at hd)
              replace h0 := Lib.hid h0
              replace h1 := Lib.hid h1
              replace h2 := Lib.hid h2
              replace h3 := Lib.hid h3
              replace h4 := Lib.hid h4
              replace h5 := Lib.hid h5
              replace h6 := Lib.hid h6
              replace h7 := Lib.hid h7
              replace h8 := Lib.hid h8
              replace h9 := Lib.hid h9
              replace h10 := Lib.hid h10
              obtain rfl := (h7.out (by simp [hd])).symm
              go_simp
              exact hK.out _ _ ⟨_, _, _, _, _, _, _, _, _, _, _, by ((simp only [putAll, Act.put, List.setIfInBounds_toArray, List.set_cons_zero, List.set_cons_succ]) <;> rfl), h0.out, h1.out, h2.out, h3.out, h4.out, h5.out, h6.out, h7.out, (fun _ => rfl), h9.out, h10.out, hm⟩
            refine Steps.cons (i := 9) rfl ?_ ?_
            · rintro L a u ⟨x0, x1, x2, x3, x4, x5, x6, x7, x8, x9, x10, rfl, h0, h1, h2, h3, h4, h5, h6, h7, h8, h9, h10, hm⟩ hi hd K hK
              simp only [putAll, Act.put, List.setIfInBounds_toArray, List.set_cons_zero, List.set_cons_succ]
              (try simp [Region.binds] at hd)
              replace h0 := Lib.hid h0
              replace h1 := Lib.hid h1
              replace h2 := Lib.hid h2
              replace h3 := Lib.hid h3
              replace h4 := Lib.hid h4
              replace h5 := Lib.hid h5
              replace h6 := Lib.hid h6
              replace h7 := Lib.hid h7
              replace h8 := Lib.hid h8
              replace h9 := Lib.hid h9
              replace h10 := Lib.hid h10
              obtain rfl := (h7.out (by simp [hd])).symm
              go_simp
              exact hK.out _ _ ⟨_, _, _, _, _, _, _, _, _, _, _, by ((simp only [putAll, Act.put, List.setIfInBounds_toArray, List.set_cons_zero, List.set_cons_succ]) <;> rfl), h0.out, h1.out, h2.out, h3.out, h4.out, h5.out, h6.out, h7.out, h8.out, (fun _ => rfl), h10.out, hm⟩
            refine Steps.cons (i := 10) rfl ?_ ?_
            · rintro L a u ⟨x0, x1, x2, x3, x4, x5, x6, x7, x8, x9, x10, rfl, h0, h1, h2, h3, h4, h5, h6, h7, h8, h9, h10, hm⟩ hi hd K hK
              simp only [putAll, Act.put, List.setIfInBounds_toArray, List.set_cons_zero, List.set_cons_succ]
              (try simp [Region.binds] at hd)
              replace h0 := Lib.hid h0
              replace h1 := Lib.hid h1
              replace h2 := Lib.hid h2
              replace h3 := Lib.hid h3
              replace h4 := Lib.hid h4
              replace h5 := Lib.hid h5
              replace h6 := Lib.hid h6
              replace h7 := Lib.hid h7
              replace h8 := Lib.hid h8
              replace h9 := Lib.hid h9
              replace h10 := Lib.hid h10
              obtain rfl := (h1.out (by simp [hd])).symm
              obtain rfl := (h2.out (by simp [hd])).symm
              go_simp
              exact hK.out _ _ ⟨_, _, _, _, _, _, _, _, _, _, _, by ((simp only [putAll, Act.put, List.setIfInBounds_toArray, List.set_cons_zero, List.set_cons_succ]) <;> rfl), h0.out, h1.out, h2.out, h3.out, h4.out, h5.out, h6.out, h7.out, h8.out, h9.out, (fun _ => rfl), hm⟩
            refine Steps.cons (i := 11) rfl ?_ ?_
            · rintro L a u ⟨x0, x1, x2, x3, x4, x5, x6, x7, x8, x9, x10, rfl, h0, h1, h2, h3, h4, h5, h6, h7, h8, h9, h10, hm⟩ hi hd K hK
              simp only [putAll, Act.put, List.setIfInBounds_toArray, List.set_cons_zero, List.set_cons_succ]
              (try simp [Region.binds] at hd)
              replace h0 := Lib.hid h0
              replace h1 := Lib.hid h1
              replace h2 := Lib.hid h2
              replace h3 := Lib.hid h3
              replace h4 := Lib.hid h4
              replace h5 := Lib.hid h5
              replace h6 := Lib.hid h6
              replace h7 := Lib.hid h7
              replace h8 := Lib.hid h8
              replace h9 := Lib.hid h9
              replace h10 := Lib.hid h10
              obtain rfl := (h8.out (by simp [hd])).symm
              obtain rfl := (h10.out (by simp [hd])).symm
              have hrd : L 6 = true := by simp [hd]
              have hbu := hm.at hi
              have ho := HO1.out u hbu
              have co := ho.1
              have fo := ho.2
              clear ho
              go_simp
              exact hK.out _ _ ⟨_, _, _, _, _, _, _, _, _, _, _, by ((simp only [putAll, Act.put, List.setIfInBounds_toArray, List.set_cons_zero, List.set_cons_succ]) <;> rfl), h0.out, h1.out, h2.out, h3.out, h4.out, h5.out, h6.out, h7.out, h8.out, h9.out, h10.out, (hm.store hi hrd)⟩
            · exact Steps.nil
            · rintro L a u ⟨x0, x1, x2, x3, x4, x5, x6, x7, x8, x9, x10, rfl, h0, h1, h2, h3, h4, h5, h6, h7, h8, h9, h10, hm⟩ hall
              simp only [putAll, Act.put, List.setIfInBounds_toArray, List.set_cons_zero, List.set_cons_succ]
              have HM := Lib.hid (hm.end' (hall 11 (by decide)))
              clear hm
              clear h0 h1 h2 h3 h4 h5 h6 h7 h8 h9 h10 hall
              obtain ⟨w7, hb7, rfl⟩ := HM.out
              have hL7 := (TL5.out.later ((Below.refl _ _).drew.trans hb7)).setB i HQBL.out yB
              have TL7 := Lib.hid hL7
              generalize w7.setCell ⟨gB, i, none⟩ (sv yB) = w8 at TL7 ⊢
              clear hb7 hL7 HM HQ1 HO1 KRD c1 TL5 TL hwr
              go_wp2_with fail
              go_roundg (8 - (i + 1))
              case measure => omega
              case rel => exact ⟨i + 1, _, _, by simp, by omega, HSA2, HSB2, TL7, by omega⟩
        · obtain rfl : i = 8 := by omega
          obtain rfl := HSAo.out.all
          obtain rfl := HSBo.out.all
          have q1 : ¬ (8 : Int) < 8 := by omega
          clear hkx hlt hi8
          go_upto_region 14 with (fail)
          obtain ⟨SA, hSA⟩ := loaded_ex (seg x.V 0 8)
          obtain ⟨SB, hSB⟩ := loaded_ex (seg x.V 8 8)
          have HLA := Lib.hid hSA
          have HLB := Lib.hid hSB
          have HBw := Lib.hid TL.out.b
          have HRD8 : Hid (Rd 8 (seg x.V 0 8) (seg x.V 8 8) SA SB) := ⟨hSA, hSB, seg_len (by rw [HVL.out]; omega), seg_len (by rw [HVL.out]; omega), by omega, by omega⟩
          clear hSA hSB
          by_cases hps : ∃ LL, Ps (lgS SA SB).T LL
          · obtain ⟨LL, hps⟩ := hps
            have KO1 := Lib.hid (TL.out.open_yes TT.out.ok TT.out.D HLA.out HLB.out hps)
            have HG0 : Hid (Gd 16 x (openW x 8 SA SB) (seg x.V 0 8) (seg x.V 8 8) LL) := gd_open (n := 16) TT.out.ok TT.out.F TT.out.D (by decide) (by decide) (by have := TT.out.P; omega) HLA.out HLB.out hps
            clear hps TL
            obtain ⟨M0, hM0⟩ : ∃ M, M = openW x 8 SA SB := ⟨_, rfl⟩
            rw [← hM0] at KO1 HG0
            obtain ⟨QA, hQA⟩ : ∃ Q, Q = seg x.V 0 8 := ⟨_, rfl⟩
            obtain ⟨QB, hQB⟩ : ∃ Q, Q = seg x.V 8 8 := ⟨_, rfl⟩
            rw [← hQA, ← hQB] at KO1 HG0
            clear hM0 hQA hQB HRD8 HLA HLB
            go_wp2_with fail
            refine KO1.out.mono ?_
            rintro e w4' ⟨b, r0, r1, rfl, hq4⟩
            have T4 := Lib.hid hq4
            have d0 : w4'.cell? ⟨qb, 0, none⟩ = some (.slice (some ⟨gA, 0, none⟩) 8 cA) := T4.out.q.cell 0
            have d1 : w4'.cell? ⟨qb, 1, none⟩ = some (.slice (some ⟨gB, 0, none⟩) 8 cB) := T4.out.q.cell 1
            have KTX := Lib.hid (cko hq4 HG0.out).rtx
            clear hq4 KO1
            go_wp2_with fail
            refine KTX.out.mono ?_
            rintro e w5 ⟨v5, rfl, hv5, hb5⟩
            have HV5 := Lib.hid hv5
            obtain ⟨a5, c5, rfl⟩ := lss_slice hv5
            have T5 := Lib.hid (T4.out.later hb5)
            clear hb5 hv5 d0 d1 KTX
            have HL4 := Lib.hid HG0.out.mem
            obtain ⟨ag, hag⟩ : ∃ ag, ag = M0.age := ⟨_, rfl⟩
            obtain ⟨rm, hrm⟩ : ∃ rm, rm = M0.room := ⟨_, rfl⟩
            have HK : Hid (∀ u, Below w5.heap.size w5 u → Cko (g := g) b (.slice (some ⟨gA, 0, none⟩) 8 cA) (.slice (some ⟨gB, 0, none⟩) 8 cB) LL ag rm u) := fun u hu => by rw [hag, hrm]; exact cko (T5.out.later hu) HG0.out
            have HKS : Hid (∀ u v, Below w5.heap.size w5 u → Lss w5.drew.heap.size u v LL → Calls Tryz.prog 15 #[v, .slice a5 LL.length c5] u fun e w' => e = .returned (.bool true) ∧ Below u.heap.size u w') := fun u v hu hv => by
              have := same06_c LL LL v _ _ _ u hv (HV5.out.later hu) (by have := HL4.out.1; omega) (by have := HL4.out.1; omega) (fun l hl => by have := HL4.out.2 l hl; omega) (fun l hl => by have := HL4.out.2 l hl; omega)
              rwa [decide_eq_true rfl] at this
            have HE0 : Hid (∀ u, Below w5.heap.size w5 u → u.cell? ⟨qb, 0, none⟩ = some (.slice (some ⟨gA, 0, none⟩) 8 cA)) := fun u hu => (T5.out.later hu).q.cell 0
            have HE1 : Hid (∀ u, Below w5.heap.size w5 u → u.cell? ⟨qb, 1, none⟩ = some (.slice (some ⟨gB, 0, none⟩) 8 cB)) := fun u hu => (T5.out.later hu).q.cell 1
            have HB0 : Hid (Below w5.heap.size w5 w5.drew) := (Below.refl _ _).drew
            have e05 := HE0.out _ (Below.refl _ _)
            have e15 := HE1.out _ (Below.refl _ _)
            clear hag hrm
            go_wp2_with fail
            go_region_held3 (fun u => u.cell? ⟨qb, 0, none⟩ = some (.slice (some ⟨gA, 0, none⟩) 8 cA) ∧ u.cell? ⟨qb, 1, none⟩ = some (.slice (some ⟨gB, 0, none⟩) 8 cB)) (go_keep) ((first | (go_at_call 16; refine ((HK.out _ HB0.out).txns).mono ?_; rintro e w6 ⟨v6, rfl, hv6, hb⟩; have HB6 : Hid (Below w5.heap.size w5 w6) := HB0.out.trans (hb.mono HB0.out.size); have HV6 := Lib.hid hv6; obtain ⟨a6, c6, rfl⟩ := lss_slice hv6; clear hv6; have e06 := HE0.out _ HB6.out; have e16 := HE1.out _ HB6.out; clear hb) | (go_at_call 15; refine (HKS.out _ _ HB6.out HV6.out).mono ?_; rintro e w7 ⟨rfl, hb⟩; have HB7 : Hid (Below w5.heap.size w5 w7) := HB6.out.trans (hb.mono HB6.out.size); have e07 := HE0.out _ HB7.out; have e17 := HE1.out _ HB7.out; clear hb) | (go_at_call 17; refine ((HK.out _ HB7.out).age).mono ?_; rintro e w8 ⟨rfl, hb⟩; have HB8 : Hid (Below w5.heap.size w5 w8) := HB7.out.trans (hb.mono HB7.out.size); have e08 := HE0.out _ HB8.out; have e18 := HE1.out _ HB8.out; clear hb) | (go_at_call 18; refine ((HK.out _ HB8.out).rage).mono ?_; rintro e w9 ⟨rfl, hb⟩; have HB9 : Hid (Below w5.heap.size w5 w9) := HB8.out.trans (hb.mono HB8.out.size); have e09 := HE0.out _ HB9.out; have e19 := HE1.out _ HB9.out; clear hb) | (go_at_call 19; refine ((HK.out _ HB9.out).room).mono ?_; rintro e w10 ⟨rfl, hb⟩; have HB10 : Hid (Below w5.heap.size w5 w10) := HB9.out.trans (hb.mono HB9.out.size); have e010 := HE0.out _ HB10.out; have e110 := HE1.out _ HB10.out; clear hb) | (go_at_call 20; refine ((HK.out _ HB10.out).rroom).mono ?_; rintro e w11 ⟨rfl, hb⟩; have HB11 : Hid (Below w5.heap.size w5 w11) := HB10.out.trans (hb.mono HB10.out.size); have e011 := HE0.out _ HB11.out; have e111 := HE1.out _ HB11.out; clear hb)))
            have T6 := Lib.hid (T5.out.later HB11.out)
            clear HK HKS HE0 HE1 HV5 T5 T4
            go_upto_region 20 with (fail)
            have HBO0 := Lib.hid (both_commit HG0.out HSMA.out)
            have KD0 : Hid (Calls Tryz.prog 10 #[.agg #[.slice (some ⟨gA, 0, none⟩) 8 cA, .slice (some ⟨gB, 0, none⟩) 8 cB], .slice a1 la.length cap1] w11 (RlRes w.heap.size (fun j => ((.slice (some ⟨gA, 0, none⟩) 8 cA) : Value).ownBlock = some j ∨ ((.slice (some ⟨gB, 0, none⟩) 8 cB) : Value).ownBlock = some j) (docPut QA QB (decide (M0.R0.S.first < M0.R1.S.first)) (lgS M0.R0.S M0.R1.S).e la).1 (docPut QA QB (decide (M0.R0.S.first < M0.R1.S.first)) (lgS M0.R0.S M0.R1.S).e la).2.1 (docPut QA QB (decide (M0.R0.S.first < M0.R1.S.first)) (lgS M0.R0.S M0.R1.S).e la).2.2 w11)) := rcommit_d T6.out.lg HG0.out.rd T6.out.b.size (fun j hj => hj) HSMA.out cap1 (HSA.out.later T6.out.b)
            obtain ⟨LA0, LB0, z0, hdoc⟩ : ∃ LA LB z, (docPut QA QB (decide (M0.R0.S.first < M0.R1.S.first)) (lgS M0.R0.S M0.R1.S).e la) = (LA, LB, z) := ⟨_, _, _, rfl⟩
            rw [hdoc] at KD0 HBO0
            have KE0 : Hid (Calls Tryz.prog 10 #[.agg #[.slice (some ⟨gA, 0, none⟩) 8 cA, .slice (some ⟨gB, 0, none⟩) 8 cB], .slice a1 la.length cap1] w11 (RlRes w.heap.size (fun j => ((.slice (some ⟨gA, 0, none⟩) 8 cA) : Value).ownBlock = some j ∨ ((.slice (some ⟨gB, 0, none⟩) 8 cB) : Value).ownBlock = some j) LA0 LB0 z0 w11)) := KD0.out
            have d0 : w11.cell? ⟨qb, 0, none⟩ = some (.slice (some ⟨gA, 0, none⟩) 8 cA) := T6.out.q.cell 0
            have d1 : w11.cell? ⟨qb, 1, none⟩ = some (.slice (some ⟨gB, 0, none⟩) 8 cB) := T6.out.q.cell 1
            clear hdoc KD0
            go_wp2_with fail
            refine KE0.out.mono ?_
            rintro e wd0 ⟨vA0, vB0, rfl, hlg, hp, hb⟩
            obtain ⟨aA0, cA0, rfl⟩ := own_slice hlg.a
            obtain ⟨aB0, cB0, rfl⟩ := own_slice hlg.b
            have HQ0 := Lib.hid (T6.out.doc hb hlg hp)
            have hrw := T6.out.q.later hb
            have o0 : wd0.cell? ⟨qb, 0, none⟩ = some (.slice (some ⟨gA, 0, none⟩) 8 cA) := hrw.cell 0
            have o1 : wd0.cell? ⟨qb, 1, none⟩ = some (.slice (some ⟨gB, 0, none⟩) 8 cB) := hrw.cell 1
            have f0 := hrw.frozen 0
            have f1 := hrw.frozen 1
            clear hlg hp hb hrw KE0 d0 d1
            obtain ⟨C0, hC⟩ : ∃ C, C = commitW M0 x la := ⟨_, rfl⟩
            have KC0 := Lib.hid (HQ0.out.code (f := 11) (s := .slice a1 la.length cap1) (C := C0) (fun U ht => by rw [hC]; exact commit_c ht HG0.out.wf HSMA.out cap1 (HSA.out.later HQ0.out.b)))
            rw [← hC] at HBO0
            rw [HBO0.out.z] at KC0
            obtain ⟨M0', x0, zz0⟩ := C0
            clear hC
            go_wp2_with fail
            refine KC0.out.mono ?_
            rintro e we0 ⟨rfl, hq⟩
            have T0 := Lib.hid hq
            obtain ⟨LL0, hg⟩ := HBO0.out.g
            have HG1 := Lib.hid hg
            clear hq hg KC0 HQ0 HBO0 o0 o1 f0 f1
            have HBO1 := Lib.hid (both_save HG1.out HSMB.out)
            have KD1 : Hid (Calls Tryz.prog 12 #[.agg #[.slice aA0 LA0.length cA0, .slice aB0 LB0.length cB0], .slice a2 lb.length cap2] we0 (RlRes w.heap.size (fun j => ((.slice aA0 LA0.length cA0) : Value).ownBlock = some j ∨ ((.slice aB0 LB0.length cB0) : Value).ownBlock = some j) (docPut LA0 LB0 (!decide (M0'.R0.S.first < M0'.R1.S.first) && decide (0 < (lgS M0'.R0.S M0'.R1.S).first)) 0 lb).1 (docPut LA0 LB0 (!decide (M0'.R0.S.first < M0'.R1.S.first) && decide (0 < (lgS M0'.R0.S M0'.R1.S).first)) 0 lb).2.1 (docPut LA0 LB0 (!decide (M0'.R0.S.first < M0'.R1.S.first) && decide (0 < (lgS M0'.R0.S M0'.R1.S).first)) 0 lb).2.2 we0)) := rsave_d T0.out.lg HG1.out.rd T0.out.b.size (fun j hj => hj) HSMB.out cap2 (HSB.out.later T0.out.b)
            obtain ⟨LA1, LB1, z1, hdoc⟩ : ∃ LA LB z, (docPut LA0 LB0 (!decide (M0'.R0.S.first < M0'.R1.S.first) && decide (0 < (lgS M0'.R0.S M0'.R1.S).first)) 0 lb) = (LA, LB, z) := ⟨_, _, _, rfl⟩
            rw [hdoc] at KD1 HBO1
            have KE1 : Hid (Calls Tryz.prog 12 #[.agg #[.slice aA0 LA0.length cA0, .slice aB0 LB0.length cB0], .slice a2 lb.length cap2] we0 (RlRes w.heap.size (fun j => ((.slice aA0 LA0.length cA0) : Value).ownBlock = some j ∨ ((.slice aB0 LB0.length cB0) : Value).ownBlock = some j) LA1 LB1 z1 we0)) := KD1.out
            have d0 : we0.cell? ⟨qb, 0, none⟩ = some (.slice aA0 LA0.length cA0) := T0.out.q.cell 0
            have d1 : we0.cell? ⟨qb, 1, none⟩ = some (.slice aB0 LB0.length cB0) := T0.out.q.cell 1
            clear hdoc KD1
            go_wp2_with fail
            refine KE1.out.mono ?_
            rintro e wd1 ⟨vA1, vB1, rfl, hlg, hp, hb⟩
            obtain ⟨aA1, cA1, rfl⟩ := own_slice hlg.a
            obtain ⟨aB1, cB1, rfl⟩ := own_slice hlg.b
            have HQ1 := Lib.hid (T0.out.doc hb hlg hp)
            have hrw := T0.out.q.later hb
            have o0 : wd1.cell? ⟨qb, 0, none⟩ = some (.slice aA0 LA0.length cA0) := hrw.cell 0
            have o1 : wd1.cell? ⟨qb, 1, none⟩ = some (.slice aB0 LB0.length cB0) := hrw.cell 1
            have f0 := hrw.frozen 0
            have f1 := hrw.frozen 1
            clear hlg hp hb hrw KE1 d0 d1
            obtain ⟨C1, hC⟩ : ∃ C, C = saveW M0' x0 lb := ⟨_, rfl⟩
            have KC1 := Lib.hid (HQ1.out.code (f := 13) (s := .slice a2 lb.length cap2) (C := C1) (fun U ht => by rw [hC]; exact save_c ht HG1.out.wf HSMB.out cap2 (HSB.out.later HQ1.out.b)))
            rw [← hC] at HBO1
            rw [HBO1.out.z] at KC1
            obtain ⟨M1, x1, zz1⟩ := C1
            clear hC
            go_wp2_with fail
            refine KC1.out.mono ?_
            rintro e we1 ⟨rfl, hq⟩
            have T1 := Lib.hid hq
            obtain ⟨LL1, hg⟩ := HBO1.out.g
            have HG2 := Lib.hid hg
            clear hq hg KC1 HQ1 HBO1 o0 o1 f0 f1
            have KTX2 := Lib.hid (cko T1.out HG2.out).rtx
            have d0 : we1.cell? ⟨qb, 0, none⟩ = some (.slice aA1 LA1.length cA1) := T1.out.q.cell 0
            have d1 : we1.cell? ⟨qb, 1, none⟩ = some (.slice aB1 LB1.length cB1) := T1.out.q.cell 1
            go_wp2_with fail
            refine KTX2.out.mono ?_
            rintro e w8 ⟨v8, rfl, hv8, hb8⟩
            have HV8 := Lib.hid hv8
            obtain ⟨a8, c8, rfl⟩ := lss_slice hv8
            have T8 := Lib.hid (T1.out.later hb8)
            clear hb8 hv8 d0 d1 KTX2
            have KT8 := Lib.hid (cko T8.out HG2.out).txns
            go_wp2_with fail
            refine KT8.out.mono ?_
            rintro e w9 ⟨v9, rfl, hv9, hb9⟩
            have T9 := Lib.hid (T8.out.later hb9)
            have HM9 := Lib.hid HG2.out.mem
            have HV9 := Lib.hid (HV8.out.later hb9)
            have KS9 : Hid (Calls Tryz.prog 15 #[v9, .slice a8 LL1.length c8] w9 fun e w' => e = .returned (.bool true) ∧ Below w9.heap.size w9 w') := by
              have := same06_c LL1 LL1 v9 _ _ _ w9 hv9 HV9.out (by have := HM9.out.1; omega) (by have := HM9.out.1; omega) (fun l hl => by have := HM9.out.2 l hl; omega) (fun l hl => by have := HM9.out.2 l hl; omega)
              rwa [decide_eq_true rfl] at this
            obtain ⟨a9, c9, rfl⟩ := lss_slice hv9
            clear hv9 hb9 KT8
            go_wp2_with fail
            refine KS9.out.mono ?_
            rintro e w10' ⟨rfl, hb10⟩
            have T10 := Lib.hid (T9.out.later hb10)
            have KM10 := Lib.hid (cko T10.out HG2.out).same
            have d0 : w10'.cell? ⟨qb, 0, none⟩ = some (.slice aA1 LA1.length cA1) := T10.out.q.cell 0
            have d1 : w10'.cell? ⟨qb, 1, none⟩ = some (.slice aB1 LB1.length cB1) := T10.out.q.cell 1
            clear hb10 KS9
            go_wp2_with fail
            refine KM10.out.mono ?_
            rintro e w11' ⟨rfl, hb11⟩
            have T11 := Lib.hid (T10.out.later hb11)
            have KH := Lib.hid (head_c w11')
            clear hb11 KM10 d0 d1
            go_wp2_with fail
            refine KH.out.mono ?_
            rintro e w12' ⟨rfl, hb12⟩
            have HBE : Hid (Below w.heap.size w w12') := T11.out.b.trans (hb12.mono T11.out.b.size)
            clear hb12
            go_wp2_with fail
            go_ret
            exact ⟨rfl, HBE.out⟩
          · have KO2 := Lib.hid (TL.out.open_no TT.out.ok TT.out.D HLA.out HLB.out hps)
            have HNO : Hid (∀ LL, ¬ Ps (lgS SA SB).T LL) := fun LL h => hps ⟨LL, h⟩
            have HTL : Hid (∀ t ∈ (lgS SA SB).T, t.length ≤ 98304) := HRD8.out.l.r.fine.t
            clear hps TL
            go_wp2_with fail
            refine KO2.out.mono ?_
            rintro e w4' ⟨rfl, hlg, hrw, hb⟩
            have HB4 := Lib.hid hb
            have KTX := Lib.hid (rtxns_c hlg HRD8.out HTL.out)
            have d0 : w4'.cell? ⟨qb, 0, none⟩ = some (.slice (some ⟨gA, 0, none⟩) 8 cA) := hrw.cell 0
            have d1 : w4'.cell? ⟨qb, 1, none⟩ = some (.slice (some ⟨gB, 0, none⟩) 8 cB) := hrw.cell 1
            clear hlg hrw hb KO2
            go_wp2_with fail
            refine KTX.out.mono ?_
            rintro e w5 ⟨hb5, hr5⟩
            rcases hr5 with ⟨LL, _, hps, _⟩ | ⟨_, rfl⟩
            · exact absurd hps (HNO.out LL)
            have HB5 : Hid (Below w.heap.size w w5) := HB4.out.trans (hb5.mono HB4.out.size)
            have KH := Lib.hid (head_c w5)
            clear hb5 d0 d1 KTX
            go_wp2_with fail
            refine KH.out.mono ?_
            rintro e w12' ⟨rfl, hb12⟩
            have HBE : Hid (Below w.heap.size w w12') := HB5.out.trans (hb12.mono HB5.out.size)
            clear hb12
            go_wp2_with fail
            go_ret
            exact ⟨rfl, HBE.out⟩
    go_wp2_with fail
    go_loopg [9] 16 (fun kx s9 wr => ∃ (i : Nat) (x : Dr), s9 = .int .i64 (i : Int) ∧ i ≤ 16 ∧ i ≤ L.length ∧ Hid (Wd (fun j => w.heap.size ≤ j) wr g x i) ∧ Hid (Below w.heap.size w wr) ∧ 16 ≤ i + kx)
    case atStart => exact ⟨0, _, rfl, by omega, by omega, T0, HB2, by omega⟩
    case round =>
      clear T0 HB2
      obtain ⟨i, x, rfl, hi16, hiL, TT, HB, hkx⟩ := hrel
      by_cases hlt : i < L.length ∧ i < 16
      · obtain ⟨hlt, hlt2⟩ := hlt
        obtain ⟨b, off, rfl, hbl, hcw⟩ := HL.out i hlt
        have hc := (HB.out.cell (p := ⟨b, off + i, none⟩) hbl).trans hcw
        have HBL := Lib.hid hbl
        have hsz := HSZ.out L[i] (List.getElem_mem hlt)
        obtain ⟨y, hy⟩ : ∃ y, L[i]'hlt = y := ⟨_, rfl⟩
        replace hc : wr.cell? ⟨b, off + i, none⟩ = some (.string y) := by rw [hc, ← hy]
        replace hcw : w.cell? ⟨b, off + i, none⟩ = some (.string y) := by rw [hcw, ← hy]
        replace hsz : y.size ≤ 9223372036854775807 := by rw [← hy]; exact hsz
        have HCW := Lib.hid hcw
        clear hcw
        have q0 : (0 : Int) ≤ (i : Int) := by omega
        have q1 : (i : Int) < (L.length : Int) := by omega
        have q2 : (i : Int) < 16 := by omega
        obtain ⟨m, hm⟩ : ∃ m : Nat, m = min y.size 64 := ⟨_, rfl⟩
        have hm1 : m ≤ y.size := by omega
        have hm64 : m ≤ 64 := by omega
        have e1 : min (y.size : Int) 64 = (m : Int) := by omega
        have E1 := Lib.hid e1
        have KW : Hid (∀ u : World, Below wr.heap.size wr u → Calls Tryz.prog 25 #[.pointer (some ⟨g, 0, Option.none⟩), .int .i64 (i : Int), .string (y.extract 0 m)] u fun e w' => e = .returned (.int .i64 0) ∧ (∃ x', Wd (fun j => w.heap.size ≤ j) w' g x' (i + 1)) ∧ Below w.heap.size w w') := fun u hu => by
          have t := TT.out
          have hs := HB.out.size
          refine (Wd.write (S := fun j => w.heap.size ≤ j) ⟨t.os.later hu, t.ok, t.F, t.D, t.P⟩ i hlt2 (y.extract 0 m) (by simp; omega) (by omega)).mono fun e w' hr => ⟨hr.1, ?_, ?_⟩
          · obtain ⟨x', h⟩ := hr.2.1
            exact ⟨x', h.os.mono fun j hj => hj.elim id fun hj => Nat.le_trans hs (Nat.le_trans hu.size hj), h.ok, h.F, h.D, h.P⟩
          · exact (HB.out.trans (hu.mono hs)).trans (hr.2.2.below (fun j hj => hj) (Nat.le_trans hs hu.size))
        clear hy hm e1 hbl
        go_upto_region 7 with (fail)
        have e1 := E1.out
        have e2 : (0 : Int) ≤ (m : Int) := by omega
        have e3 : (m : Int) ≤ (y.size : Int) := by omega
        go_region_held3 (fun u => u.cell? ⟨b, off + i, none⟩ = some (.string y)) (go_keep) ((go_at_call 25; refine (KW.out _ ((Below.refl _ _).drew)).mono ?_; rintro e w' ⟨rfl, hx', hb'⟩; have HX := Lib.hid hx'; have HB5 := Lib.hid hb'; clear hx' hb'; have c' := (HB5.out.cell (p := ⟨b, off + i, none⟩) HBL.out).trans HCW.out))
        obtain ⟨x', hx'⟩ := HX.out
        have TT2 := Lib.hid hx'
        clear hx' hc c' e1 e2 e3
        go_wp2_with fail
        go_roundg (16 - (i + 1))
        case measure => omega
        case rel => exact ⟨i + 1, x', by simp, by omega, by omega, TT2, HB5, by omega⟩
      · have HWD : Hid (Wd (fun j => w.heap.size ≤ j) wr g x 16) := ⟨TT.out.os, TT.out.ok, TT.out.F, TT.out.D, Nat.le_trans TT.out.P hi16⟩
        clear TT
        by_cases e : i < L.length
        · obtain rfl : i = 16 := by omega
          have q1 : (16 : Int) < (L.length : Int) := by omega
          clear hkx hlt e hiL hi16
          go_wp2_with fail
          go_meet
          exact ⟨x, HWD, HB⟩
        · have q1 : ¬ (i : Int) < (L.length : Int) := by omega
          clear hkx hlt e hiL hi16
          go_wp2_with fail
          go_meet
          exact ⟨x, HWD, HB⟩
end Go.Proofs.YtbbnpcldplmgfaaGreatDoor.Wl
end
