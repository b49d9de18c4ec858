/- Package quittanceref06: Save, by definition. -/
import Derived.Test.YtbbnpcldplmgfaaGreatDoorWlCom
import Derived.Test.YtbbnpcldplmgfaaGreatDoorRgE
namespace Go.Proofs.YtbbnpcldplmgfaaGreatDoor.Wl
open Go Go.RowKit Dv Rf Shf Rk
open Tal (Strs bas)
/-- Where the call of put stands, in any order. -/
structure Sv (base : Nat) (P : Nat → Prop) (w : World) (a b vA vB : Value) (A B : List Rk.Sec) (l10 l11 l13 : Bool) (u : World) : Prop where
  q : Rw u w.heap.size TLg [a, b]
  o : Rw u (w.heap.size + 1) TLg (cond l13 [vA, vB] [.slice none 0 0, .slice none 0 0])
  b : Below w.heap.size w u
  g : l10 = true → Lg base u vA vB A B
  p : l10 = true → ∀ j, vA.ownBlock = some j ∨ vB.ownBlock = some j → P j ∨ w.heap.size ≤ j
  m1 : l11 = true → l10 = true
  m3 : l13 = true → l11 = true
section
variable {base : Nat} {P : Nat → Prop} {w u u' : World} {a b vA vB : Value} {A B : List Rk.Sec} {l10 l11 l13 : Bool}
theorem Sv.start (h : Bxs w u a b) : Sv base P w a b vA vB A B false false false u := ⟨h.q, h.o, h.b, fun h => (by cases h), fun h => (by cases h), fun h => (by cases h), fun h => (by cases h)⟩
theorem Sv.later (h : Sv base P w a b vA vB A B l10 l11 l13 u) (k : Below u.heap.size u u') : Sv base P w a b vA vB A B l10 l11 l13 u' := ⟨h.q.later k, h.o.later k, h.b.trans (k.mono h.b.size), fun e => (h.g e).later k, h.p, h.m1, h.m3⟩
theorem Sv.did (h : Sv base P w a b vA vB A B l10 l11 l13 u) (hi : l10 = false) {x y : Value} (hl : Lg base u' x y A B) (hp : ∀ j, x.ownBlock = some j ∨ y.ownBlock = some j → P j ∨ u.heap.size ≤ j) (k : Below u.heap.size u u') : Sv base P w a b x y A B true l11 l13 u' := by
  have e1 : l11 = false := by cases l11; rfl; have := h.m1 rfl; rw [hi] at this; cases this
  have e3 : l13 = false := by cases l13; rfl; have := h.m3 rfl; rw [e1] at this; cases this
  have ho := h.o
  rw [e3] at ho
  subst e1 e3
  exact ⟨h.q.later k, ho.later k, h.b.trans (k.mono h.b.size), fun _ => hl, fun _ j hj => (hp j hj).imp id fun hh => Nat.le_trans h.b.size hh, fun h => (by cases h), fun h => (by cases h)⟩
theorem Sv.o0 (h : Sv base P w a b vA vB A B l10 l11 l13 u) (e : l13 = false) : u.cell? ⟨w.heap.size + 1, 0, none⟩ = some (.slice none 0 0) := by have := h.o; rw [e] at this; exact this.cell 0
theorem Sv.o1 (h : Sv base P w a b vA vB A B l10 l11 l13 u) (e : l13 = false) : u.cell? ⟨w.heap.size + 1, 1, none⟩ = some (.slice none 0 0) := by have := h.o; rw [e] at this; exact this.cell 1
theorem Sv.end' (h : Sv base P w a b vA vB A B l10 l11 l13 u) (e : l13 = true) : Rw u (w.heap.size + 1) TLg [vA, vB] ∧ Lg base u vA vB A B ∧ (∀ j, vA.ownBlock = some j ∨ vB.ownBlock = some j → P j ∨ w.heap.size ≤ j) ∧ Below w.heap.size w u := by
  subst e
  exact ⟨h.o, h.g (h.m1 (h.m3 rfl)), h.p (h.m1 (h.m3 rfl)), h.b⟩
theorem Sv.take (h : Sv base P w a b vA vB A B l10 l11 l13 u) (e : l10 = true) : Sv base P w a b vA vB A B l10 true l13 u := ⟨h.q, h.o, h.b, h.g, h.p, fun _ => e, fun _ => rfl⟩
theorem Sv.store (h : Sv base P w a b vA vB A B l10 l11 l13 u) (e3 : l13 = false) (e : l11 = true) : Sv base P w a b vA vB A B l10 l11 true ((u.setCell ⟨w.heap.size + 1, 0, none⟩ vA).setCell ⟨w.heap.size + 1, 1, none⟩ vB) := by
  subst e3
  have hx : Bxs w u a b := ⟨h.q, h.o, h.b⟩
  exact ⟨(h.q.otherCell _ 0 _ (by omega)).otherCell _ 1 _ (by omega), (h.o.setCell 0 vA).setCell 1 vB, hx.put _ _, fun e => ⟨hx.own (h.g e).a _ _, hx.own (h.g e).b _ _⟩, h.p, h.m1, fun _ => e⟩
end
set_option maxRecDepth 100000 in
set_option maxHeartbeats 3200000 in
theorem rsave_no {base : Nat} {P : Nat → Prop} {w : World} {vA vB : Value} {A B : List Rk.Sec} {SA SB : Ld} {n : Nat} (h : Lg base w vA vB A B) (hr : Rd n A B SA SB) (hP : ∀ j, vA.ownBlock = some j ∨ vB.ownBlock = some j → P j) {l : List Rk.Sec} (hl : Small l) {ad : Option Addr} (c : Nat) (hs : Strs w ad (bas l))
    (hT9 : 9223372036854775807 ≤ max (Sf.top A) (Sf.top B)) :
    Calls Tryz.prog 12 #[.agg #[vA, vB], .slice ad l.length c] w (RlRes base P A B 6 w) := by
  have H := Lib.hid h
  have KM : Hid (∀ u, Below w.heap.size w u → Calls Tryz.prog 36 #[.agg #[vA, vB], .slice ad l.length c] u fun e w' => e = .returned (.int .i64 6) ∧ Below u.heap.size u w') := fun u hu => by
    have := may_c (H.out.later hu) hr hl c (hs.later hu)
    unfold mayM at this
    rwa [if_pos hT9] at this
  obtain ⟨aA, cA, rfl⟩ := own_len h.a hr.la
  obtain ⟨aB, cB, rfl⟩ := own_len h.b hr.lb
  have X0 := Lib.hid (Bxs.new w (.slice aA n cA) (.slice aB n cB))
  have HP0 := Lib.hid hP
  clear h hr hl hs hT9 hP
  go_enter Tryz.func12, Tryz.ntmps12
  go_wp2_with fail
  generalize (w.alloc (.cells #[.slice aA n cA, .slice aB n cB] TLg)).alloc (.cells #[.slice none 0 0, .slice none 0 0] TLg) = w0 at *
  refine (KM.out _ X0.out.b).mono ?_
  rintro e w3 ⟨rfl, hb⟩
  have X3 := Lib.hid (X0.out.later hb)
  have q0 : w3.cell? ⟨w.heap.size, 0, none⟩ = some (.slice aA n cA) := X3.out.q.cell 0
  have q1 : w3.cell? ⟨w.heap.size, 1, none⟩ = some (.slice aB n cB) := X3.out.q.cell 1
  have o0 : w3.cell? ⟨w.heap.size + 1, 0, none⟩ = some (.slice none 0 0) := X3.out.o.cell 0
  have o1 : w3.cell? ⟨w.heap.size + 1, 1, none⟩ = some (.slice none 0 0) := X3.out.o.cell 1
  have f0 := X3.out.o.frozen 0
  have f1 := X3.out.o.frozen 1
  clear hb
  go_wp2_with fail
  have HRW : Hid (Rw ((w3.setCell ⟨w.heap.size + 1, 0, none⟩ (.slice aA n cA)).setCell ⟨w.heap.size + 1, 1, none⟩ (.slice aB n cB)) (w.heap.size + 1) TLg [.slice aA n cA, .slice aB n cB]) := (X3.out.o.setCell 0 _).setCell 1 _
  have HBW : Hid (Below w.heap.size w ((w3.setCell ⟨w.heap.size + 1, 0, none⟩ (.slice aA n cA)).setCell ⟨w.heap.size + 1, 1, none⟩ (.slice aB n cB))) := X3.out.put _ _
  generalize (w3.setCell ⟨w.heap.size + 1, 0, none⟩ (.slice aA n cA)).setCell ⟨w.heap.size + 1, 1, none⟩ (.slice aB n cB) = W at HRW HBW ⊢
  have r0 : W.cell? ⟨w.heap.size + 1, 0, none⟩ = some (.slice aA n cA) := HRW.out.cell 0
  have r1 : W.cell? ⟨w.heap.size + 1, 1, none⟩ = some (.slice aB n cB) := HRW.out.cell 1
  refine bodyPost_ret (v := .tuple #[.agg #[.slice aA n cA, .slice aB n cB], .int .i64 6]) (by simp [results, Tryz.results12, go_sem, r0, r1]) rfl ?_
  exact ⟨_, _, rfl, H.out.later HBW.out, fun j hj => .inl (HP0.out j hj), HBW.out⟩
set_option maxRecDepth 100000 in
set_option maxHeartbeats 3200000 in
theorem rsave_go {base : Nat} {P : Nat → Prop} {w : World} {vA vB : Value} {A B : List Rk.Sec} {SA SB : Ld} {n : Nat} (h : Lg base w vA vB A B) (hr : Rd n A B SA SB) (hbase : base ≤ w.heap.size) (hP : ∀ j, vA.ownBlock = some j ∨ vB.ownBlock = some j → P j) {l : List Rk.Sec} (hl : Small l) {ad : Option Addr} (c : Nat) (hs : Strs w ad (bas l)) (b : Bool) (hb0 : b = (!decide (SA.first < SB.first) && decide (0 < (lgS SA SB).first))) 
    (T : Nat) (hT : T = max (Sf.top A) (Sf.top B)) (hT9 : T < 9223372036854775807) (N : List Rk.Sec) (z : Int) (hN : rputM (pick b A B) 0 (T + 1) (Tal.row (bas l)) = (N, z)) :
    Calls Tryz.prog 12 #[.agg #[vA, vB], .slice ad l.length c] w (RlRes base P (if b then A else N) (if b then N else B) z w) := by
  have H := Lib.hid h
  have KM : Hid (∀ u, Below w.heap.size w u → Calls Tryz.prog 36 #[.agg #[vA, vB], .slice ad l.length c] u fun e w' => e = .returned (.int .i64 0) ∧ Below u.heap.size u w') := fun u hu => by
    have := may_c (H.out.later hu) hr hl c (hs.later hu)
    unfold mayM at this
    rwa [if_neg (by omega)] at this
  have KS : Hid (∀ u, Below w.heap.size w u → Calls Tryz.prog 40 #[.agg #[vA, vB]] u fun e w' => e = .returned (.bool (decide (SA.first < SB.first))) ∧ Below u.heap.size u w') := fun u hu => second_c (H.out.later hu) hr
  have KG : Hid (∀ u, Below w.heap.size w u → Calls Tryz.prog 18 #[.agg #[vA, vB]] u fun e w' => e = .returned (.int .u64 ((lgS SA SB).first : Int)) ∧ Below u.heap.size u w') := fun u hu => rage_c (H.out.later hu) hr
  obtain ⟨A', hA'⟩ : ∃ A', A' = if b then A else N := ⟨_, rfl⟩
  obtain ⟨B', hB'⟩ : ∃ B', B' = if b then N else B := ⟨_, rfl⟩
  have KP : Hid (∀ u, Below w.heap.size w u → Calls Tryz.prog 39 #[.agg #[vA, vB], .bool b, .int .i64 0, .slice ad l.length c] u (RlRes base P A' B' z u)) := fun u hu => by
    rw [hA', hB']
    exact put_o (H.out.later hu) hr (Nat.le_trans hbase hu.size) hP hl c (hs.later hu) b 0 (Nat.zero_le _) T hT hT9 N z hN
  rw [← hA', ← hB']
  obtain ⟨aA, cA, rfl⟩ := own_len h.a hr.la
  obtain ⟨aB, cB, rfl⟩ := own_len h.b hr.lb
  have X0 := Lib.hid (Bxs.new w (.slice aA n cA) (.slice aB n cB))
  obtain ⟨fst, hfst⟩ : ∃ fst : Nat, fst = (lgS SA SB).first := ⟨_, rfl⟩
  rw [← hfst] at KG hb0
  obtain ⟨d, hd⟩ : ∃ d, d = decide (SA.first < SB.first) := ⟨_, rfl⟩
  rw [← hd] at KS hb0
  have HB0 := Lib.hid hb0
  clear h hr hl hs hT hT9 hbase hP hb0 hA' hB' hN hfst hd
  go_enter Tryz.func12, Tryz.ntmps12
  go_wp2_with fail
  generalize (w.alloc (.cells #[.slice aA n cA, .slice aB n cB] TLg)).alloc (.cells #[.slice none 0 0, .slice none 0 0] TLg) = w0 at *
  refine (KM.out _ X0.out.b).mono ?_
  rintro e w1 ⟨rfl, hb⟩
  have X1 := Lib.hid (X0.out.later hb)
  clear hb
  go_wp2_with fail
  have S0 : Hid (Sv base P w (.slice aA n cA) (.slice aB n cB) (.slice none A'.length 0) (.slice none B'.length 0) A' B' false false false w1.drew) := Sv.start (X1.out.later (Below.refl _ _).drew)
  cases d with
  | true =>
    have KP1 : Hid (∀ u, Below w.heap.size w u → Calls Tryz.prog 39 #[.agg #[.slice aA n cA, .slice aB n cB], .bool false, .int .i64 0, .slice ad l.length c] u (RlRes base P A' B' z u)) := by have := KP.out; rwa [HB0.out] at this
    clear HB0 KP
    refine wp_region_inv (I := (fun A0 L a u => ∃ (aA' : Option Addr) (cA' : Nat) (aB' : Option Addr) (cB' : Nat) (x0 x1 x2 x3 x4 x5 x6 x7 x8 x9 x10 x11 x12 x14 : Value), a = putAll A0 [(14, x0), (15, x1), (16, x2), (17, x3), (18, x4), (19, x5), (20, x6), (21, x7), (22, x8), (23, x9), (24, x10), (25, x11), (26, x12), (5, x14)] ∧ (L 0 = true → x0 = (.agg #[.slice aA n cA, .slice aB n cB])) ∧ (L 1 = true → x1 = (.agg #[.slice aA n cA, .slice aB n cB])) ∧ (L 2 = true → x2 = (.bool true)) ∧ (L 3 = true → x3 = (.bool false)) ∧ (L 4 = true → x4 = (.bool false)) ∧ (L 5 = true → x5 = undef) ∧ (L 6 = true → x6 = undef) ∧ (L 7 = true → x7 = undef) ∧ (L 8 = true → x8 = (.bool false)) ∧ (L 9 = true → x9 = (.slice ad l.length c)) ∧ (L 10 = true → x10 = (.tuple #[.agg #[.slice aA' A'.length cA', .slice aB' B'.length cB'], .int .i64 z])) ∧ (L 11 = true → x11 = (.agg #[.slice aA' A'.length cA', .slice aB' B'.length cB'])) ∧ (L 12 = true → x12 = (.int .i64 z)) ∧ (L 14 = true → x14 = (.int .i64 z)) ∧ Sv base P w (.slice aA n cA) (.slice aB n cB) (.slice aA' A'.length cA') (.slice aB' B'.length cB') A' B' (L 10) (L 11) (L 13) u)) (by kernel_rfl) (by kernel_rfl) ?_ ?_ ?_
    · intro L hL
      exact ⟨none, 0, none, 0, _, _, _, _, _, _, _, _, _, _, _, _, _, _, by (simp only [putAll, Act.put, List.setIfInBounds_toArray, List.set_cons_zero, List.set_cons_succ]; rfl), (fun h => absurd h (by rw [hL 0 (by decide)]; decide)), (fun h => absurd h (by rw [hL 1 (by decide)]; decide)), (fun h => absurd h (by rw [hL 2 (by decide)]; decide)), (fun h => absurd h (by rw [hL 3 (by decide)]; decide)), (fun h => absurd h (by rw [hL 4 (by decide)]; decide)), (fun h => absurd h (by rw [hL 5 (by decide)]; decide)), (fun h => absurd h (by rw [hL 6 (by decide)]; decide)), (fun h => absurd h (by rw [hL 7 (by decide)]; decide)), (fun h => absurd h (by rw [hL 8 (by decide)]; decide)), (fun h => absurd h (by rw [hL 9 (by decide)]; decide)), (fun h => absurd h (by rw [hL 10 (by decide)]; decide)), (fun h => absurd h (by rw [hL 11 (by decide)]; decide)), (fun h => absurd h (by rw [hL 12 (by decide)]; decide)), (fun h => absurd h (by rw [hL 14 (by decide)]; decide)), by rw [hL 10 (by decide), hL 11 (by decide), hL 13 (by decide)]; exact S0.out⟩
    refine Steps.cons (i := 0) rfl ?_ ?_
    · rintro L a u ⟨aA', cA', aB', cB', x0, x1, x2, x3, x4, x5, x6, x7, x8, x9, x10, x11, x12, x14, rfl, h0, h1, h2, h3, h4, h5, h6, h7, h8, h9, h10, h11, h12, h14, hm⟩ hi hd K hK
      simp only [putAll, Act.put, List.setIfInBounds_toArray, List.set_cons_zero, List.set_cons_succ]
      (try simp [Region.binds] at hd)
      replace h0 := Lib.hid h0
      replace h1 := Lib.hid h1
      replace h2 := Lib.hid h2
      replace h3 := Lib.hid h3
      replace h4 := Lib.hid h4
      replace h5 := Lib.hid h5
      replace h6 := Lib.hid h6
      replace h7 := Lib.hid h7
      replace h8 := Lib.hid h8
      replace h9 := Lib.hid h9
      replace h10 := Lib.hid h10
      replace h11 := Lib.hid h11
      replace h12 := Lib.hid h12
      replace h14 := Lib.hid h14
      have c0 : u.cell? ⟨w.heap.size, 0, none⟩ = some (.slice aA n cA) := hm.q.cell 0
      have c1 : u.cell? ⟨w.heap.size, 1, none⟩ = some (.slice aB n cB) := hm.q.cell 1
      go_simp
      exact hK.out _ _ ⟨aA', cA', aB', cB', _, _, _, _, _, _, _, _, _, _, _, _, _, _, by ((simp only [putAll, Act.put, List.setIfInBounds_toArray, List.set_cons_zero, List.set_cons_succ]) <;> rfl), (fun _ => rfl), h1.out, h2.out, h3.out, h4.out, h5.out, h6.out, h7.out, h8.out, h9.out, h10.out, h11.out, h12.out, h14.out, hm⟩
    refine Steps.cons (i := 1) rfl ?_ ?_
    · rintro L a u ⟨aA', cA', aB', cB', x0, x1, x2, x3, x4, x5, x6, x7, x8, x9, x10, x11, x12, x14, rfl, h0, h1, h2, h3, h4, h5, h6, h7, h8, h9, h10, h11, h12, h14, hm⟩ hi hd K hK
      simp only [putAll, Act.put, List.setIfInBounds_toArray, List.set_cons_zero, List.set_cons_succ]
      (try simp [Region.binds] at hd)
      replace h0 := Lib.hid h0
      replace h1 := Lib.hid h1
      replace h2 := Lib.hid h2
      replace h3 := Lib.hid h3
      replace h4 := Lib.hid h4
      replace h5 := Lib.hid h5
      replace h6 := Lib.hid h6
      replace h7 := Lib.hid h7
      replace h8 := Lib.hid h8
      replace h9 := Lib.hid h9
      replace h10 := Lib.hid h10
      replace h11 := Lib.hid h11
      replace h12 := Lib.hid h12
      replace h14 := Lib.hid h14
      have c0 : u.cell? ⟨w.heap.size, 0, none⟩ = some (.slice aA n cA) := hm.q.cell 0
      have c1 : u.cell? ⟨w.heap.size, 1, none⟩ = some (.slice aB n cB) := hm.q.cell 1
      go_simp
      exact hK.out _ _ ⟨aA', cA', aB', cB', _, _, _, _, _, _, _, _, _, _, _, _, _, _, by ((simp only [putAll, Act.put, List.setIfInBounds_toArray, List.set_cons_zero, List.set_cons_succ]) <;> rfl), h0.out, (fun _ => rfl), h2.out, h3.out, h4.out, h5.out, h6.out, h7.out, h8.out, h9.out, h10.out, h11.out, h12.out, h14.out, hm⟩
    refine Steps.cons (i := 2) rfl ?_ ?_
    · rintro L a u ⟨aA', cA', aB', cB', x0, x1, x2, x3, x4, x5, x6, x7, x8, x9, x10, x11, x12, x14, rfl, h0, h1, h2, h3, h4, h5, h6, h7, h8, h9, h10, h11, h12, h14, hm⟩ hi hd K hK
      simp only [putAll, Act.put, List.setIfInBounds_toArray, List.set_cons_zero, List.set_cons_succ]
      (try simp [Region.binds] at hd)
      replace h0 := Lib.hid h0
      replace h1 := Lib.hid h1
      replace h2 := Lib.hid h2
      replace h3 := Lib.hid h3
      replace h4 := Lib.hid h4
      replace h5 := Lib.hid h5
      replace h6 := Lib.hid h6
      replace h7 := Lib.hid h7
      replace h8 := Lib.hid h8
      replace h9 := Lib.hid h9
      replace h10 := Lib.hid h10
      replace h11 := Lib.hid h11
      replace h12 := Lib.hid h12
      replace h14 := Lib.hid h14
      obtain rfl := (h1.out (by simp [hd])).symm
      go_simp
      refine (KS.out u hm.b).mono ?_
      rintro e u5 ⟨rfl, hb5⟩
      go_wp2_with fail
      exact hK.out _ _ ⟨aA', cA', aB', cB', _, _, _, _, _, _, _, _, _, _, _, _, _, _, by ((simp only [putAll, Act.put, List.setIfInBounds_toArray, List.set_cons_zero, List.set_cons_succ]) <;> rfl), h0.out, (fun _ => rfl), (fun _ => rfl), h3.out, h4.out, h5.out, h6.out, h7.out, h8.out, h9.out, h10.out, h11.out, h12.out, h14.out, (hm.later hb5)⟩
    refine Steps.cons (i := 3) rfl ?_ ?_
    · rintro L a u ⟨aA', cA', aB', cB', x0, x1, x2, x3, x4, x5, x6, x7, x8, x9, x10, x11, x12, x14, rfl, h0, h1, h2, h3, h4, h5, h6, h7, h8, h9, h10, h11, h12, h14, hm⟩ hi hd K hK
      simp only [putAll, Act.put, List.setIfInBounds_toArray, List.set_cons_zero, List.set_cons_succ]
      (try simp [Region.binds] at hd)
      replace h0 := Lib.hid h0
      replace h1 := Lib.hid h1
      replace h2 := Lib.hid h2
      replace h3 := Lib.hid h3
      replace h4 := Lib.hid h4
      replace h5 := Lib.hid h5
      replace h6 := Lib.hid h6
      replace h7 := Lib.hid h7
      replace h8 := Lib.hid h8
      replace h9 := Lib.hid h9
      replace h10 := Lib.hid h10
      replace h11 := Lib.hid h11
      replace h12 := Lib.hid h12
      replace h14 := Lib.hid h14
      obtain rfl := (h2.out (by simp [hd])).symm
      go_simp
      exact hK.out _ _ ⟨aA', cA', aB', cB', _, _, _, _, _, _, _, _, _, _, _, _, _, _, by ((simp only [putAll, Act.put, List.setIfInBounds_toArray, List.set_cons_zero, List.set_cons_succ]) <;> rfl), h0.out, h1.out, h2.out, (fun _ => rfl), h4.out, h5.out, h6.out, h7.out, h8.out, h9.out, h10.out, h11.out, h12.out, h14.out, hm⟩
    refine Steps.cons (i := 4) rfl ?_ ?_
    · rintro L a u ⟨aA', cA', aB', cB', x0, x1, x2, x3, x4, x5, x6, x7, x8, x9, x10, x11, x12, x14, rfl, h0, h1, h2, h3, h4, h5, h6, h7, h8, h9, h10, h11, h12, h14, hm⟩ hi hd K hK
      simp only [putAll, Act.put, List.setIfInBounds_toArray, List.set_cons_zero, List.set_cons_succ]
      (try simp [Region.binds] at hd)
      replace h0 := Lib.hid h0
      replace h1 := Lib.hid h1
      replace h2 := Lib.hid h2
      replace h3 := Lib.hid h3
      replace h4 := Lib.hid h4
      replace h5 := Lib.hid h5
      replace h6 := Lib.hid h6
      replace h7 := Lib.hid h7
      replace h8 := Lib.hid h8
      replace h9 := Lib.hid h9
      replace h10 := Lib.hid h10
      replace h11 := Lib.hid h11
      replace h12 := Lib.hid h12
      replace h14 := Lib.hid h14
      obtain rfl := (h3.out (by simp [hd])).symm
      go_simp
      exact hK.out _ _ ⟨aA', cA', aB', cB', _, _, _, _, _, _, _, _, _, _, _, _, _, _, by ((simp only [putAll, Act.put, List.setIfInBounds_toArray, List.set_cons_zero, List.set_cons_succ]) <;> rfl), h0.out, h1.out, h2.out, h3.out, (fun _ => rfl), h5.out, h6.out, h7.out, h8.out, h9.out, h10.out, h11.out, h12.out, h14.out, hm⟩
    refine Steps.cons (i := 5) rfl ?_ ?_
    · rintro L a u ⟨aA', cA', aB', cB', x0, x1, x2, x3, x4, x5, x6, x7, x8, x9, x10, x11, x12, x14, rfl, h0, h1, h2, h3, h4, h5, h6, h7, h8, h9, h10, h11, h12, h14, hm⟩ hi hd K hK
      simp only [putAll, Act.put, List.setIfInBounds_toArray, List.set_cons_zero, List.set_cons_succ]
      (try simp [Region.binds] at hd)
      replace h0 := Lib.hid h0
      replace h1 := Lib.hid h1
      replace h2 := Lib.hid h2
      replace h3 := Lib.hid h3
      replace h4 := Lib.hid h4
      replace h5 := Lib.hid h5
      replace h6 := Lib.hid h6
      replace h7 := Lib.hid h7
      replace h8 := Lib.hid h8
      replace h9 := Lib.hid h9
      replace h10 := Lib.hid h10
      replace h11 := Lib.hid h11
      replace h12 := Lib.hid h12
      replace h14 := Lib.hid h14
      obtain rfl := (h4.out (by simp [hd])).symm
      go_simp
      exact hK.out _ _ ⟨aA', cA', aB', cB', _, _, _, _, _, _, _, _, _, _, _, _, _, _, by ((simp only [putAll, Act.put, List.setIfInBounds_toArray, List.set_cons_zero, List.set_cons_succ]) <;> rfl), h0.out, h1.out, h2.out, h3.out, h4.out, (fun _ => rfl), h6.out, h7.out, h8.out, h9.out, h10.out, h11.out, h12.out, h14.out, hm⟩
    refine Steps.cons (i := 6) rfl ?_ ?_
    · rintro L a u ⟨aA', cA', aB', cB', x0, x1, x2, x3, x4, x5, x6, x7, x8, x9, x10, x11, x12, x14, rfl, h0, h1, h2, h3, h4, h5, h6, h7, h8, h9, h10, h11, h12, h14, hm⟩ hi hd K hK
      simp only [putAll, Act.put, List.setIfInBounds_toArray, List.set_cons_zero, List.set_cons_succ]
      (try simp [Region.binds] at hd)
      replace h0 := Lib.hid h0
      replace h1 := Lib.hid h1
      replace h2 := Lib.hid h2
      replace h3 := Lib.hid h3
      replace h4 := Lib.hid h4
      replace h5 := Lib.hid h5
      replace h6 := Lib.hid h6
      replace h7 := Lib.hid h7
      replace h8 := Lib.hid h8
      replace h9 := Lib.hid h9
      replace h10 := Lib.hid h10
      replace h11 := Lib.hid h11
      replace h12 := Lib.hid h12
      replace h14 := Lib.hid h14
      obtain rfl := (h4.out (by simp [hd])).symm
      go_simp
      exact hK.out _ _ ⟨aA', cA', aB', cB', _, _, _, _, _, _, _, _, _, _, _, _, _, _, by ((simp only [putAll, Act.put, List.setIfInBounds_toArray, List.set_cons_zero, List.set_cons_succ]) <;> rfl), h0.out, h1.out, h2.out, h3.out, h4.out, h5.out, (fun _ => rfl), h7.out, h8.out, h9.out, h10.out, h11.out, h12.out, h14.out, hm⟩
    refine Steps.cons (i := 7) rfl ?_ ?_
    · rintro L a u ⟨aA', cA', aB', cB', x0, x1, x2, x3, x4, x5, x6, x7, x8, x9, x10, x11, x12, x14, rfl, h0, h1, h2, h3, h4, h5, h6, h7, h8, h9, h10, h11, h12, h14, hm⟩ hi hd K hK
      simp only [putAll, Act.put, List.setIfInBounds_toArray, List.set_cons_zero, List.set_cons_succ]
      (try simp [Region.binds] at hd)
      replace h0 := Lib.hid h0
      replace h1 := Lib.hid h1
      replace h2 := Lib.hid h2
      replace h3 := Lib.hid h3
      replace h4 := Lib.hid h4
      replace h5 := Lib.hid h5
      replace h6 := Lib.hid h6
      replace h7 := Lib.hid h7
      replace h8 := Lib.hid h8
      replace h9 := Lib.hid h9
      replace h10 := Lib.hid h10
      replace h11 := Lib.hid h11
      replace h12 := Lib.hid h12
      replace h14 := Lib.hid h14
      obtain rfl := (h4.out (by simp [hd])).symm
      go_simp
      exact hK.out _ _ ⟨aA', cA', aB', cB', _, _, _, _, _, _, _, _, _, _, _, _, _, _, by ((simp only [putAll, Act.put, List.setIfInBounds_toArray, List.set_cons_zero, List.set_cons_succ]) <;> rfl), h0.out, h1.out, h2.out, h3.out, h4.out, h5.out, h6.out, (fun _ => rfl), h8.out, h9.out, h10.out, h11.out, h12.out, h14.out, hm⟩
    refine Steps.cons (i := 8) rfl ?_ ?_
    · rintro L a u ⟨aA', cA', aB', cB', x0, x1, x2, x3, x4, x5, x6, x7, x8, x9, x10, x11, x12, x14, rfl, h0, h1, h2, h3, h4, h5, h6, h7, h8, h9, h10, h11, h12, h14, hm⟩ hi hd K hK
      simp only [putAll, Act.put, List.setIfInBounds_toArray, List.set_cons_zero, List.set_cons_succ]
      (try simp [Region.binds] at hd)
      replace h0 := Lib.hid h0
      replace h1 := Lib.hid h1
      replace h2 := Lib.hid h2
      replace h3 := Lib.hid h3
      replace h4 := Lib.hid h4
      replace h5 := Lib.hid h5
      replace h6 := Lib.hid h6
      replace h7 := Lib.hid h7
      replace h8 := Lib.hid h8
      replace h9 := Lib.hid h9
      replace h10 := Lib.hid h10
      replace h11 := Lib.hid h11
      replace h12 := Lib.hid h12
      replace h14 := Lib.hid h14
      obtain rfl := (h4.out (by simp [hd])).symm
      go_simp
      exact hK.out _ _ ⟨aA', cA', aB', cB', _, _, _, _, _, _, _, _, _, _, _, _, _, _, by ((simp only [putAll, Act.put, List.setIfInBounds_toArray, List.set_cons_zero, List.set_cons_succ]) <;> rfl), h0.out, h1.out, h2.out, h3.out, h4.out, h5.out, h6.out, h7.out, (fun _ => rfl), h9.out, h10.out, h11.out, h12.out, h14.out, hm⟩
    refine Steps.cons (i := 9) rfl ?_ ?_
    · rintro L a u ⟨aA', cA', aB', cB', x0, x1, x2, x3, x4, x5, x6, x7, x8, x9, x10, x11, x12, x14, rfl, h0, h1, h2, h3, h4, h5, h6, h7, h8, h9, h10, h11, h12, h14, hm⟩ hi hd K hK
      simp only [putAll, Act.put, List.setIfInBounds_toArray, List.set_cons_zero, List.set_cons_succ]
      (try simp [Region.binds] at hd)
      replace h0 := Lib.hid h0
      replace h1 := Lib.hid h1
      replace h2 := Lib.hid h2
      replace h3 := Lib.hid h3
      replace h4 := Lib.hid h4
      replace h5 := Lib.hid h5
      replace h6 := Lib.hid h6
      replace h7 := Lib.hid h7
      replace h8 := Lib.hid h8
      replace h9 := Lib.hid h9
      replace h10 := Lib.hid h10
      replace h11 := Lib.hid h11
      replace h12 := Lib.hid h12
      replace h14 := Lib.hid h14
      go_simp
      exact hK.out _ _ ⟨aA', cA', aB', cB', _, _, _, _, _, _, _, _, _, _, _, _, _, _, by ((simp only [putAll, Act.put, List.setIfInBounds_toArray, List.set_cons_zero, List.set_cons_succ]) <;> rfl), h0.out, h1.out, h2.out, h3.out, h4.out, h5.out, h6.out, h7.out, h8.out, (fun _ => rfl), h10.out, h11.out, h12.out, h14.out, hm⟩
    refine Steps.cons (i := 10) rfl ?_ ?_
    · rintro L a u ⟨aA', cA', aB', cB', x0, x1, x2, x3, x4, x5, x6, x7, x8, x9, x10, x11, x12, x14, rfl, h0, h1, h2, h3, h4, h5, h6, h7, h8, h9, h10, h11, h12, h14, hm⟩ hi hd K hK
      simp only [putAll, Act.put, List.setIfInBounds_toArray, List.set_cons_zero, List.set_cons_succ]
      (try simp [Region.binds] at hd)
      replace h0 := Lib.hid h0
      replace h1 := Lib.hid h1
      replace h2 := Lib.hid h2
      replace h3 := Lib.hid h3
      replace h4 := Lib.hid h4
      replace h5 := Lib.hid h5
      replace h6 := Lib.hid h6
      replace h7 := Lib.hid h7
      replace h8 := Lib.hid h8
      replace h9 := Lib.hid h9
      replace h10 := Lib.hid h10
      replace h11 := Lib.hid h11
      replace h12 := Lib.hid h12
      replace h14 := Lib.hid h14
      obtain rfl := (h0.out (by simp [hd])).symm
      obtain rfl := (h8.out (by simp [hd])).symm
      obtain rfl := (h9.out (by simp [hd])).symm
      go_simp
      refine (KP1.out u hm.b).mono ?_
      rintro e u5 ⟨vA2, vB2, rfl, hl5, hp5, hb5⟩
      obtain ⟨aA2, cA2, rfl⟩ := own_slice hl5.a
      obtain ⟨aB2, cB2, rfl⟩ := own_slice hl5.b
      go_wp2_with fail
      exact hK.out _ _ ⟨aA2, cA2, aB2, cB2, _, _, _, _, _, _, _, _, _, _, _, _, _, _, by ((simp only [putAll, Act.put, List.setIfInBounds_toArray, List.set_cons_zero, List.set_cons_succ]) <;> rfl), (fun _ => rfl), h1.out, h2.out, h3.out, h4.out, h5.out, h6.out, h7.out, (fun _ => rfl), (fun _ => rfl), (fun _ => rfl), (fun h => absurd (hm.m1 h) (by rw [hi]; decide)), h12.out, h14.out, (hm.did hi hl5 hp5 hb5)⟩
    refine Steps.cons (i := 11) rfl ?_ ?_
    · rintro L a u ⟨aA', cA', aB', cB', x0, x1, x2, x3, x4, x5, x6, x7, x8, x9, x10, x11, x12, x14, rfl, h0, h1, h2, h3, h4, h5, h6, h7, h8, h9, h10, h11, h12, h14, hm⟩ hi hd K hK
      simp only [putAll, Act.put, List.setIfInBounds_toArray, List.set_cons_zero, List.set_cons_succ]
      (try simp [Region.binds] at hd)
      replace h0 := Lib.hid h0
      replace h1 := Lib.hid h1
      replace h2 := Lib.hid h2
      replace h3 := Lib.hid h3
      replace h4 := Lib.hid h4
      replace h5 := Lib.hid h5
      replace h6 := Lib.hid h6
      replace h7 := Lib.hid h7
      replace h8 := Lib.hid h8
      replace h9 := Lib.hid h9
      replace h10 := Lib.hid h10
      replace h11 := Lib.hid h11
      replace h12 := Lib.hid h12
      replace h14 := Lib.hid h14
      obtain rfl := (h10.out (by simp [hd])).symm
      go_simp
      exact hK.out _ _ ⟨aA', cA', aB', cB', _, _, _, _, _, _, _, _, _, _, _, _, _, _, by ((simp only [putAll, Act.put, List.setIfInBounds_toArray, List.set_cons_zero, List.set_cons_succ]) <;> rfl), h0.out, h1.out, h2.out, h3.out, h4.out, h5.out, h6.out, h7.out, h8.out, h9.out, h10.out, (fun _ => rfl), h12.out, h14.out, (hm.take (by simp [hd]))⟩
    refine Steps.cons (i := 12) rfl ?_ ?_
    · rintro L a u ⟨aA', cA', aB', cB', x0, x1, x2, x3, x4, x5, x6, x7, x8, x9, x10, x11, x12, x14, rfl, h0, h1, h2, h3, h4, h5, h6, h7, h8, h9, h10, h11, h12, h14, hm⟩ hi hd K hK
      simp only [putAll, Act.put, List.setIfInBounds_toArray, List.set_cons_zero, List.set_cons_succ]
      (try simp [Region.binds] at hd)
      replace h0 := Lib.hid h0
      replace h1 := Lib.hid h1
      replace h2 := Lib.hid h2
      replace h3 := Lib.hid h3
      replace h4 := Lib.hid h4
      replace h5 := Lib.hid h5
      replace h6 := Lib.hid h6
      replace h7 := Lib.hid h7
      replace h8 := Lib.hid h8
      replace h9 := Lib.hid h9
      replace h10 := Lib.hid h10
      replace h11 := Lib.hid h11
      replace h12 := Lib.hid h12
      replace h14 := Lib.hid h14
      obtain rfl := (h10.out (by simp [hd])).symm
      go_simp
      exact hK.out _ _ ⟨aA', cA', aB', cB', _, _, _, _, _, _, _, _, _, _, _, _, _, _, by ((simp only [putAll, Act.put, List.setIfInBounds_toArray, List.set_cons_zero, List.set_cons_succ]) <;> rfl), h0.out, h1.out, h2.out, h3.out, h4.out, h5.out, h6.out, h7.out, h8.out, h9.out, h10.out, h11.out, (fun _ => rfl), h14.out, hm⟩
    refine Steps.cons (i := 13) rfl ?_ ?_
    · rintro L a u ⟨aA', cA', aB', cB', x0, x1, x2, x3, x4, x5, x6, x7, x8, x9, x10, x11, x12, x14, rfl, h0, h1, h2, h3, h4, h5, h6, h7, h8, h9, h10, h11, h12, h14, hm⟩ hi hd K hK
      simp only [putAll, Act.put, List.setIfInBounds_toArray, List.set_cons_zero, List.set_cons_succ]
      (try simp [Region.binds] at hd)
      replace h0 := Lib.hid h0
      replace h1 := Lib.hid h1
      replace h2 := Lib.hid h2
      replace h3 := Lib.hid h3
      replace h4 := Lib.hid h4
      replace h5 := Lib.hid h5
      replace h6 := Lib.hid h6
      replace h7 := Lib.hid h7
      replace h8 := Lib.hid h8
      replace h9 := Lib.hid h9
      replace h10 := Lib.hid h10
      replace h11 := Lib.hid h11
      replace h12 := Lib.hid h12
      replace h14 := Lib.hid h14
      obtain rfl := (h11.out (by simp [hd])).symm
      have o0 := hm.o0 (by first | exact hi | assumption)
      have o1 := hm.o1 (by first | exact hi | assumption)
      have f0 := hm.o.frozen 0
      have f1 := hm.o.frozen 1
      go_simp
      exact hK.out _ _ ⟨aA', cA', aB', cB', _, _, _, _, _, _, _, _, _, _, _, _, _, _, by ((simp only [putAll, Act.put, List.setIfInBounds_toArray, List.set_cons_zero, List.set_cons_succ]) <;> rfl), h0.out, h1.out, h2.out, h3.out, h4.out, h5.out, h6.out, h7.out, h8.out, h9.out, h10.out, h11.out, h12.out, h14.out, (hm.store hi (by simp [hd]))⟩
    refine Steps.cons (i := 14) rfl ?_ ?_
    · rintro L a u ⟨aA', cA', aB', cB', x0, x1, x2, x3, x4, x5, x6, x7, x8, x9, x10, x11, x12, x14, rfl, h0, h1, h2, h3, h4, h5, h6, h7, h8, h9, h10, h11, h12, h14, hm⟩ hi hd K hK
      simp only [putAll, Act.put, List.setIfInBounds_toArray, List.set_cons_zero, List.set_cons_succ]
      (try simp [Region.binds] at hd)
      replace h0 := Lib.hid h0
      replace h1 := Lib.hid h1
      replace h2 := Lib.hid h2
      replace h3 := Lib.hid h3
      replace h4 := Lib.hid h4
      replace h5 := Lib.hid h5
      replace h6 := Lib.hid h6
      replace h7 := Lib.hid h7
      replace h8 := Lib.hid h8
      replace h9 := Lib.hid h9
      replace h10 := Lib.hid h10
      replace h11 := Lib.hid h11
      replace h12 := Lib.hid h12
      replace h14 := Lib.hid h14
      obtain rfl := (h12.out (by simp [hd])).symm
      go_simp
      exact hK.out _ _ ⟨aA', cA', aB', cB', _, _, _, _, _, _, _, _, _, _, _, _, _, _, by ((simp only [putAll, Act.put, List.setIfInBounds_toArray, List.set_cons_zero, List.set_cons_succ]) <;> rfl), h0.out, h1.out, h2.out, h3.out, h4.out, h5.out, h6.out, h7.out, h8.out, h9.out, h10.out, h11.out, h12.out, (fun _ => rfl), hm⟩
    · exact Steps.nil
    · rintro L a u ⟨aA', cA', aB', cB', x0, x1, x2, x3, x4, x5, x6, x7, x8, x9, x10, x11, x12, x14, rfl, h0, h1, h2, h3, h4, h5, h6, h7, h8, h9, h10, h11, h12, h14, hm⟩ hall
      obtain rfl := (h14 (hall 14 (by decide))).symm
      simp only [putAll, Act.put, List.setIfInBounds_toArray, List.set_cons_zero, List.set_cons_succ]
      have HM : Hid (Sv _ _ _ _ _ _ _ _ _ _ _ _ _) := hm
      have h13 := hall 13 (by decide)
      clear hm
      go_wp2_with fail
      have HZ := Lib.hid (HM.out.end' h13)
      have r0 : u.cell? ⟨w.heap.size + 1, 0, none⟩ = some (.slice aA' A'.length cA') := HZ.out.1.cell 0
      have r1 : u.cell? ⟨w.heap.size + 1, 1, none⟩ = some (.slice aB' B'.length cB') := HZ.out.1.cell 1
      refine bodyPost_ret (v := .tuple #[.agg #[.slice aA' A'.length cA', .slice aB' B'.length cB'], .int .i64 z]) (by simp [results, Tryz.results12, go_sem, r0, r1]) rfl ?_
      exact ⟨_, _, rfl, HZ.out.2.1, HZ.out.2.2.1, HZ.out.2.2.2⟩
  | false =>
    by_cases hf : 0 < fst
    · have KP1 : Hid (∀ u, Below w.heap.size w u → Calls Tryz.prog 39 #[.agg #[.slice aA n cA, .slice aB n cB], .bool true, .int .i64 0, .slice ad l.length c] u (RlRes base P A' B' z u)) := by have := KP.out; rwa [HB0.out, decide_eq_true hf] at this
      have dz : decide (0 < fst) = true := decide_eq_true hf
      clear HB0 KP hf
      refine wp_region_inv (I := (fun A0 L a u => ∃ (aA' : Option Addr) (cA' : Nat) (aB' : Option Addr) (cB' : Nat) (x0 x1 x2 x3 x4 x5 x6 x7 x8 x9 x10 x11 x12 x14 : Value), a = putAll A0 [(14, x0), (15, x1), (16, x2), (17, x3), (18, x4), (19, x5), (20, x6), (21, x7), (22, x8), (23, x9), (24, x10), (25, x11), (26, x12), (5, x14)] ∧ (L 0 = true → x0 = (.agg #[.slice aA n cA, .slice aB n cB])) ∧ (L 1 = true → x1 = (.agg #[.slice aA n cA, .slice aB n cB])) ∧ (L 2 = true → x2 = (.bool false)) ∧ (L 3 = true → x3 = (.bool true)) ∧ (L 4 = true → x4 = (.bool true)) ∧ (L 5 = true → x5 = (.agg #[.slice aA n cA, .slice aB n cB])) ∧ (L 6 = true → x6 = (.int .u64 (fst : Int))) ∧ (L 7 = true → x7 = (.bool true)) ∧ (L 8 = true → x8 = (.bool true)) ∧ (L 9 = true → x9 = (.slice ad l.length c)) ∧ (L 10 = true → x10 = (.tuple #[.agg #[.slice aA' A'.length cA', .slice aB' B'.length cB'], .int .i64 z])) ∧ (L 11 = true → x11 = (.agg #[.slice aA' A'.length cA', .slice aB' B'.length cB'])) ∧ (L 12 = true → x12 = (.int .i64 z)) ∧ (L 14 = true → x14 = (.int .i64 z)) ∧ Sv base P w (.slice aA n cA) (.slice aB n cB) (.slice aA' A'.length cA') (.slice aB' B'.length cB') A' B' (L 10) (L 11) (L 13) u)) (by kernel_rfl) (by kernel_rfl) ?_ ?_ ?_
      · intro L hL
        exact ⟨none, 0, none, 0, _, _, _, _, _, _, _, _, _, _, _, _, _, _, by (simp only [putAll, Act.put, List.setIfInBounds_toArray, List.set_cons_zero, List.set_cons_succ]; rfl), (fun h => absurd h (by rw [hL 0 (by decide)]; decide)), (fun h => absurd h (by rw [hL 1 (by decide)]; decide)), (fun h => absurd h (by rw [hL 2 (by decide)]; decide)), (fun h => absurd h (by rw [hL 3 (by decide)]; decide)), (fun h => absurd h (by rw [hL 4 (by decide)]; decide)), (fun h => absurd h (by rw [hL 5 (by decide)]; decide)), (fun h => absurd h (by rw [hL 6 (by decide)]; decide)), (fun h => absurd h (by rw [hL 7 (by decide)]; decide)), (fun h => absurd h (by rw [hL 8 (by decide)]; decide)), (fun h => absurd h (by rw [hL 9 (by decide)]; decide)), (fun h => absurd h (by rw [hL 10 (by decide)]; decide)), (fun h => absurd h (by rw [hL 11 (by decide)]; decide)), (fun h => absurd h (by rw [hL 12 (by decide)]; decide)), (fun h => absurd h (by rw [hL 14 (by decide)]; decide)), by rw [hL 10 (by decide), hL 11 (by decide), hL 13 (by decide)]; exact S0.out⟩
      refine Steps.cons (i := 0) rfl ?_ ?_
      · rintro L a u ⟨aA', cA', aB', cB', x0, x1, x2, x3, x4, x5, x6, x7, x8, x9, x10, x11, x12, x14, rfl, h0, h1, h2, h3, h4, h5, h6, h7, h8, h9, h10, h11, h12, h14, hm⟩ hi hd K hK
        simp only [putAll, Act.put, List.setIfInBounds_toArray, List.set_cons_zero, List.set_cons_succ]
        (try simp [Region.binds] at hd)
        replace h0 := Lib.hid h0
        replace h1 := Lib.hid h1
        replace h2 := Lib.hid h2
        replace h3 := Lib.hid h3
        replace h4 := Lib.hid h4
        replace h5 := Lib.hid h5
        replace h6 := Lib.hid h6
        replace h7 := Lib.hid h7
        replace h8 := Lib.hid h8
        replace h9 := Lib.hid h9
        replace h10 := Lib.hid h10
        replace h11 := Lib.hid h11
        replace h12 := Lib.hid h12
        replace h14 := Lib.hid h14
        have c0 : u.cell? ⟨w.heap.size, 0, none⟩ = some (.slice aA n cA) := hm.q.cell 0
        have c1 : u.cell? ⟨w.heap.size, 1, none⟩ = some (.slice aB n cB) := hm.q.cell 1
        go_simp
        exact hK.out _ _ ⟨aA', cA', aB', cB', _, _, _, _, _, _, _, _, _, _, _, _, _, _, by ((simp only [putAll, Act.put, List.setIfInBounds_toArray, List.set_cons_zero, List.set_cons_succ]) <;> rfl), (fun _ => rfl), h1.out, h2.out, h3.out, h4.out, h5.out, h6.out, h7.out, h8.out, h9.out, h10.out, h11.out, h12.out, h14.out, hm⟩
      refine Steps.cons (i := 1) rfl ?_ ?_
      · rintro L a u ⟨aA', cA', aB', cB', x0, x1, x2, x3, x4, x5, x6, x7, x8, x9, x10, x11, x12, x14, rfl, h0, h1, h2, h3, h4, h5, h6, h7, h8, h9, h10, h11, h12, h14, hm⟩ hi hd K hK
        simp only [putAll, Act.put, List.setIfInBounds_toArray, List.set_cons_zero, List.set_cons_succ]
        (try simp [Region.binds] at hd)
        replace h0 := Lib.hid h0
        replace h1 := Lib.hid h1
        replace h2 := Lib.hid h2
        replace h3 := Lib.hid h3
        replace h4 := Lib.hid h4
        replace h5 := Lib.hid h5
        replace h6 := Lib.hid h6
        replace h7 := Lib.hid h7
        replace h8 := Lib.hid h8
        replace h9 := Lib.hid h9
        replace h10 := Lib.hid h10
        replace h11 := Lib.hid h11
        replace h12 := Lib.hid h12
        replace h14 := Lib.hid h14
        have c0 : u.cell? ⟨w.heap.size, 0, none⟩ = some (.slice aA n cA) := hm.q.cell 0
        have c1 : u.cell? ⟨w.heap.size, 1, none⟩ = some (.slice aB n cB) := hm.q.cell 1
        go_simp
        exact hK.out _ _ ⟨aA', cA', aB', cB', _, _, _, _, _, _, _, _, _, _, _, _, _, _, by ((simp only [putAll, Act.put, List.setIfInBounds_toArray, List.set_cons_zero, List.set_cons_succ]) <;> rfl), h0.out, (fun _ => rfl), h2.out, h3.out, h4.out, h5.out, h6.out, h7.out, h8.out, h9.out, h10.out, h11.out, h12.out, h14.out, hm⟩
      refine Steps.cons (i := 2) rfl ?_ ?_
      · rintro L a u ⟨aA', cA', aB', cB', x0, x1, x2, x3, x4, x5, x6, x7, x8, x9, x10, x11, x12, x14, rfl, h0, h1, h2, h3, h4, h5, h6, h7, h8, h9, h10, h11, h12, h14, hm⟩ hi hd K hK
        simp only [putAll, Act.put, List.setIfInBounds_toArray, List.set_cons_zero, List.set_cons_succ]
        (try simp [Region.binds] at hd)
        replace h0 := Lib.hid h0
        replace h1 := Lib.hid h1
        replace h2 := Lib.hid h2
        replace h3 := Lib.hid h3
        replace h4 := Lib.hid h4
        replace h5 := Lib.hid h5
        replace h6 := Lib.hid h6
        replace h7 := Lib.hid h7
        replace h8 := Lib.hid h8
        replace h9 := Lib.hid h9
        replace h10 := Lib.hid h10
        replace h11 := Lib.hid h11
        replace h12 := Lib.hid h12
        replace h14 := Lib.hid h14
        obtain rfl := (h1.out (by simp [hd])).symm
        go_simp
        refine (KS.out u hm.b).mono ?_
        rintro e u5 ⟨rfl, hb5⟩
        go_wp2_with fail
        exact hK.out _ _ ⟨aA', cA', aB', cB', _, _, _, _, _, _, _, _, _, _, _, _, _, _, by ((simp only [putAll, Act.put, List.setIfInBounds_toArray, List.set_cons_zero, List.set_cons_succ]) <;> rfl), h0.out, (fun _ => rfl), (fun _ => rfl), h3.out, h4.out, h5.out, h6.out, h7.out, h8.out, h9.out, h10.out, h11.out, h12.out, h14.out, (hm.later hb5)⟩
      refine Steps.cons (i := 3) rfl ?_ ?_
      · rintro L a u ⟨aA', cA', aB', cB', x0, x1, x2, x3, x4, x5, x6, x7, x8, x9, x10, x11, x12, x14, rfl, h0, h1, h2, h3, h4, h5, h6, h7, h8, h9, h10, h11, h12, h14, hm⟩ hi hd K hK
        simp only [putAll, Act.put, List.setIfInBounds_toArray, List.set_cons_zero, List.set_cons_succ]
        (try simp [Region.binds] at hd)
        replace h0 := Lib.hid h0
        replace h1 := Lib.hid h1
        replace h2 := Lib.hid h2
        replace h3 := Lib.hid h3
        replace h4 := Lib.hid h4
        replace h5 := Lib.hid h5
        replace h6 := Lib.hid h6
        replace h7 := Lib.hid h7
        replace h8 := Lib.hid h8
        replace h9 := Lib.hid h9
        replace h10 := Lib.hid h10
        replace h11 := Lib.hid h11
        replace h12 := Lib.hid h12
        replace h14 := Lib.hid h14
        obtain rfl := (h2.out (by simp [hd])).symm
        go_simp
        exact hK.out _ _ ⟨aA', cA', aB', cB', _, _, _, _, _, _, _, _, _, _, _, _, _, _, by ((simp only [putAll, Act.put, List.setIfInBounds_toArray, List.set_cons_zero, List.set_cons_succ]) <;> rfl), h0.out, h1.out, h2.out, (fun _ => rfl), h4.out, h5.out, h6.out, h7.out, h8.out, h9.out, h10.out, h11.out, h12.out, h14.out, hm⟩
      refine Steps.cons (i := 4) rfl ?_ ?_
      · rintro L a u ⟨aA', cA', aB', cB', x0, x1, x2, x3, x4, x5, x6, x7, x8, x9, x10, x11, x12, x14, rfl, h0, h1, h2, h3, h4, h5, h6, h7, h8, h9, h10, h11, h12, h14, hm⟩ hi hd K hK
        simp only [putAll, Act.put, List.setIfInBounds_toArray, List.set_cons_zero, List.set_cons_succ]
        (try simp [Region.binds] at hd)
        replace h0 := Lib.hid h0
        replace h1 := Lib.hid h1
        replace h2 := Lib.hid h2
        replace h3 := Lib.hid h3
        replace h4 := Lib.hid h4
        replace h5 := Lib.hid h5
        replace h6 := Lib.hid h6
        replace h7 := Lib.hid h7
        replace h8 := Lib.hid h8
        replace h9 := Lib.hid h9
        replace h10 := Lib.hid h10
        replace h11 := Lib.hid h11
        replace h12 := Lib.hid h12
        replace h14 := Lib.hid h14
        obtain rfl := (h3.out (by simp [hd])).symm
        go_simp
        exact hK.out _ _ ⟨aA', cA', aB', cB', _, _, _, _, _, _, _, _, _, _, _, _, _, _, by ((simp only [putAll, Act.put, List.setIfInBounds_toArray, List.set_cons_zero, List.set_cons_succ]) <;> rfl), h0.out, h1.out, h2.out, h3.out, (fun _ => rfl), h5.out, h6.out, h7.out, h8.out, h9.out, h10.out, h11.out, h12.out, h14.out, hm⟩
      refine Steps.cons (i := 5) rfl ?_ ?_
      · rintro L a u ⟨aA', cA', aB', cB', x0, x1, x2, x3, x4, x5, x6, x7, x8, x9, x10, x11, x12, x14, rfl, h0, h1, h2, h3, h4, h5, h6, h7, h8, h9, h10, h11, h12, h14, hm⟩ hi hd K hK
        simp only [putAll, Act.put, List.setIfInBounds_toArray, List.set_cons_zero, List.set_cons_succ]
        (try simp [Region.binds] at hd)
        replace h0 := Lib.hid h0
        replace h1 := Lib.hid h1
        replace h2 := Lib.hid h2
        replace h3 := Lib.hid h3
        replace h4 := Lib.hid h4
        replace h5 := Lib.hid h5
        replace h6 := Lib.hid h6
        replace h7 := Lib.hid h7
        replace h8 := Lib.hid h8
        replace h9 := Lib.hid h9
        replace h10 := Lib.hid h10
        replace h11 := Lib.hid h11
        replace h12 := Lib.hid h12
        replace h14 := Lib.hid h14
        obtain rfl := (h4.out (by simp [hd])).symm
        have c0 : u.cell? ⟨w.heap.size, 0, none⟩ = some (.slice aA n cA) := hm.q.cell 0
        have c1 : u.cell? ⟨w.heap.size, 1, none⟩ = some (.slice aB n cB) := hm.q.cell 1
        go_simp
        exact hK.out _ _ ⟨aA', cA', aB', cB', _, _, _, _, _, _, _, _, _, _, _, _, _, _, by ((simp only [putAll, Act.put, List.setIfInBounds_toArray, List.set_cons_zero, List.set_cons_succ]) <;> rfl), h0.out, h1.out, h2.out, h3.out, h4.out, (fun _ => rfl), h6.out, h7.out, h8.out, h9.out, h10.out, h11.out, h12.out, h14.out, hm⟩
      refine Steps.cons (i := 6) rfl ?_ ?_
      · rintro L a u ⟨aA', cA', aB', cB', x0, x1, x2, x3, x4, x5, x6, x7, x8, x9, x10, x11, x12, x14, rfl, h0, h1, h2, h3, h4, h5, h6, h7, h8, h9, h10, h11, h12, h14, hm⟩ hi hd K hK
        simp only [putAll, Act.put, List.setIfInBounds_toArray, List.set_cons_zero, List.set_cons_succ]
        (try simp [Region.binds] at hd)
        replace h0 := Lib.hid h0
        replace h1 := Lib.hid h1
        replace h2 := Lib.hid h2
        replace h3 := Lib.hid h3
        replace h4 := Lib.hid h4
        replace h5 := Lib.hid h5
        replace h6 := Lib.hid h6
        replace h7 := Lib.hid h7
        replace h8 := Lib.hid h8
        replace h9 := Lib.hid h9
        replace h10 := Lib.hid h10
        replace h11 := Lib.hid h11
        replace h12 := Lib.hid h12
        replace h14 := Lib.hid h14
        obtain rfl := (h4.out (by simp [hd])).symm
        obtain rfl := (h5.out (by simp [hd])).symm
        go_simp
        refine (KG.out u hm.b).mono ?_
        rintro e u5 ⟨rfl, hb5⟩
        go_wp2_with fail
        exact hK.out _ _ ⟨aA', cA', aB', cB', _, _, _, _, _, _, _, _, _, _, _, _, _, _, by ((simp only [putAll, Act.put, List.setIfInBounds_toArray, List.set_cons_zero, List.set_cons_succ]) <;> rfl), h0.out, h1.out, h2.out, h3.out, (fun _ => rfl), (fun _ => rfl), (fun _ => rfl), h7.out, h8.out, h9.out, h10.out, h11.out, h12.out, h14.out, (hm.later hb5)⟩
      refine Steps.cons (i := 7) rfl ?_ ?_
      · rintro L a u ⟨aA', cA', aB', cB', x0, x1, x2, x3, x4, x5, x6, x7, x8, x9, x10, x11, x12, x14, rfl, h0, h1, h2, h3, h4, h5, h6, h7, h8, h9, h10, h11, h12, h14, hm⟩ hi hd K hK
        simp only [putAll, Act.put, List.setIfInBounds_toArray, List.set_cons_zero, List.set_cons_succ]
        (try simp [Region.binds] at hd)
        replace h0 := Lib.hid h0
        replace h1 := Lib.hid h1
        replace h2 := Lib.hid h2
        replace h3 := Lib.hid h3
        replace h4 := Lib.hid h4
        replace h5 := Lib.hid h5
        replace h6 := Lib.hid h6
        replace h7 := Lib.hid h7
        replace h8 := Lib.hid h8
        replace h9 := Lib.hid h9
        replace h10 := Lib.hid h10
        replace h11 := Lib.hid h11
        replace h12 := Lib.hid h12
        replace h14 := Lib.hid h14
        obtain rfl := (h4.out (by simp [hd])).symm
        obtain rfl := (h6.out (by simp [hd])).symm
        go_simp
        exact hK.out _ _ ⟨aA', cA', aB', cB', _, _, _, _, _, _, _, _, _, _, _, _, _, _, by ((simp only [putAll, Act.put, List.setIfInBounds_toArray, List.set_cons_zero, List.set_cons_succ]) <;> rfl), h0.out, h1.out, h2.out, h3.out, h4.out, h5.out, h6.out, (fun _ => rfl), h8.out, h9.out, h10.out, h11.out, h12.out, h14.out, hm⟩
      refine Steps.cons (i := 8) rfl ?_ ?_
      · rintro L a u ⟨aA', cA', aB', cB', x0, x1, x2, x3, x4, x5, x6, x7, x8, x9, x10, x11, x12, x14, rfl, h0, h1, h2, h3, h4, h5, h6, h7, h8, h9, h10, h11, h12, h14, hm⟩ hi hd K hK
        simp only [putAll, Act.put, List.setIfInBounds_toArray, List.set_cons_zero, List.set_cons_succ]
        (try simp [Region.binds] at hd)
        replace h0 := Lib.hid h0
        replace h1 := Lib.hid h1
        replace h2 := Lib.hid h2
        replace h3 := Lib.hid h3
        replace h4 := Lib.hid h4
        replace h5 := Lib.hid h5
        replace h6 := Lib.hid h6
        replace h7 := Lib.hid h7
        replace h8 := Lib.hid h8
        replace h9 := Lib.hid h9
        replace h10 := Lib.hid h10
        replace h11 := Lib.hid h11
        replace h12 := Lib.hid h12
        replace h14 := Lib.hid h14
        obtain rfl := (h4.out (by simp [hd])).symm
        obtain rfl := (h7.out (by simp [hd])).symm
        go_simp
        exact hK.out _ _ ⟨aA', cA', aB', cB', _, _, _, _, _, _, _, _, _, _, _, _, _, _, by ((simp only [putAll, Act.put, List.setIfInBounds_toArray, List.set_cons_zero, List.set_cons_succ]) <;> rfl), h0.out, h1.out, h2.out, h3.out, h4.out, h5.out, h6.out, h7.out, (fun _ => rfl), h9.out, h10.out, h11.out, h12.out, h14.out, hm⟩
      refine Steps.cons (i := 9) rfl ?_ ?_
      · rintro L a u ⟨aA', cA', aB', cB', x0, x1, x2, x3, x4, x5, x6, x7, x8, x9, x10, x11, x12, x14, rfl, h0, h1, h2, h3, h4, h5, h6, h7, h8, h9, h10, h11, h12, h14, hm⟩ hi hd K hK
        simp only [putAll, Act.put, List.setIfInBounds_toArray, List.set_cons_zero, List.set_cons_succ]
        (try simp [Region.binds] at hd)
        replace h0 := Lib.hid h0
        replace h1 := Lib.hid h1
        replace h2 := Lib.hid h2
        replace h3 := Lib.hid h3
        replace h4 := Lib.hid h4
        replace h5 := Lib.hid h5
        replace h6 := Lib.hid h6
        replace h7 := Lib.hid h7
        replace h8 := Lib.hid h8
        replace h9 := Lib.hid h9
        replace h10 := Lib.hid h10
        replace h11 := Lib.hid h11
        replace h12 := Lib.hid h12
        replace h14 := Lib.hid h14
        go_simp
        exact hK.out _ _ ⟨aA', cA', aB', cB', _, _, _, _, _, _, _, _, _, _, _, _, _, _, by ((simp only [putAll, Act.put, List.setIfInBounds_toArray, List.set_cons_zero, List.set_cons_succ]) <;> rfl), h0.out, h1.out, h2.out, h3.out, h4.out, h5.out, h6.out, h7.out, h8.out, (fun _ => rfl), h10.out, h11.out, h12.out, h14.out, hm⟩
      refine Steps.cons (i := 10) rfl ?_ ?_
      · rintro L a u ⟨aA', cA', aB', cB', x0, x1, x2, x3, x4, x5, x6, x7, x8, x9, x10, x11, x12, x14, rfl, h0, h1, h2, h3, h4, h5, h6, h7, h8, h9, h10, h11, h12, h14, hm⟩ hi hd K hK
        simp only [putAll, Act.put, List.setIfInBounds_toArray, List.set_cons_zero, List.set_cons_succ]
        (try simp [Region.binds] at hd)
        replace h0 := Lib.hid h0
        replace h1 := Lib.hid h1
        replace h2 := Lib.hid h2
        replace h3 := Lib.hid h3
        replace h4 := Lib.hid h4
        replace h5 := Lib.hid h5
        replace h6 := Lib.hid h6
        replace h7 := Lib.hid h7
        replace h8 := Lib.hid h8
        replace h9 := Lib.hid h9
        replace h10 := Lib.hid h10
        replace h11 := Lib.hid h11
        replace h12 := Lib.hid h12
        replace h14 := Lib.hid h14
        obtain rfl := (h0.out (by simp [hd])).symm
        obtain rfl := (h8.out (by simp [hd])).symm
        obtain rfl := (h9.out (by simp [hd])).symm
        go_simp
        refine (KP1.out u hm.b).mono ?_
        rintro e u5 ⟨vA2, vB2, rfl, hl5, hp5, hb5⟩
        obtain ⟨aA2, cA2, rfl⟩ := own_slice hl5.a
        obtain ⟨aB2, cB2, rfl⟩ := own_slice hl5.b
        go_wp2_with fail
        exact hK.out _ _ ⟨aA2, cA2, aB2, cB2, _, _, _, _, _, _, _, _, _, _, _, _, _, _, by ((simp only [putAll, Act.put, List.setIfInBounds_toArray, List.set_cons_zero, List.set_cons_succ]) <;> rfl), (fun _ => rfl), h1.out, h2.out, h3.out, h4.out, h5.out, h6.out, h7.out, (fun _ => rfl), (fun _ => rfl), (fun _ => rfl), (fun h => absurd (hm.m1 h) (by rw [hi]; decide)), h12.out, h14.out, (hm.did hi hl5 hp5 hb5)⟩
      refine Steps.cons (i := 11) rfl ?_ ?_
      · rintro L a u ⟨aA', cA', aB', cB', x0, x1, x2, x3, x4, x5, x6, x7, x8, x9, x10, x11, x12, x14, rfl, h0, h1, h2, h3, h4, h5, h6, h7, h8, h9, h10, h11, h12, h14, hm⟩ hi hd K hK
        simp only [putAll, Act.put, List.setIfInBounds_toArray, List.set_cons_zero, List.set_cons_succ]
        (try simp [Region.binds] at hd)
        replace h0 := Lib.hid h0
        replace h1 := Lib.hid h1
        replace h2 := Lib.hid h2
        replace h3 := Lib.hid h3
        replace h4 := Lib.hid h4
        replace h5 := Lib.hid h5
        replace h6 := Lib.hid h6
        replace h7 := Lib.hid h7
        replace h8 := Lib.hid h8
        replace h9 := Lib.hid h9
        replace h10 := Lib.hid h10
        replace h11 := Lib.hid h11
        replace h12 := Lib.hid h12
        replace h14 := Lib.hid h14
        obtain rfl := (h10.out (by simp [hd])).symm
        go_simp
        exact hK.out _ _ ⟨aA', cA', aB', cB', _, _, _, _, _, _, _, _, _, _, _, _, _, _, by ((simp only [putAll, Act.put, List.setIfInBounds_toArray, List.set_cons_zero, List.set_cons_succ]) <;> rfl), h0.out, h1.out, h2.out, h3.out, h4.out, h5.out, h6.out, h7.out, h8.out, h9.out, h10.out, (fun _ => rfl), h12.out, h14.out, (hm.take (by simp [hd]))⟩
      refine Steps.cons (i := 12) rfl ?_ ?_
      · rintro L a u ⟨aA', cA', aB', cB', x0, x1, x2, x3, x4, x5, x6, x7, x8, x9, x10, x11, x12, x14, rfl, h0, h1, h2, h3, h4, h5, h6, h7, h8, h9, h10, h11, h12, h14, hm⟩ hi hd K hK
        simp only [putAll, Act.put, List.setIfInBounds_toArray, List.set_cons_zero, List.set_cons_succ]
        (try simp [Region.binds] at hd)
        replace h0 := Lib.hid h0
        replace h1 := Lib.hid h1
        replace h2 := Lib.hid h2
        replace h3 := Lib.hid h3
        replace h4 := Lib.hid h4
        replace h5 := Lib.hid h5
        replace h6 := Lib.hid h6
        replace h7 := Lib.hid h7
        replace h8 := Lib.hid h8
        replace h9 := Lib.hid h9
        replace h10 := Lib.hid h10
        replace h11 := Lib.hid h11
        replace h12 := Lib.hid h12
        replace h14 := Lib.hid h14
        obtain rfl := (h10.out (by simp [hd])).symm
        go_simp
        exact hK.out _ _ ⟨aA', cA', aB', cB', _, _, _, _, _, _, _, _, _, _, _, _, _, _, by ((simp only [putAll, Act.put, List.setIfInBounds_toArray, List.set_cons_zero, List.set_cons_succ]) <;> rfl), h0.out, h1.out, h2.out, h3.out, h4.out, h5.out, h6.out, h7.out, h8.out, h9.out, h10.out, h11.out, (fun _ => rfl), h14.out, hm⟩
      refine Steps.cons (i := 13) rfl ?_ ?_
      · rintro L a u ⟨aA', cA', aB', cB', x0, x1, x2, x3, x4, x5, x6, x7, x8, x9, x10, x11, x12, x14, rfl, h0, h1, h2, h3, h4, h5, h6, h7, h8, h9, h10, h11, h12, h14, hm⟩ hi hd K hK
        simp only [putAll, Act.put, List.setIfInBounds_toArray, List.set_cons_zero, List.set_cons_succ]
        (try simp [Region.binds] at hd)
        replace h0 := Lib.hid h0
        replace h1 := Lib.hid h1
        replace h2 := Lib.hid h2
        replace h3 := Lib.hid h3
        replace h4 := Lib.hid h4
        replace h5 := Lib.hid h5
        replace h6 := Lib.hid h6
        replace h7 := Lib.hid h7
        replace h8 := Lib.hid h8
        replace h9 := Lib.hid h9
        replace h10 := Lib.hid h10
        replace h11 := Lib.hid h11
        replace h12 := Lib.hid h12
        replace h14 := Lib.hid h14
        obtain rfl := (h11.out (by simp [hd])).symm
        have o0 := hm.o0 (by first | exact hi | assumption)
        have o1 := hm.o1 (by first | exact hi | assumption)
        have f0 := hm.o.frozen 0
        have f1 := hm.o.frozen 1
        go_simp
        exact hK.out _ _ ⟨aA', cA', aB', cB', _, _, _, _, _, _, _, _, _, _, _, _, _, _, by ((simp only [putAll, Act.put, List.setIfInBounds_toArray, List.set_cons_zero, List.set_cons_succ]) <;> rfl), h0.out, h1.out, h2.out, h3.out, h4.out, h5.out, h6.out, h7.out, h8.out, h9.out, h10.out, h11.out, h12.out, h14.out, (hm.store hi (by simp [hd]))⟩
      refine Steps.cons (i := 14) rfl ?_ ?_
      · rintro L a u ⟨aA', cA', aB', cB', x0, x1, x2, x3, x4, x5, x6, x7, x8, x9, x10, x11, x12, x14, rfl, h0, h1, h2, h3, h4, h5, h6, h7, h8, h9, h10, h11, h12, h14, hm⟩ hi hd K hK
        simp only [putAll, Act.put, List.setIfInBounds_toArray, List.set_cons_zero, List.set_cons_succ]
        (try simp [Region.binds] at hd)
        replace h0 := Lib.hid h0
        replace h1 := Lib.hid h1
        replace h2 := Lib.hid h2
        replace h3 := Lib.hid h3
        replace h4 := Lib.hid h4
        replace h5 := Lib.hid h5
        replace h6 := Lib.hid h6
        replace h7 := Lib.hid h7
        replace h8 := Lib.hid h8
        replace h9 := Lib.hid h9
        replace h10 := Lib.hid h10
        replace h11 := Lib.hid h11
        replace h12 := Lib.hid h12
        replace h14 := Lib.hid h14
        obtain rfl := (h12.out (by simp [hd])).symm
        go_simp
        exact hK.out _ _ ⟨aA', cA', aB', cB', _, _, _, _, _, _, _, _, _, _, _, _, _, _, by ((simp only [putAll, Act.put, List.setIfInBounds_toArray, List.set_cons_zero, List.set_cons_succ]) <;> rfl), h0.out, h1.out, h2.out, h3.out, h4.out, h5.out, h6.out, h7.out, h8.out, h9.out, h10.out, h11.out, h12.out, (fun _ => rfl), hm⟩
      · exact Steps.nil
      · rintro L a u ⟨aA', cA', aB', cB', x0, x1, x2, x3, x4, x5, x6, x7, x8, x9, x10, x11, x12, x14, rfl, h0, h1, h2, h3, h4, h5, h6, h7, h8, h9, h10, h11, h12, h14, hm⟩ hall
        obtain rfl := (h14 (hall 14 (by decide))).symm
        simp only [putAll, Act.put, List.setIfInBounds_toArray, List.set_cons_zero, List.set_cons_succ]
        have HM : Hid (Sv _ _ _ _ _ _ _ _ _ _ _ _ _) := hm
        have h13 := hall 13 (by decide)
        clear hm
        go_wp2_with fail
        have HZ := Lib.hid (HM.out.end' h13)
        have r0 : u.cell? ⟨w.heap.size + 1, 0, none⟩ = some (.slice aA' A'.length cA') := HZ.out.1.cell 0
        have r1 : u.cell? ⟨w.heap.size + 1, 1, none⟩ = some (.slice aB' B'.length cB') := HZ.out.1.cell 1
        refine bodyPost_ret (v := .tuple #[.agg #[.slice aA' A'.length cA', .slice aB' B'.length cB'], .int .i64 z]) (by simp [results, Tryz.results12, go_sem, r0, r1]) rfl ?_
        exact ⟨_, _, rfl, HZ.out.2.1, HZ.out.2.2.1, HZ.out.2.2.2⟩
    · have KP1 : Hid (∀ u, Below w.heap.size w u → Calls Tryz.prog 39 #[.agg #[.slice aA n cA, .slice aB n cB], .bool false, .int .i64 0, .slice ad l.length c] u (RlRes base P A' B' z u)) := by have := KP.out; rwa [HB0.out, decide_eq_false hf] at this
      have dz : decide (0 < fst) = false := decide_eq_false hf
      clear HB0 KP hf
      refine wp_region_inv (I := (fun A0 L a u => ∃ (aA' : Option Addr) (cA' : Nat) (aB' : Option Addr) (cB' : Nat) (x0 x1 x2 x3 x4 x5 x6 x7 x8 x9 x10 x11 x12 x14 : Value), a = putAll A0 [(14, x0), (15, x1), (16, x2), (17, x3), (18, x4), (19, x5), (20, x6), (21, x7), (22, x8), (23, x9), (24, x10), (25, x11), (26, x12), (5, x14)] ∧ (L 0 = true → x0 = (.agg #[.slice aA n cA, .slice aB n cB])) ∧ (L 1 = true → x1 = (.agg #[.slice aA n cA, .slice aB n cB])) ∧ (L 2 = true → x2 = (.bool false)) ∧ (L 3 = true → x3 = (.bool true)) ∧ (L 4 = true → x4 = (.bool true)) ∧ (L 5 = true → x5 = (.agg #[.slice aA n cA, .slice aB n cB])) ∧ (L 6 = true → x6 = (.int .u64 (fst : Int))) ∧ (L 7 = true → x7 = (.bool false)) ∧ (L 8 = true → x8 = (.bool false)) ∧ (L 9 = true → x9 = (.slice ad l.length c)) ∧ (L 10 = true → x10 = (.tuple #[.agg #[.slice aA' A'.length cA', .slice aB' B'.length cB'], .int .i64 z])) ∧ (L 11 = true → x11 = (.agg #[.slice aA' A'.length cA', .slice aB' B'.length cB'])) ∧ (L 12 = true → x12 = (.int .i64 z)) ∧ (L 14 = true → x14 = (.int .i64 z)) ∧ Sv base P w (.slice aA n cA) (.slice aB n cB) (.slice aA' A'.length cA') (.slice aB' B'.length cB') A' B' (L 10) (L 11) (L 13) u)) (by kernel_rfl) (by kernel_rfl) ?_ ?_ ?_
      · intro L hL
        exact ⟨none, 0, none, 0, _, _, _, _, _, _, _, _, _, _, _, _, _, _, by (simp only [putAll, Act.put, List.setIfInBounds_toArray, List.set_cons_zero, List.set_cons_succ]; rfl), (fun h => absurd h (by rw [hL 0 (by decide)]; decide)), (fun h => absurd h (by rw [hL 1 (by decide)]; decide)), (fun h => absurd h (by rw [hL 2 (by decide)]; decide)), (fun h => absurd h (by rw [hL 3 (by decide)]; decide)), (fun h => absurd h (by rw [hL 4 (by decide)]; decide)), (fun h => absurd h (by rw [hL 5 (by decide)]; decide)), (fun h => absurd h (by rw [hL 6 (by decide)]; decide)), (fun h => absurd h (by rw [hL 7 (by decide)]; decide)), (fun h => absurd h (by rw [hL 8 (by decide)]; decide)), (fun h => absurd h (by rw [hL 9 (by decide)]; decide)), (fun h => absurd h (by rw [hL 10 (by decide)]; decide)), (fun h => absurd h (by rw [hL 11 (by decide)]; decide)), (fun h => absurd h (by rw [hL 12 (by decide)]; decide)), (fun h => absurd h (by rw [hL 14 (by decide)]; decide)), by rw [hL 10 (by decide), hL 11 (by decide), hL 13 (by decide)]; exact S0.out⟩
      refine Steps.cons (i := 0) rfl ?_ ?_
      · rintro L a u ⟨aA', cA', aB', cB', x0, x1, x2, x3, x4, x5, x6, x7, x8, x9, x10, x11, x12, x14, rfl, h0, h1, h2, h3, h4, h5, h6, h7, h8, h9, h10, h11, h12, h14, hm⟩ hi hd K hK
        simp only [putAll, Act.put, List.setIfInBounds_toArray, List.set_cons_zero, List.set_cons_succ]
        (try simp [Region.binds] at hd)
        replace h0 := Lib.hid h0
        replace h1 := Lib.hid h1
        replace h2 := Lib.hid h2
        replace h3 := Lib.hid h3
        replace h4 := Lib.hid h4
        replace h5 := Lib.hid h5
        replace h6 := Lib.hid h6
        replace h7 := Lib.hid h7
        replace h8 := Lib.hid h8
        replace h9 := Lib.hid h9
        replace h10 := Lib.hid h10
        replace h11 := Lib.hid h11
        replace h12 := Lib.hid h12
        replace h14 := Lib.hid h14
        have c0 : u.cell? ⟨w.heap.size, 0, none⟩ = some (.slice aA n cA) := hm.q.cell 0
        have c1 : u.cell? ⟨w.heap.size, 1, none⟩ = some (.slice aB n cB) := hm.q.cell 1
        go_simp
        exact hK.out _ _ ⟨aA', cA', aB', cB', _, _, _, _, _, _, _, _, _, _, _, _, _, _, by ((simp only [putAll, Act.put, List.setIfInBounds_toArray, List.set_cons_zero, List.set_cons_succ]) <;> rfl), (fun _ => rfl), h1.out, h2.out, h3.out, h4.out, h5.out, h6.out, h7.out, h8.out, h9.out, h10.out, h11.out, h12.out, h14.out, hm⟩
      refine Steps.cons (i := 1) rfl ?_ ?_
      · rintro L a u ⟨aA', cA', aB', cB', x0, x1, x2, x3, x4, x5, x6, x7, x8, x9, x10, x11, x12, x14, rfl, h0, h1, h2, h3, h4, h5, h6, h7, h8, h9, h10, h11, h12, h14, hm⟩ hi hd K hK
        simp only [putAll, Act.put, List.setIfInBounds_toArray, List.set_cons_zero, List.set_cons_succ]
        (try simp [Region.binds] at hd)
        replace h0 := Lib.hid h0
        replace h1 := Lib.hid h1
        replace h2 := Lib.hid h2
        replace h3 := Lib.hid h3
        replace h4 := Lib.hid h4
        replace h5 := Lib.hid h5
        replace h6 := Lib.hid h6
        replace h7 := Lib.hid h7
        replace h8 := Lib.hid h8
        replace h9 := Lib.hid h9
        replace h10 := Lib.hid h10
        replace h11 := Lib.hid h11
        replace h12 := Lib.hid h12
        replace h14 := Lib.hid h14
        have c0 : u.cell? ⟨w.heap.size, 0, none⟩ = some (.slice aA n cA) := hm.q.cell 0
        have c1 : u.cell? ⟨w.heap.size, 1, none⟩ = some (.slice aB n cB) := hm.q.cell 1
        go_simp
        exact hK.out _ _ ⟨aA', cA', aB', cB', _, _, _, _, _, _, _, _, _, _, _, _, _, _, by ((simp only [putAll, Act.put, List.setIfInBounds_toArray, List.set_cons_zero, List.set_cons_succ]) <;> rfl), h0.out, (fun _ => rfl), h2.out, h3.out, h4.out, h5.out, h6.out, h7.out, h8.out, h9.out, h10.out, h11.out, h12.out, h14.out, hm⟩
      refine Steps.cons (i := 2) rfl ?_ ?_
      · rintro L a u ⟨aA', cA', aB', cB', x0, x1, x2, x3, x4, x5, x6, x7, x8, x9, x10, x11, x12, x14, rfl, h0, h1, h2, h3, h4, h5, h6, h7, h8, h9, h10, h11, h12, h14, hm⟩ hi hd K hK
        simp only [putAll, Act.put, List.setIfInBounds_toArray, List.set_cons_zero, List.set_cons_succ]
        (try simp [Region.binds] at hd)
        replace h0 := Lib.hid h0
        replace h1 := Lib.hid h1
        replace h2 := Lib.hid h2
        replace h3 := Lib.hid h3
        replace h4 := Lib.hid h4
        replace h5 := Lib.hid h5
        replace h6 := Lib.hid h6
        replace h7 := Lib.hid h7
        replace h8 := Lib.hid h8
        replace h9 := Lib.hid h9
        replace h10 := Lib.hid h10
        replace h11 := Lib.hid h11
        replace h12 := Lib.hid h12
        replace h14 := Lib.hid h14
        obtain rfl := (h1.out (by simp [hd])).symm
        go_simp
        refine (KS.out u hm.b).mono ?_
        rintro e u5 ⟨rfl, hb5⟩
        go_wp2_with fail
        exact hK.out _ _ ⟨aA', cA', aB', cB', _, _, _, _, _, _, _, _, _, _, _, _, _, _, by ((simp only [putAll, Act.put, List.setIfInBounds_toArray, List.set_cons_zero, List.set_cons_succ]) <;> rfl), h0.out, (fun _ => rfl), (fun _ => rfl), h3.out, h4.out, h5.out, h6.out, h7.out, h8.out, h9.out, h10.out, h11.out, h12.out, h14.out, (hm.later hb5)⟩
      refine Steps.cons (i := 3) rfl ?_ ?_
      · rintro L a u ⟨aA', cA', aB', cB', x0, x1, x2, x3, x4, x5, x6, x7, x8, x9, x10, x11, x12, x14, rfl, h0, h1, h2, h3, h4, h5, h6, h7, h8, h9, h10, h11, h12, h14, hm⟩ hi hd K hK
        simp only [putAll, Act.put, List.setIfInBounds_toArray, List.set_cons_zero, List.set_cons_succ]
        (try simp [Region.binds] at hd)
        replace h0 := Lib.hid h0
        replace h1 := Lib.hid h1
        replace h2 := Lib.hid h2
        replace h3 := Lib.hid h3
        replace h4 := Lib.hid h4
        replace h5 := Lib.hid h5
        replace h6 := Lib.hid h6
        replace h7 := Lib.hid h7
        replace h8 := Lib.hid h8
        replace h9 := Lib.hid h9
        replace h10 := Lib.hid h10
        replace h11 := Lib.hid h11
        replace h12 := Lib.hid h12
        replace h14 := Lib.hid h14
        obtain rfl := (h2.out (by simp [hd])).symm
        go_simp
        exact hK.out _ _ ⟨aA', cA', aB', cB', _, _, _, _, _, _, _, _, _, _, _, _, _, _, by ((simp only [putAll, Act.put, List.setIfInBounds_toArray, List.set_cons_zero, List.set_cons_succ]) <;> rfl), h0.out, h1.out, h2.out, (fun _ => rfl), h4.out, h5.out, h6.out, h7.out, h8.out, h9.out, h10.out, h11.out, h12.out, h14.out, hm⟩
      refine Steps.cons (i := 4) rfl ?_ ?_
      · rintro L a u ⟨aA', cA', aB', cB', x0, x1, x2, x3, x4, x5, x6, x7, x8, x9, x10, x11, x12, x14, rfl, h0, h1, h2, h3, h4, h5, h6, h7, h8, h9, h10, h11, h12, h14, hm⟩ hi hd K hK
        simp only [putAll, Act.put, List.setIfInBounds_toArray, List.set_cons_zero, List.set_cons_succ]
        (try simp [Region.binds] at hd)
        replace h0 := Lib.hid h0
        replace h1 := Lib.hid h1
        replace h2 := Lib.hid h2
        replace h3 := Lib.hid h3
        replace h4 := Lib.hid h4
        replace h5 := Lib.hid h5
        replace h6 := Lib.hid h6
        replace h7 := Lib.hid h7
        replace h8 := Lib.hid h8
        replace h9 := Lib.hid h9
        replace h10 := Lib.hid h10
        replace h11 := Lib.hid h11
        replace h12 := Lib.hid h12
        replace h14 := Lib.hid h14
        obtain rfl := (h3.out (by simp [hd])).symm
        go_simp
        exact hK.out _ _ ⟨aA', cA', aB', cB', _, _, _, _, _, _, _, _, _, _, _, _, _, _, by ((simp only [putAll, Act.put, List.setIfInBounds_toArray, List.set_cons_zero, List.set_cons_succ]) <;> rfl), h0.out, h1.out, h2.out, h3.out, (fun _ => rfl), h5.out, h6.out, h7.out, h8.out, h9.out, h10.out, h11.out, h12.out, h14.out, hm⟩
      refine Steps.cons (i := 5) rfl ?_ ?_
      · rintro L a u ⟨aA', cA', aB', cB', x0, x1, x2, x3, x4, x5, x6, x7, x8, x9, x10, x11, x12, x14, rfl, h0, h1, h2, h3, h4, h5, h6, h7, h8, h9, h10, h11, h12, h14, hm⟩ hi hd K hK
        simp only [putAll, Act.put, List.setIfInBounds_toArray, List.set_cons_zero, List.set_cons_succ]
        (try simp [Region.binds] at hd)
        replace h0 := Lib.hid h0
        replace h1 := Lib.hid h1
        replace h2 := Lib.hid h2
        replace h3 := Lib.hid h3
        replace h4 := Lib.hid h4
        replace h5 := Lib.hid h5
        replace h6 := Lib.hid h6
        replace h7 := Lib.hid h7
        replace h8 := Lib.hid h8
        replace h9 := Lib.hid h9
        replace h10 := Lib.hid h10
        replace h11 := Lib.hid h11
        replace h12 := Lib.hid h12
        replace h14 := Lib.hid h14
        obtain rfl := (h4.out (by simp [hd])).symm
        have c0 : u.cell? ⟨w.heap.size, 0, none⟩ = some (.slice aA n cA) := hm.q.cell 0
        have c1 : u.cell? ⟨w.heap.size, 1, none⟩ = some (.slice aB n cB) := hm.q.cell 1
        go_simp
        exact hK.out _ _ ⟨aA', cA', aB', cB', _, _, _, _, _, _, _, _, _, _, _, _, _, _, by ((simp only [putAll, Act.put, List.setIfInBounds_toArray, List.set_cons_zero, List.set_cons_succ]) <;> rfl), h0.out, h1.out, h2.out, h3.out, h4.out, (fun _ => rfl), h6.out, h7.out, h8.out, h9.out, h10.out, h11.out, h12.out, h14.out, hm⟩
      refine Steps.cons (i := 6) rfl ?_ ?_
      · rintro L a u ⟨aA', cA', aB', cB', x0, x1, x2, x3, x4, x5, x6, x7, x8, x9, x10, x11, x12, x14, rfl, h0, h1, h2, h3, h4, h5, h6, h7, h8, h9, h10, h11, h12, h14, hm⟩ hi hd K hK
        simp only [putAll, Act.put, List.setIfInBounds_toArray, List.set_cons_zero, List.set_cons_succ]
        (try simp [Region.binds] at hd)
        replace h0 := Lib.hid h0
        replace h1 := Lib.hid h1
        replace h2 := Lib.hid h2
        replace h3 := Lib.hid h3
        replace h4 := Lib.hid h4
        replace h5 := Lib.hid h5
        replace h6 := Lib.hid h6
        replace h7 := Lib.hid h7
        replace h8 := Lib.hid h8
        replace h9 := Lib.hid h9
        replace h10 := Lib.hid h10
        replace h11 := Lib.hid h11
        replace h12 := Lib.hid h12
        replace h14 := Lib.hid h14
        obtain rfl := (h4.out (by simp [hd])).symm
        obtain rfl := (h5.out (by simp [hd])).symm
        go_simp
        refine (KG.out u hm.b).mono ?_
        rintro e u5 ⟨rfl, hb5⟩
        go_wp2_with fail
        exact hK.out _ _ ⟨aA', cA', aB', cB', _, _, _, _, _, _, _, _, _, _, _, _, _, _, by ((simp only [putAll, Act.put, List.setIfInBounds_toArray, List.set_cons_zero, List.set_cons_succ]) <;> rfl), h0.out, h1.out, h2.out, h3.out, (fun _ => rfl), (fun _ => rfl), (fun _ => rfl), h7.out, h8.out, h9.out, h10.out, h11.out, h12.out, h14.out, (hm.later hb5)⟩
      refine Steps.cons (i := 7) rfl ?_ ?_
      · rintro L a u ⟨aA', cA', aB', cB', x0, x1, x2, x3, x4, x5, x6, x7, x8, x9, x10, x11, x12, x14, rfl, h0, h1, h2, h3, h4, h5, h6, h7, h8, h9, h10, h11, h12, h14, hm⟩ hi hd K hK
        simp only [putAll, Act.put, List.setIfInBounds_toArray, List.set_cons_zero, List.set_cons_succ]
        (try simp [Region.binds] at hd)
        replace h0 := Lib.hid h0
        replace h1 := Lib.hid h1
        replace h2 := Lib.hid h2
        replace h3 := Lib.hid h3
        replace h4 := Lib.hid h4
        replace h5 := Lib.hid h5
        replace h6 := Lib.hid h6
        replace h7 := Lib.hid h7
        replace h8 := Lib.hid h8
        replace h9 := Lib.hid h9
        replace h10 := Lib.hid h10
        replace h11 := Lib.hid h11
        replace h12 := Lib.hid h12
        replace h14 := Lib.hid h14
        obtain rfl := (h4.out (by simp [hd])).symm
        obtain rfl := (h6.out (by simp [hd])).symm
        go_simp
        exact hK.out _ _ ⟨aA', cA', aB', cB', _, _, _, _, _, _, _, _, _, _, _, _, _, _, by ((simp only [putAll, Act.put, List.setIfInBounds_toArray, List.set_cons_zero, List.set_cons_succ]) <;> rfl), h0.out, h1.out, h2.out, h3.out, h4.out, h5.out, h6.out, (fun _ => rfl), h8.out, h9.out, h10.out, h11.out, h12.out, h14.out, hm⟩
      refine Steps.cons (i := 8) rfl ?_ ?_
      · rintro L a u ⟨aA', cA', aB', cB', x0, x1, x2, x3, x4, x5, x6, x7, x8, x9, x10, x11, x12, x14, rfl, h0, h1, h2, h3, h4, h5, h6, h7, h8, h9, h10, h11, h12, h14, hm⟩ hi hd K hK
        simp only [putAll, Act.put, List.setIfInBounds_toArray, List.set_cons_zero, List.set_cons_succ]
        (try simp [Region.binds] at hd)
        replace h0 := Lib.hid h0
        replace h1 := Lib.hid h1
        replace h2 := Lib.hid h2
        replace h3 := Lib.hid h3
        replace h4 := Lib.hid h4
        replace h5 := Lib.hid h5
        replace h6 := Lib.hid h6
        replace h7 := Lib.hid h7
        replace h8 := Lib.hid h8
        replace h9 := Lib.hid h9
        replace h10 := Lib.hid h10
        replace h11 := Lib.hid h11
        replace h12 := Lib.hid h12
        replace h14 := Lib.hid h14
        obtain rfl := (h4.out (by simp [hd])).symm
        obtain rfl := (h7.out (by simp [hd])).symm
        go_simp
        exact hK.out _ _ ⟨aA', cA', aB', cB', _, _, _, _, _, _, _, _, _, _, _, _, _, _, by ((simp only [putAll, Act.put, List.setIfInBounds_toArray, List.set_cons_zero, List.set_cons_succ]) <;> rfl), h0.out, h1.out, h2.out, h3.out, h4.out, h5.out, h6.out, h7.out, (fun _ => rfl), h9.out, h10.out, h11.out, h12.out, h14.out, hm⟩
      refine Steps.cons (i := 9) rfl ?_ ?_
      · rintro L a u ⟨aA', cA', aB', cB', x0, x1, x2, x3, x4, x5, x6, x7, x8, x9, x10, x11, x12, x14, rfl, h0, h1, h2, h3, h4, h5, h6, h7, h8, h9, h10, h11, h12, h14, hm⟩ hi hd K hK
        simp only [putAll, Act.put, List.setIfInBounds_toArray, List.set_cons_zero, List.set_cons_succ]
        (try simp [Region.binds] at hd)
        replace h0 := Lib.hid h0
        replace h1 := Lib.hid h1
        replace h2 := Lib.hid h2
        replace h3 := Lib.hid h3
        replace h4 := Lib.hid h4
        replace h5 := Lib.hid h5
        replace h6 := Lib.hid h6
        replace h7 := Lib.hid h7
        replace h8 := Lib.hid h8
        replace h9 := Lib.hid h9
        replace h10 := Lib.hid h10
        replace h11 := Lib.hid h11
        replace h12 := Lib.hid h12
        replace h14 := Lib.hid h14
        go_simp
        exact hK.out _ _ ⟨aA', cA', aB', cB', _, _, _, _, _, _, _, _, _, _, _, _, _, _, by ((simp only [putAll, Act.put, List.setIfInBounds_toArray, List.set_cons_zero, List.set_cons_succ]) <;> rfl), h0.out, h1.out, h2.out, h3.out, h4.out, h5.out, h6.out, h7.out, h8.out, (fun _ => rfl), h10.out, h11.out, h12.out, h14.out, hm⟩
      refine Steps.cons (i := 10) rfl ?_ ?_
      · rintro L a u ⟨aA', cA', aB', cB', x0, x1, x2, x3, x4, x5, x6, x7, x8, x9, x10, x11, x12, x14, rfl, h0, h1, h2, h3, h4, h5, h6, h7, h8, h9, h10, h11, h12, h14, hm⟩ hi hd K hK
        simp only [putAll, Act.put, List.setIfInBounds_toArray, List.set_cons_zero, List.set_cons_succ]
        (try simp [Region.binds] at hd)
        replace h0 := Lib.hid h0
        replace h1 := Lib.hid h1
        replace h2 := Lib.hid h2
        replace h3 := Lib.hid h3
        replace h4 := Lib.hid h4
        replace h5 := Lib.hid h5
        replace h6 := Lib.hid h6
        replace h7 := Lib.hid h7
        replace h8 := Lib.hid h8
        replace h9 := Lib.hid h9
        replace h10 := Lib.hid h10
        replace h11 := Lib.hid h11
        replace h12 := Lib.hid h12
        replace h14 := Lib.hid h14
        obtain rfl := (h0.out (by simp [hd])).symm
        obtain rfl := (h8.out (by simp [hd])).symm
        obtain rfl := (h9.out (by simp [hd])).symm
        go_simp
        refine (KP1.out u hm.b).mono ?_
        rintro e u5 ⟨vA2, vB2, rfl, hl5, hp5, hb5⟩
        obtain ⟨aA2, cA2, rfl⟩ := own_slice hl5.a
        obtain ⟨aB2, cB2, rfl⟩ := own_slice hl5.b
        go_wp2_with fail
        exact hK.out _ _ ⟨aA2, cA2, aB2, cB2, _, _, _, _, _, _, _, _, _, _, _, _, _, _, by ((simp only [putAll, Act.put, List.setIfInBounds_toArray, List.set_cons_zero, List.set_cons_succ]) <;> rfl), (fun _ => rfl), h1.out, h2.out, h3.out, h4.out, h5.out, h6.out, h7.out, (fun _ => rfl), (fun _ => rfl), (fun _ => rfl), (fun h => absurd (hm.m1 h) (by rw [hi]; decide)), h12.out, h14.out, (hm.did hi hl5 hp5 hb5)⟩
      refine Steps.cons (i := 11) rfl ?_ ?_
      · rintro L a u ⟨aA', cA', aB', cB', x0, x1, x2, x3, x4, x5, x6, x7, x8, x9, x10, x11, x12, x14, rfl, h0, h1, h2, h3, h4, h5, h6, h7, h8, h9, h10, h11, h12, h14, hm⟩ hi hd K hK
        simp only [putAll, Act.put, List.setIfInBounds_toArray, List.set_cons_zero, List.set_cons_succ]
        (try simp [Region.binds] at hd)
        replace h0 := Lib.hid h0
        replace h1 := Lib.hid h1
        replace h2 := Lib.hid h2
        replace h3 := Lib.hid h3
        replace h4 := Lib.hid h4
        replace h5 := Lib.hid h5
        replace h6 := Lib.hid h6
        replace h7 := Lib.hid h7
        replace h8 := Lib.hid h8
        replace h9 := Lib.hid h9
        replace h10 := Lib.hid h10
        replace h11 := Lib.hid h11
        replace h12 := Lib.hid h12
        replace h14 := Lib.hid h14
        obtain rfl := (h10.out (by simp [hd])).symm
        go_simp
        exact hK.out _ _ ⟨aA', cA', aB', cB', _, _, _, _, _, _, _, _, _, _, _, _, _, _, by ((simp only [putAll, Act.put, List.setIfInBounds_toArray, List.set_cons_zero, List.set_cons_succ]) <;> rfl), h0.out, h1.out, h2.out, h3.out, h4.out, h5.out, h6.out, h7.out, h8.out, h9.out, h10.out, (fun _ => rfl), h12.out, h14.out, (hm.take (by simp [hd]))⟩
      refine Steps.cons (i := 12) rfl ?_ ?_
      · rintro L a u ⟨aA', cA', aB', cB', x0, x1, x2, x3, x4, x5, x6, x7, x8, x9, x10, x11, x12, x14, rfl, h0, h1, h2, h3, h4, h5, h6, h7, h8, h9, h10, h11, h12, h14, hm⟩ hi hd K hK
        simp only [putAll, Act.put, List.setIfInBounds_toArray, List.set_cons_zero, List.set_cons_succ]
        (try simp [Region.binds] at hd)
        replace h0 := Lib.hid h0
        replace h1 := Lib.hid h1
        replace h2 := Lib.hid h2
        replace h3 := Lib.hid h3
        replace h4 := Lib.hid h4
        replace h5 := Lib.hid h5
        replace h6 := Lib.hid h6
        replace h7 := Lib.hid h7
        replace h8 := Lib.hid h8
        replace h9 := Lib.hid h9
        replace h10 := Lib.hid h10
        replace h11 := Lib.hid h11
        replace h12 := Lib.hid h12
        replace h14 := Lib.hid h14
        obtain rfl := (h10.out (by simp [hd])).symm
        go_simp
        exact hK.out _ _ ⟨aA', cA', aB', cB', _, _, _, _, _, _, _, _, _, _, _, _, _, _, by ((simp only [putAll, Act.put, List.setIfInBounds_toArray, List.set_cons_zero, List.set_cons_succ]) <;> rfl), h0.out, h1.out, h2.out, h3.out, h4.out, h5.out, h6.out, h7.out, h8.out, h9.out, h10.out, h11.out, (fun _ => rfl), h14.out, hm⟩
      refine Steps.cons (i := 13) rfl ?_ ?_
      · rintro L a u ⟨aA', cA', aB', cB', x0, x1, x2, x3, x4, x5, x6, x7, x8, x9, x10, x11, x12, x14, rfl, h0, h1, h2, h3, h4, h5, h6, h7, h8, h9, h10, h11, h12, h14, hm⟩ hi hd K hK
        simp only [putAll, Act.put, List.setIfInBounds_toArray, List.set_cons_zero, List.set_cons_succ]
        (try simp [Region.binds] at hd)
        replace h0 := Lib.hid h0
        replace h1 := Lib.hid h1
        replace h2 := Lib.hid h2
        replace h3 := Lib.hid h3
        replace h4 := Lib.hid h4
        replace h5 := Lib.hid h5
        replace h6 := Lib.hid h6
        replace h7 := Lib.hid h7
        replace h8 := Lib.hid h8
        replace h9 := Lib.hid h9
        replace h10 := Lib.hid h10
        replace h11 := Lib.hid h11
        replace h12 := Lib.hid h12
        replace h14 := Lib.hid h14
        obtain rfl := (h11.out (by simp [hd])).symm
        have o0 := hm.o0 (by first | exact hi | assumption)
        have o1 := hm.o1 (by first | exact hi | assumption)
        have f0 := hm.o.frozen 0
        have f1 := hm.o.frozen 1
        go_simp
        exact hK.out _ _ ⟨aA', cA', aB', cB', _, _, _, _, _, _, _, _, _, _, _, _, _, _, by ((simp only [putAll, Act.put, List.setIfInBounds_toArray, List.set_cons_zero, List.set_cons_succ]) <;> rfl), h0.out, h1.out, h2.out, h3.out, h4.out, h5.out, h6.out, h7.out, h8.out, h9.out, h10.out, h11.out, h12.out, h14.out, (hm.store hi (by simp [hd]))⟩
      refine Steps.cons (i := 14) rfl ?_ ?_
      · rintro L a u ⟨aA', cA', aB', cB', x0, x1, x2, x3, x4, x5, x6, x7, x8, x9, x10, x11, x12, x14, rfl, h0, h1, h2, h3, h4, h5, h6, h7, h8, h9, h10, h11, h12, h14, hm⟩ hi hd K hK
        simp only [putAll, Act.put, List.setIfInBounds_toArray, List.set_cons_zero, List.set_cons_succ]
        (try simp [Region.binds] at hd)
        replace h0 := Lib.hid h0
        replace h1 := Lib.hid h1
        replace h2 := Lib.hid h2
        replace h3 := Lib.hid h3
        replace h4 := Lib.hid h4
        replace h5 := Lib.hid h5
        replace h6 := Lib.hid h6
        replace h7 := Lib.hid h7
        replace h8 := Lib.hid h8
        replace h9 := Lib.hid h9
        replace h10 := Lib.hid h10
        replace h11 := Lib.hid h11
        replace h12 := Lib.hid h12
        replace h14 := Lib.hid h14
        obtain rfl := (h12.out (by simp [hd])).symm
        go_simp
        exact hK.out _ _ ⟨aA', cA', aB', cB', _, _, _, _, _, _, _, _, _, _, _, _, _, _, by ((simp only [putAll, Act.put, List.setIfInBounds_toArray, List.set_cons_zero, List.set_cons_succ]) <;> rfl), h0.out, h1.out, h2.out, h3.out, h4.out, h5.out, h6.out, h7.out, h8.out, h9.out, h10.out, h11.out, h12.out, (fun _ => rfl), hm⟩
      · exact Steps.nil
      · rintro L a u ⟨aA', cA', aB', cB', x0, x1, x2, x3, x4, x5, x6, x7, x8, x9, x10, x11, x12, x14, rfl, h0, h1, h2, h3, h4, h5, h6, h7, h8, h9, h10, h11, h12, h14, hm⟩ hall
        obtain rfl := (h14 (hall 14 (by decide))).symm
        simp only [putAll, Act.put, List.setIfInBounds_toArray, List.set_cons_zero, List.set_cons_succ]
        have HM : Hid (Sv _ _ _ _ _ _ _ _ _ _ _ _ _) := hm
        have h13 := hall 13 (by decide)
        clear hm
        go_wp2_with fail
        have HZ := Lib.hid (HM.out.end' h13)
        have r0 : u.cell? ⟨w.heap.size + 1, 0, none⟩ = some (.slice aA' A'.length cA') := HZ.out.1.cell 0
        have r1 : u.cell? ⟨w.heap.size + 1, 1, none⟩ = some (.slice aB' B'.length cB') := HZ.out.1.cell 1
        refine bodyPost_ret (v := .tuple #[.agg #[.slice aA' A'.length cA', .slice aB' B'.length cB'], .int .i64 z]) (by simp [results, Tryz.results12, go_sem, r0, r1]) rfl ?_
        exact ⟨_, _, rfl, HZ.out.2.1, HZ.out.2.2.1, HZ.out.2.2.2⟩
end Go.Proofs.YtbbnpcldplmgfaaGreatDoor.Wl
