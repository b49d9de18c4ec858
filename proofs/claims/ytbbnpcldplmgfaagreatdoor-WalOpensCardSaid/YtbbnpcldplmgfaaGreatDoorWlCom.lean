/- Package quittanceref06: Commit, by definition. -/
import Derived.Test.YtbbnpcldplmgfaaGreatDoorWjC
import Derived.Deep.RegionWith
namespace Go.Proofs.YtbbnpcldplmgfaaGreatDoor.Wl
open Go Go.RowKit Dv Rf Shf Rk
open Tal (Strs bas)
set_option maxRecDepth 100000 in
set_option maxHeartbeats 3200000 in
theorem rcommit_no {base : Nat} {P : Nat → Prop} {w : World} {vA vB : Value} {A B : List Rk.Sec} {SA SB : Ld} {n : Nat} (h : Lg base w vA vB A B) (hr : Rd n A B SA SB) (hP : ∀ j, vA.ownBlock = some j ∨ vB.ownBlock = some j → P j) {l : List Rk.Sec} (hl : Small l) {a : Option Addr} (c : Nat) (hs : Strs w a (bas l))
    (hT9 : 9223372036854775807 ≤ max (Sf.top A) (Sf.top B)) :
    Calls Tryz.prog 10 #[.agg #[vA, vB], .slice a l.length c] w (RlRes base P A B 6 w) := by
  have H := Lib.hid h
  have KM : Hid (∀ u, Below w.heap.size w u → Calls Tryz.prog 36 #[.agg #[vA, vB], .slice a l.length c] u fun e w' => e = .returned (.int .i64 6) ∧ Below u.heap.size u w') := fun u hu => by
    have := may_c (H.out.later hu) hr hl c (hs.later hu)
    unfold mayM at this
    rwa [if_pos hT9] at this
  obtain ⟨aA, cA, rfl⟩ := own_len h.a hr.la
  obtain ⟨aB, cB, rfl⟩ := own_len h.b hr.lb
  have X0 := Lib.hid (Bxs.new w (.slice aA n cA) (.slice aB n cB))
  have HP0 := Lib.hid hP
  clear h hr hl hs hT9 hP
  go_enter Tryz.func10, Tryz.ntmps10
  go_wp2_with fail
  generalize (w.alloc (.cells #[.slice aA n cA, .slice aB n cB] TLg)).alloc (.cells #[.slice none 0 0, .slice none 0 0] TLg) = w0 at *
  refine (KM.out _ X0.out.b).mono ?_
  rintro e w3 ⟨rfl, hb⟩
  have X3 := Lib.hid (X0.out.later hb)
  have q0 : w3.cell? ⟨w.heap.size, 0, none⟩ = some (.slice aA n cA) := X3.out.q.cell 0
  have q1 : w3.cell? ⟨w.heap.size, 1, none⟩ = some (.slice aB n cB) := X3.out.q.cell 1
  have o0 : w3.cell? ⟨w.heap.size + 1, 0, none⟩ = some (.slice none 0 0) := X3.out.o.cell 0
  have o1 : w3.cell? ⟨w.heap.size + 1, 1, none⟩ = some (.slice none 0 0) := X3.out.o.cell 1
  have f0 := X3.out.o.frozen 0
  have f1 := X3.out.o.frozen 1
  clear hb
  go_wp2_with fail
  have HRW : Hid (Rw ((w3.setCell ⟨w.heap.size + 1, 0, none⟩ (.slice aA n cA)).setCell ⟨w.heap.size + 1, 1, none⟩ (.slice aB n cB)) (w.heap.size + 1) TLg [.slice aA n cA, .slice aB n cB]) := (X3.out.o.setCell 0 _).setCell 1 _
  have HBW : Hid (Below w.heap.size w ((w3.setCell ⟨w.heap.size + 1, 0, none⟩ (.slice aA n cA)).setCell ⟨w.heap.size + 1, 1, none⟩ (.slice aB n cB))) := X3.out.put _ _
  generalize (w3.setCell ⟨w.heap.size + 1, 0, none⟩ (.slice aA n cA)).setCell ⟨w.heap.size + 1, 1, none⟩ (.slice aB n cB) = W at HRW HBW ⊢
  have r0 : W.cell? ⟨w.heap.size + 1, 0, none⟩ = some (.slice aA n cA) := HRW.out.cell 0
  have r1 : W.cell? ⟨w.heap.size + 1, 1, none⟩ = some (.slice aB n cB) := HRW.out.cell 1
  refine bodyPost_ret (v := .tuple #[.agg #[.slice aA n cA, .slice aB n cB], .int .i64 6]) (by simp [results, Tryz.results10, go_sem, r0, r1]) rfl ?_
  exact ⟨_, _, rfl, H.out.later HBW.out, fun j hj => .inl (HP0.out j hj), HBW.out⟩
set_option maxRecDepth 100000 in
set_option maxHeartbeats 3200000 in
theorem rcommit_go {base : Nat} {P : Nat → Prop} {w : World} {vA vB : Value} {A B : List Rk.Sec} {SA SB : Ld} {n : Nat} (h : Lg base w vA vB A B) (hr : Rd n A B SA SB) (hbase : base ≤ w.heap.size) (hP : ∀ j, vA.ownBlock = some j ∨ vB.ownBlock = some j → P j) {l : List Rk.Sec} (hl : Small l) {a : Option Addr} (c : Nat) (hs : Strs w a (bas l)) (b : Bool) (hb0 : b = decide (SA.first < SB.first)) 
    (T : Nat) (hT : T = max (Sf.top A) (Sf.top B)) (hT9 : T < 9223372036854775807) (N : List Rk.Sec) (z : Int) (hN : rputM (pick b A B) (lgS SA SB).e (T + 1) (Tal.row (bas l)) = (N, z)) :
    Calls Tryz.prog 10 #[.agg #[vA, vB], .slice a l.length c] w (RlRes base P (if b then A else N) (if b then N else B) z w) := by
  have H := Lib.hid h
  have KM : Hid (∀ u, Below w.heap.size w u → Calls Tryz.prog 36 #[.agg #[vA, vB], .slice a l.length c] u fun e w' => e = .returned (.int .i64 0) ∧ Below u.heap.size u w') := fun u hu => by
    have := may_c (H.out.later hu) hr hl c (hs.later hu)
    unfold mayM at this
    rwa [if_neg (by omega)] at this
  obtain ⟨aH, cH, _, k1, k2⟩ := log_o h hr
  have K1 := Lib.hid k1
  have K2 := Lib.hid k2
  have KS : Hid (∀ u, Below w.heap.size w u → Calls Tryz.prog 40 #[.agg #[vA, vB]] u fun e w' => e = .returned (.bool b) ∧ Below u.heap.size u w') := fun u hu => by rw [hb0]; exact second_c (H.out.later hu) hr
  have hle : (lgS SA SB).e ≤ n := by have := hr.l.r.fine.le; rwa [hr.ll] at this
  obtain ⟨p, hp⟩ : ∃ p, p = (lgS SA SB).e := ⟨_, rfl⟩
  rw [← hp] at hN hle K2
  obtain ⟨A', hA'⟩ : ∃ A', A' = if b then A else N := ⟨_, rfl⟩
  obtain ⟨B', hB'⟩ : ∃ B', B' = if b then N else B := ⟨_, rfl⟩
  have KP : Hid (∀ u, Below w.heap.size w u → Calls Tryz.prog 39 #[.agg #[vA, vB], .bool b, .int .i64 (p : Int), .slice a l.length c] u (RlRes base P A' B' z u)) := fun u hu => by
    rw [hA', hB']
    exact put_o (H.out.later hu) hr (Nat.le_trans hbase hu.size) hP hl c (hs.later hu) b p hle T hT hT9 N z hN
  rw [← hA', ← hB']
  obtain ⟨aA, cA, rfl⟩ := own_len h.a hr.la
  obtain ⟨aB, cB, rfl⟩ := own_len h.b hr.lb
  have X0 := Lib.hid (Bxs.new w (.slice aA n cA) (.slice aB n cB))
  obtain ⟨fst, hfst⟩ : ∃ fst : Nat, fst = (lgS SA SB).first := ⟨_, rfl⟩
  rw [← hfst] at K2
  obtain ⟨TT, hTT⟩ : ∃ TT, TT = (lgS SA SB).T := ⟨_, rfl⟩
  rw [← hTT] at K2
  clear h hr hl hs hT hT9 hbase hP k1 k2 hb0 hle hp hA' hB' hN hfst hTT
  go_enter Tryz.func10, Tryz.ntmps10
  go_wp2_with fail
  generalize (w.alloc (.cells #[.slice aA n cA, .slice aB n cB] TLg)).alloc (.cells #[.slice none 0 0, .slice none 0 0] TLg) = w0 at *
  refine (KM.out _ X0.out.b).mono ?_
  rintro e w1 ⟨rfl, hb⟩
  have X1 := Lib.hid (X0.out.later hb)
  have q0 : w1.cell? ⟨w.heap.size, 0, none⟩ = some (.slice aA n cA) := X1.out.q.cell 0
  have q1 : w1.cell? ⟨w.heap.size, 1, none⟩ = some (.slice aB n cB) := X1.out.q.cell 1
  clear hb
  go_wp2_with fail
  refine (K1.out _ X1.out.b).mono ?_
  rintro e w2 ⟨rfl, hb⟩
  have X2 := Lib.hid (X1.out.later hb)
  clear hb q0 q1
  go_wp2_with fail
  refine (K2.out _ X2.out.b).mono ?_
  rintro e w3 ⟨v3, rfl, ho, hb⟩
  obtain ⟨a3, c3, rfl⟩ := own_slice ho
  have X3 := Lib.hid (X2.out.later hb)
  clear hb ho
  go_wp2_with fail
  have X4 : Hid (Bxs w w3.drew (.slice aA n cA) (.slice aB n cB)) := X3.out.later (Below.refl _ _).drew
  have q0 : w3.cell? ⟨w.heap.size, 0, none⟩ = some (.slice aA n cA) := X3.out.q.cell 0
  have q1 : w3.cell? ⟨w.heap.size, 1, none⟩ = some (.slice aB n cB) := X3.out.q.cell 1
  go_region_with ((first | (go_at_call 40; refine (KS.out _ X4.out.b).mono ?_; rintro e w5 ⟨rfl, hb⟩; have X5 := Lib.hid (X4.out.later hb); have q0' : w5.cell? ⟨w.heap.size, 0, none⟩ = some (.slice aA n cA) := X5.out.q.cell 0; have q1' : w5.cell? ⟨w.heap.size, 1, none⟩ = some (.slice aB n cB) := X5.out.q.cell 1; clear hb) | (go_at_call 39; refine (KP.out _ X5.out.b).mono ?_; rintro e w6 ⟨vA', vB', rfl, hl6, hp6, hb⟩; have HP6 : Hid (∀ j, vA'.ownBlock = some j ∨ vB'.ownBlock = some j → P j ∨ w.heap.size ≤ j) := fun j hj => (hp6 j hj).imp id fun h => Nat.le_trans X5.out.b.size h; have X6 := Lib.hid (X5.out.later hb); have HL6 := Lib.hid hl6; obtain ⟨aA', cA', rfl⟩ := own_slice hl6.a; obtain ⟨aB', cB', rfl⟩ := own_slice hl6.b; have o0 : w6.cell? ⟨w.heap.size + 1, 0, none⟩ = some (.slice none 0 0) := X6.out.o.cell 0; have o1 : w6.cell? ⟨w.heap.size + 1, 1, none⟩ = some (.slice none 0 0) := X6.out.o.cell 1; have f0 := X6.out.o.frozen 0; have f1 := X6.out.o.frozen 1; clear hb hl6 hp6)))
  all_goals (
    go_wp2_with fail
    have HRW : Hid (Rw ((w6.setCell ⟨w.heap.size + 1, 0, none⟩ (.slice aA' A'.length cA')).setCell ⟨w.heap.size + 1, 1, none⟩ (.slice aB' B'.length cB')) (w.heap.size + 1) TLg [.slice aA' A'.length cA', .slice aB' B'.length cB']) := (X6.out.o.setCell 0 _).setCell 1 _
    have HLG : Hid (Lg base ((w6.setCell ⟨w.heap.size + 1, 0, none⟩ (.slice aA' A'.length cA')).setCell ⟨w.heap.size + 1, 1, none⟩ (.slice aB' B'.length cB')) (.slice aA' A'.length cA') (.slice aB' B'.length cB') A' B') := ⟨X6.out.own HL6.out.a _ _, X6.out.own HL6.out.b _ _⟩
    have HBW : Hid (Below w.heap.size w ((w6.setCell ⟨w.heap.size + 1, 0, none⟩ (.slice aA' A'.length cA')).setCell ⟨w.heap.size + 1, 1, none⟩ (.slice aB' B'.length cB'))) := X6.out.put _ _
    generalize (w6.setCell ⟨w.heap.size + 1, 0, none⟩ (.slice aA' A'.length cA')).setCell ⟨w.heap.size + 1, 1, none⟩ (.slice aB' B'.length cB') = W at HRW HLG HBW ⊢
    have r0 : W.cell? ⟨w.heap.size + 1, 0, none⟩ = some (.slice aA' A'.length cA') := HRW.out.cell 0
    have r1 : W.cell? ⟨w.heap.size + 1, 1, none⟩ = some (.slice aB' B'.length cB') := HRW.out.cell 1
    refine bodyPost_ret (v := .tuple #[.agg #[.slice aA' A'.length cA', .slice aB' B'.length cB'], .int .i64 z]) (by simp [results, Tryz.results10, go_sem, r0, r1]) rfl ?_
    exact ⟨_, _, rfl, HLG.out, HP6.out, HBW.out⟩)
end Go.Proofs.YtbbnpcldplmgfaaGreatDoor.Wl
