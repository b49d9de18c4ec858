/- Package invoices: InvoicesWhole. (gen_inwhole.py writes this.) -/
import Derived.Test.YtaidijbjpogpeaaDoorInWhole0
import Derived.Test.YtaidijbjpogpeaaDoorInOlder2
import Derived.Deep.DeepCutAuto
import Derived.Deep.RegionWith
import Derived.Deep.RegionHeld3
import Derived.Test.YtaidijbjpogpeaaDoorRfInw
import Derived.Deep.MidRow
namespace Go.Proofs.YtaidijbjpogpeaaDoor.Inv
open Go Go.RowKit Cm Rf
/-- Where a call stands whose answer goes into a box, in any order. -/
structure Cq (W : World) (gn : Nat) (y1 : Iv) (l0 l5 l6 l7 l8 l11 : Bool) (u : World) : Prop where
  c0 : l6 = false → u = W
  c1 : l6 = true → ∃ u1, Below W.heap.size W u1 ∧ u = cond l11 (putIv u1 gn y1) u1
  m0 : l6 = true → l0 = true
  m5 : l6 = true → l5 = true
  m7 : l7 = true → l6 = true
  m8 : l8 = true → l7 = true
  m11 : l11 = true → l8 = true
section
variable {W u u' : World} {gn : Nat} {y1 : Iv} {l0 l5 l6 l7 l8 l11 : Bool}
theorem Cq.start : Cq W gn y1 false false false false false false W := ⟨fun _ => rfl, fun h => (by cases h), fun h => (by cases h), fun h => (by cases h), fun h => (by cases h), fun h => (by cases h), fun h => (by cases h)⟩
theorem Cq.s0 (h : Cq W gn y1 l0 l5 l6 l7 l8 l11 u) : Cq W gn y1 true l5 l6 l7 l8 l11 u := ⟨h.c0, h.c1, fun _ => rfl, h.m5, h.m7, h.m8, h.m11⟩
theorem Cq.s5 (h : Cq W gn y1 l0 l5 l6 l7 l8 l11 u) : Cq W gn y1 l0 true l6 l7 l8 l11 u := ⟨h.c0, h.c1, h.m0, fun _ => rfl, h.m7, h.m8, h.m11⟩
theorem Cq.s7 (h : Cq W gn y1 l0 l5 l6 l7 l8 l11 u) (e : l6 = true) : Cq W gn y1 l0 l5 l6 true l8 l11 u := ⟨h.c0, h.c1, h.m0, h.m5, fun _ => e, fun _ => rfl, h.m11⟩
theorem Cq.s8 (h : Cq W gn y1 l0 l5 l6 l7 l8 l11 u) (e : l7 = true) : Cq W gn y1 l0 l5 l6 l7 true l11 u := ⟨h.c0, h.c1, h.m0, h.m5, h.m7, fun _ => e, fun _ => rfl⟩
theorem Cq.at0 (h : Cq W gn y1 l0 l5 l6 l7 l8 l11 u) (e : l0 = false) : u = W := h.c0 (by cases hl : l6; rfl; have := h.m0 hl; rw [e] at this; cases this)
theorem Cq.at5 (h : Cq W gn y1 l0 l5 l6 l7 l8 l11 u) (e : l5 = false) : u = W := h.c0 (by cases hl : l6; rfl; have := h.m5 hl; rw [e] at this; cases this)
theorem Cq.did (h : Cq W gn y1 l0 l5 l6 l7 l8 l11 W) (hi : l6 = false) (e0 : l0 = true) (e5 : l5 = true) (k : Below W.heap.size W u') : Cq W gn y1 l0 l5 true l7 l8 l11 u' := by
  have e11 : l11 = false := by cases hl : l11; rfl; have := h.m7 (h.m8 (h.m11 hl)); rw [hi] at this; cases this
  subst e11
  exact ⟨fun h => (by cases h), fun _ => ⟨u', k, rfl⟩, fun _ => e0, fun _ => e5, fun _ => rfl, h.m8, fun h => (by cases h)⟩
theorem Cq.bel (h : Cq W gn y1 l0 l5 l6 l7 l8 l11 u) (e8 : l8 = true) (e11 : l11 = false) : Below W.heap.size W u := by
  obtain ⟨u1, k, e⟩ := h.c1 (h.m7 (h.m8 e8))
  rw [e11] at e
  rw [e]; exact k
theorem Cq.store (h : Cq W gn y1 l0 l5 l6 l7 l8 l11 u) (e8 : l8 = true) (e11 : l11 = false) : Cq W gn y1 l0 l5 l6 l7 l8 true (putIv u gn y1) := by
  refine ⟨fun h6 => ?_, fun h6 => ?_, h.m0, h.m5, h.m7, h.m8, fun _ => e8⟩
  · have := h.m7 (h.m8 e8); rw [h6] at this; cases this
  · obtain ⟨u1, k, e⟩ := h.c1 h6
    rw [e11] at e
    exact ⟨u1, k, by rw [e]; rfl⟩
theorem Bx.there {g : Nat} {x : Iv} (h : Bx g x u) : u.there g 0 11 := fun j hj => by
  have : j = 0 ∨ j = 1 ∨ j = 2 ∨ j = 3 ∨ j = 4 ∨ j = 5 ∨ j = 6 ∨ j = 7 ∨ j = 8 ∨ j = 9 ∨ j = 10 := by omega
  rcases this with rfl | rfl | rfl | rfl | rfl | rfl | rfl | rfl | rfl | rfl | rfl
  · exact ⟨by rw [h.c0]; rfl, h.f0⟩
  · exact ⟨by rw [h.c1]; rfl, h.f1⟩
  · exact ⟨by rw [h.c2]; rfl, h.f2⟩
  · exact ⟨by rw [h.c3]; rfl, h.f3⟩
  · exact ⟨by rw [h.c4]; rfl, h.f4⟩
  · exact ⟨by rw [h.c5]; rfl, h.f5⟩
  · exact ⟨by rw [h.c6]; rfl, h.f6⟩
  · exact ⟨by rw [h.c7]; rfl, h.f7⟩
  · exact ⟨by rw [h.c8]; rfl, h.f8⟩
  · exact ⟨by rw [h.c9]; rfl, h.f9⟩
  · exact ⟨by rw [h.c10]; rfl, h.f10⟩
theorem Cq.store2 (h : Cq W gn y1 l0 l5 l6 l7 l8 l11 u) (e8 : l8 = true) (e11 : l11 = false) : Cq W gn y1 l0 l5 l6 l7 l8 true (u.setCells gn 0 y1.cells.toList) := h.store e8 e11
theorem Cq.end' (h : Cq W gn y1 l0 l5 l6 l7 l8 l11 u) (e : l11 = true) : ∃ u1, Below W.heap.size W u1 ∧ u = putIv u1 gn y1 := by
  obtain ⟨u1, k, e2⟩ := h.c1 (h.m7 (h.m8 (h.m11 e)))
  subst e
  exact ⟨u1, k, e2⟩
end
theorem row_bx {g : Nat} {y : Iv} {u : World} (h : Bx g y u) : Cm.RowAt u g y.cells.toList := by
  refine ⟨h.lt, fun j hj => ?_, fun j hj => ?_⟩
  · have hj' : j < 11 := hj
    have : j = 0 ∨ j = 1 ∨ j = 2 ∨ j = 3 ∨ j = 4 ∨ j = 5 ∨ j = 6 ∨ j = 7 ∨ j = 8 ∨ j = 9 ∨ j = 10 := by omega
    rcases this with rfl | rfl | rfl | rfl | rfl | rfl | rfl | rfl | rfl | rfl | rfl
    · exact h.c0
    · exact h.c1
    · exact h.c2
    · exact h.c3
    · exact h.c4
    · exact h.c5
    · exact h.c6
    · exact h.c7
    · exact h.c8
    · exact h.c9
    · exact h.c10
  · have hj' : j < 11 := hj
    have : j = 0 ∨ j = 1 ∨ j = 2 ∨ j = 3 ∨ j = 4 ∨ j = 5 ∨ j = 6 ∨ j = 7 ∨ j = 8 ∨ j = 9 ∨ j = 10 := by omega
    rcases this with rfl | rfl | rfl | rfl | rfl | rfl | rfl | rfl | rfl | rfl | rfl
    · exact h.f0
    · exact h.f1
    · exact h.f2
    · exact h.f3
    · exact h.f4
    · exact h.f5
    · exact h.f6
    · exact h.f7
    · exact h.f8
    · exact h.f9
    · exact h.f10
theorem bx_row {g : Nat} {y : Iv} {u : World} (h : Cm.RowAt u g y.cells.toList) : Bx g y u :=
  ⟨h.cell 0 (show 0 < 11 by decide), h.cell 1 (show 1 < 11 by decide), h.cell 2 (show 2 < 11 by decide), h.cell 3 (show 3 < 11 by decide), h.cell 4 (show 4 < 11 by decide), h.cell 5 (show 5 < 11 by decide), h.cell 6 (show 6 < 11 by decide), h.cell 7 (show 7 < 11 by decide), h.cell 8 (show 8 < 11 by decide), h.cell 9 (show 9 < 11 by decide), h.cell 10 (show 10 < 11 by decide), h.free 0 (show 0 < 11 by decide), h.free 1 (show 1 < 11 by decide), h.free 2 (show 2 < 11 by decide), h.free 3 (show 3 < 11 by decide), h.free 4 (show 4 < 11 by decide), h.free 5 (show 5 < 11 by decide), h.free 6 (show 6 < 11 by decide), h.free 7 (show 7 < 11 by decide), h.free 8 (show 8 < 11 by decide), h.free 9 (show 9 < 11 by decide), h.free 10 (show 10 < 11 by decide), h.lt⟩
theorem Bx.other1 {g : Nat} {y : Iv} {u : World} (h : Bx g y u) (a : Addr) (v : Value) (ha : a.block ≠ g) : Bx g y (u.setCell a v) := bx_row ((row_bx h).other a v ha)
/-- The invoice's box, and that of what it becomes. -/
structure TW (w : World) (g : Nat) (x : Iv) (gn : Nat) (y : Iv) (u : World) : Prop where
  bx : Bx g x u
  bn : Bx gn y u
  b : Below w.heap.size w u
  ln : w.heap.size ≤ gn
  n1 : gn ≠ g
theorem TW.later {w u u' : World} {g gn : Nat} {x y : Iv} (h : TW w g x gn y u) (hb : Below u.heap.size u u') : TW w g x gn y u' :=
  ⟨h.bx.later hb, h.bn.later hb, h.b.trans (hb.mono h.b.size), h.ln, h.n1⟩
theorem TW.drew {w u : World} {g gn : Nat} {x y : Iv} (h : TW w g x gn y u) : TW w g x gn y u.drew := ⟨h.bx.drew, h.bn.drew, h.b.drew, h.ln, h.n1⟩
theorem TW.alloc {w u : World} {g gn : Nat} {x y : Iv} (h : TW w g x gn y u) (o : Obj) : TW w g x gn y (u.alloc o) := ⟨h.bx.alloc o, h.bn.alloc o, h.b.alloc h.b.size o, h.ln, h.n1⟩
theorem TW.pack {w u : World} {g gn : Nat} {x y : Iv} (h : TW w g x gn y u) : u.cell? ⟨gn, 0, none⟩ = some (.int .u64 y.id) ∧ u.cell? ⟨gn, 1, none⟩ = some (.int .u64 y.cust) ∧ u.cell? ⟨gn, 2, none⟩ = some (.int .u64 y.con) ∧ u.cell? ⟨gn, 3, none⟩ = some (.int .i64 y.day) ∧ u.cell? ⟨gn, 4, none⟩ = some (.int .i64 y.due) ∧ u.cell? ⟨gn, 5, none⟩ = some (.int .i64 y.frm) ∧ u.cell? ⟨gn, 6, none⟩ = some (.int .i64 y.next) ∧ u.cell? ⟨gn, 7, none⟩ = some (.int .i64 y.amt) ∧ u.cell? ⟨gn, 8, none⟩ = some (.int .i64 y.cred) ∧ u.cell? ⟨gn, 9, none⟩ = some (.int .i64 y.paid) ∧ u.cell? ⟨gn, 10, none⟩ = some (.int .i64 y.lost) ∧ TW w g x gn y u :=
  ⟨h.bn.c0, h.bn.c1, h.bn.c2, h.bn.c3, h.bn.c4, h.bn.c5, h.bn.c6, h.bn.c7, h.bn.c8, h.bn.c9, h.bn.c10, h⟩
theorem below_drewN {B : Nat} {a w : World} (m : Nat) (h : Below B a w) : Below B a (w.drewN m) := ⟨h.os, h.tape, h.output, h.size, h.block⟩
theorem TW.pack2 {w u : World} {g gn ab p : Nat} {x y : Iv} {wh n : Int} (habw : ab < w.heap.size) (q0 : w.cell? ⟨ab, p, none⟩ = some (.int .u8 wh)) (q1 : w.cell? ⟨ab, p + 1, none⟩ = some (.int .i64 n)) (h : TW w g x gn y u) :
    u.cell? ⟨gn, 0, none⟩ = some (.int .u64 y.id) ∧ u.cell? ⟨gn, 1, none⟩ = some (.int .u64 y.cust) ∧ u.cell? ⟨gn, 2, none⟩ = some (.int .u64 y.con) ∧ u.cell? ⟨gn, 3, none⟩ = some (.int .i64 y.day) ∧ u.cell? ⟨gn, 4, none⟩ = some (.int .i64 y.due) ∧ u.cell? ⟨gn, 5, none⟩ = some (.int .i64 y.frm) ∧ u.cell? ⟨gn, 6, none⟩ = some (.int .i64 y.next) ∧ u.cell? ⟨gn, 7, none⟩ = some (.int .i64 y.amt) ∧ u.cell? ⟨gn, 8, none⟩ = some (.int .i64 y.cred) ∧ u.cell? ⟨gn, 9, none⟩ = some (.int .i64 y.paid) ∧ u.cell? ⟨gn, 10, none⟩ = some (.int .i64 y.lost) ∧ u.cell? ⟨g, 8, none⟩ = some (.int .i64 x.cred) ∧ u.cell? ⟨g, 9, none⟩ = some (.int .i64 x.paid) ∧ u.cell? ⟨ab, p, none⟩ = some (.int .u8 wh) ∧ u.cell? ⟨ab, p + 1, none⟩ = some (.int .i64 n) ∧ TW w g x gn y u :=
  ⟨h.bn.c0, h.bn.c1, h.bn.c2, h.bn.c3, h.bn.c4, h.bn.c5, h.bn.c6, h.bn.c7, h.bn.c8, h.bn.c9, h.bn.c10, h.bx.c8, h.bx.c9, by rw [h.b.cell habw]; exact q0, by rw [h.b.cell habw]; exact q1, h⟩
theorem TW.drewN {w u : World} {g gn : Nat} {x y : Iv} (m : Nat) (h : TW w g x gn y u) : TW w g x gn y (u.drewN m) := ⟨⟨h.bx.c0, h.bx.c1, h.bx.c2, h.bx.c3, h.bx.c4, h.bx.c5, h.bx.c6, h.bx.c7, h.bx.c8, h.bx.c9, h.bx.c10, h.bx.f0, h.bx.f1, h.bx.f2, h.bx.f3, h.bx.f4, h.bx.f5, h.bx.f6, h.bx.f7, h.bx.f8, h.bx.f9, h.bx.f10, h.bx.lt⟩, ⟨h.bn.c0, h.bn.c1, h.bn.c2, h.bn.c3, h.bn.c4, h.bn.c5, h.bn.c6, h.bn.c7, h.bn.c8, h.bn.c9, h.bn.c10, h.bn.f0, h.bn.f1, h.bn.f2, h.bn.f3, h.bn.f4, h.bn.f5, h.bn.f6, h.bn.f7, h.bn.f8, h.bn.f9, h.bn.f10, h.bn.lt⟩, below_drewN m h.b, h.ln, h.n1⟩
theorem TW.other1 {w u : World} {g gn : Nat} {x y : Iv} (h : TW w g x gn y u) (b k : Nat) (v : Value) (h1 : b ≠ g) (h2 : b ≠ gn) (h3 : w.heap.size ≤ b) : TW w g x gn y (u.setCell ⟨b, k, none⟩ v) :=
  ⟨h.bx.other1 _ v h1, h.bn.other1 _ v h2, h.b.setCell h3 _, h.ln, h.n1⟩
theorem TW.put {w u : World} {g gn : Nat} {x y : Iv} (h : TW w g x gn y u) (z : Iv) : TW w g x gn z (putIv u gn z) :=
  ⟨h.bx.other h.n1, h.bn.put z, Bx.put_below z h.b h.ln, h.ln, h.n1⟩
/-- What the switch leaves. -/
def Left (w : World) (g gn : Nat) (y : Iv) (c n : Int) (s7 s8 : Value) (u : World) : Prop :=
  ∃ (y' : Iv) (o z : Int), StepOk y c n y' o z ∧ s7 = .int .i64 o ∧ s8 = .int .i64 z ∧ TW w g y gn y' u
set_option maxRecDepth 100000 in
set_option maxHeartbeats 12800000 in
theorem whole_c (x : Iv) (a : Option Addr) (cap : Nat) (A : List Ac) (w : World) (hx : x.Fits) (hA : Acs w a A) (hm : A.length ≤ maxLen) (hf : ∀ c ∈ A, c.Fits) (ht : Tab w) :
    Calls Tryd.prog 5 #[x.val, .slice a A.length cap] w fun e w' => e = .returned (.bool true) ∧ Below w.heap.size w w' := by
  unfold maxLen at hm
  have KH := Lib.hid head_c
  have HT := Lib.hid ht
  have HA := Lib.hid hA
  have HF := Lib.hid hf
  have HB := Lib.hid (Bx.box x w)
  have B0 := Lib.hid ((Below.refl _ w).alloc (Nat.le_refl _) (.cells x.cells 24))
  cases hk : x.okB with
  | false =>
    have K1 := Lib.hid (fun w => check_no x w hx hk)
    have K2 := Lib.hid (fun w => (show x.opn = 0 by unfold Iv.opn; rw [hk]; rfl) ▸ open_c x w hx)
    clear hx hA hf ht hk
    obtain ⟨a0, a1, a2, a3, a4, a5, a6, a7, a8, a9, a10, af0, af1, af2, af3, af4, af5, af6, af7, af8, af9, af10, alt⟩ := HB.out
    go_enter Tryd.func5, Tryd.ntmps5
    unfold Iv.val
    go_wp2_with fail
    refine (K1.out _).mono ?_
    rintro e w1 ⟨rfl, b1⟩
    have X1 := Lib.hid (HB.out.later b1)
    have D1 := Lib.hid (then_below B0.out b1)
    clear a0 af0 a1 af1 a2 af2 a3 af3 a4 af4 a5 af5 a6 af6 a7 af7 a8 af8 a9 af9 a10 af10 alt
    obtain ⟨a0, a1, a2, a3, a4, a5, a6, a7, a8, a9, a10, af0, af1, af2, af3, af4, af5, af6, af7, af8, af9, af10, alt⟩ := X1.out
    clear b1
    go_wp2_with fail
    refine (K2.out _).mono ?_
    rintro e w2 ⟨rfl, b2⟩
    have D2 := Lib.hid (then_below D1.out b2)
    clear a0 af0 a1 af1 a2 af2 a3 af3 a4 af4 a5 af5 a6 af6 a7 af7 a8 af8 a9 af9 a10 af10 alt
    clear b2
    go_wp2_with fail
    refine (KH.out _ (HT.out.later D2.out)).mono ?_
    rintro e w3 ⟨rfl, b3⟩
    have D3 := Lib.hid (then_below D2.out b3)
    clear b3
    go_wp2_with fail
    go_ret
    exact ⟨rfl, D3.out⟩
  | true =>
    have hok := (okB_iff x).1 hk
    have K1 := Lib.hid (fun w => check_yes x w hx hk)
    have HX := Lib.hid (And.intro hx hok)
    clear hx hA hf ht hk hok
    obtain ⟨a0, a1, a2, a3, a4, a5, a6, a7, a8, a9, a10, af0, af1, af2, af3, af4, af5, af6, af7, af8, af9, af10, alt⟩ := HB.out
    go_enter Tryd.func5, Tryd.ntmps5
    unfold Iv.val
    go_wp2_with fail
    refine (K1.out _).mono ?_
    rintro e w1 ⟨rfl, b1⟩
    have X1 := Lib.hid (HB.out.later b1)
    have D1 := Lib.hid (then_below B0.out b1)
    clear a0 af0 a1 af1 a2 af2 a3 af3 a4 af4 a5 af5 a6 af6 a7 af7 a8 af8 a9 af9 a10 af10 alt
    clear b1 HB B0
    go_wp2_with fail
    go_loopw [5] (fun i wr => ∃ (k : Nat) (y : Iv), k ≤ A.length ∧ i = .int .i64 k ∧ Bx w.heap.size y wr ∧ y.Fits ∧ y.Ok ∧ Below w.heap.size w wr) (fun i _ => A.length - (intOf i).toNat)
    case atStart => exact ⟨0, x, by omega, rfl, X1.out, HX.out.1, HX.out.2, D1.out⟩
    case round =>
      obtain ⟨k, y, hk, rfl, hbx, hyf, hyk, hB⟩ := hrel
      have HY := Lib.hid hbx
      have HYF := Lib.hid hyf
      have HYK := Lib.hid hyk
      have HB := Lib.hid hB
      clear hbx hyf hyk hB
      by_cases hlt : k < A.length
      · by_cases h60 : k < 60
        · clear_value *
          obtain ⟨ac, hac⟩ : ∃ c, A[k] = c := ⟨_, rfl⟩
          have hcf : ac.Fits := hac ▸ HF.out A[k] (List.getElem_mem hlt)
          obtain ⟨ab, ao, ha, habw, q0, q1⟩ := HA.out k hlt
          rw [hac] at q0 q1
          obtain ⟨wh, n⟩ := ac
          simp only at q0 q1
          subst ha
          have Q0 := Lib.hid q0
          have Q1 := Lib.hid q1
          clear q0 q1
          have hw0 := hcf.what.1
          have hw1 := hcf.what.2
          simp only at hw0 hw1
          obtain ⟨c, hc⟩ : ∃ c, wh % 4 = c := ⟨_, rfl⟩
          have hc0 : 0 ≤ c := by omega
          have hc3 : c ≤ 3 := by omega
          have hkd : decide ((k : Int) < 60) = true := by simp; omega
          have J0 := Lib.hid (show TW w w.heap.size y wr.heap.size y (wr.alloc (.cells y.cells 24)) from ⟨HY.out.alloc _, Bx.box y wr, HB.out.alloc HB.out.size _, HB.out.size, by have := HY.out.lt; omega⟩)
          obtain ⟨a0, a1, a2, a3, a4, a5, a6, a7, a8, a9, a10, af0, af1, af2, af3, af4, af5, af6, af7, af8, af9, af10, alt⟩ := HY.out
          have HC := Lib.hid hc
          have hcn := hcf.n
          clear hcf hac
          clear hcn
          go_upto_region 6 with (fail)
          go_cut [6, 7, 8] from 21 to 173 (fun s6 s7 s8 wx => s6 = .pointer (some ⟨wr.heap.size, 0, none⟩) ∧ s7 = .int .i64 0 ∧ s8 = .int .i64 0 ∧ TW w w.heap.size y wr.heap.size y wx ∧ Below wr.heap.size wr wx)
          case first =>
            go_wp2_with fail
            go_meet
            exact ⟨rfl, rfl, rfl, J0.out, (Below.refl _ _).alloc (Nat.le_refl _) _⟩
          obtain ⟨rfl, rfl, rfl, hJ0, hBW⟩ := hcut
          rename_i hK
          apply hK
          refine wp_seq_k (fun K2 hK2 => ?_)
          have hlw := hBW.size
          have J0 := Lib.hid hJ0
          have qa : wc.cell? ⟨ab, ao + k * 2, none⟩ = some (.int .u8 wh) := by rw [J0.out.b.cell habw]; exact Q0.out
          have qb : wc.cell? ⟨ab, ao + k * 2 + 1, none⟩ = some (.int .i64 n) := by rw [J0.out.b.cell habw]; exact Q1.out
          have habc : ab < wc.heap.size := by have := J0.out.b.size; omega
          clear hJ0
          clear a0 af0 a1 af1 a2 af2 a3 af3 a4 af4 a5 af5 a6 af6 a7 af7 a8 af8 a9 af9 a10 af10 alt
          obtain ⟨a0, a1, a2, a3, a4, a5, a6, a7, a8, a9, a10, af0, af1, af2, af3, af4, af5, af6, af7, af8, af9, af10, alt⟩ := J0.out.bx
          go_cut [7, 8] from 21 to 173 (fun s7 s8 wx => Left w w.heap.size wr.heap.size y c n s7 s8 wx)
          case first =>
            have hcs : c = 0 ∨ c = 1 ∨ c = 2 ∨ c = 3 := by omega
            rcases hcs with rfl | rfl | rfl | rfl
            · as_aux_lemma =>
              obtain ⟨⟨y1, o1, z1⟩, h1⟩ : ∃ r, y.creditR n = r := ⟨_, rfl⟩
              have KS := Lib.hid (fun w => (show Calls Tryd.prog 7 #[(.agg #[.int .u64 y.id, .int .u64 y.cust, .int .u64 y.con, .int .i64 y.day, .int .i64 y.due, .int .i64 y.frm, .int .i64 y.next, .int .i64 y.amt, .int .i64 y.cred, .int .i64 y.paid, .int .i64 y.lost]), .int .i64 n] w fun e w' => e = .returned (.tuple #[(.agg #[.int .u64 y1.id, .int .u64 y1.cust, .int .u64 y1.con, .int .i64 y1.day, .int .i64 y1.due, .int .i64 y1.frm, .int .i64 y1.next, .int .i64 y1.amt, .int .i64 y1.cred, .int .i64 y1.paid, .int .i64 y1.lost]), .int .i64 o1, .int .i64 z1]) ∧ Below w.heap.size w w' from by have h := Credit_c y n w HYF.out; rw [h1] at h; exact h))
              have HST := Lib.hid (show StepOk y 0 n y1 o1 z1 from by
                have h := step_is y 0 n HYK.out HYF.out (by decide) (by decide)
                have e : y.step 0 n = y.creditR n := rfl
                rw [e, h1] at h
                exact h)
              clear h1 HC
              have HBN : Hid (∀ u, Below wc.drew.heap.size wc.drew u → Bx wr.heap.size y u) := fun u hu => J0.out.drew.bn.later hu
              have h0k : (0 : Int) ≤ (k : Int) := by omega
              have h1k : (k : Int) < (A.length : Int) := by omega
              go_upto_region 9 with (fail)
              clear hc hc0 hc3
              refine wp_region_inv (I := (fun A0 L a u => ∃ (x0 x1 x2 x3 x4 x5 x6 x7 x8 x9 x10 x12 x13 : Value), a = putAll A0 [(41, x0), (42, x1), (43, x2), (44, x3), (45, x4), (46, x5), (47, x6), (40, x7), (48, x8), (49, x9), (50, x10), (7, x12), (8, x13)] ∧ (L 0 = true → x0 = (.agg #[.int .u64 y.id, .int .u64 y.cust, .int .u64 y.con, .int .i64 y.day, .int .i64 y.due, .int .i64 y.frm, .int .i64 y.next, .int .i64 y.amt, .int .i64 y.cred, .int .i64 y.paid, .int .i64 y.lost])) ∧ (L 1 = true → x1 = (.slice (some ⟨ab, ao, Option.none⟩) A.length cap)) ∧ (L 2 = true → x2 = (.int .i64 (k : Int))) ∧ (L 3 = true → x3 = (.pointer (some ⟨ab, ao + k * 2, Option.none⟩))) ∧ (L 4 = true → x4 = (.pointer (some ⟨ab, ao + k * 2 + 1, Option.none⟩))) ∧ (L 5 = true → x5 = (.int .i64 n)) ∧ (L 6 = true → x6 = (.tuple #[(.agg #[.int .u64 y1.id, .int .u64 y1.cust, .int .u64 y1.con, .int .i64 y1.day, .int .i64 y1.due, .int .i64 y1.frm, .int .i64 y1.next, .int .i64 y1.amt, .int .i64 y1.cred, .int .i64 y1.paid, .int .i64 y1.lost]), .int .i64 o1, .int .i64 z1])) ∧ (L 7 = true → x7 = (.tuple #[(.agg #[.int .u64 y1.id, .int .u64 y1.cust, .int .u64 y1.con, .int .i64 y1.day, .int .i64 y1.due, .int .i64 y1.frm, .int .i64 y1.next, .int .i64 y1.amt, .int .i64 y1.cred, .int .i64 y1.paid, .int .i64 y1.lost]), .int .i64 o1, .int .i64 z1])) ∧ (L 8 = true → x8 = (.agg #[.int .u64 y1.id, .int .u64 y1.cust, .int .u64 y1.con, .int .i64 y1.day, .int .i64 y1.due, .int .i64 y1.frm, .int .i64 y1.next, .int .i64 y1.amt, .int .i64 y1.cred, .int .i64 y1.paid, .int .i64 y1.lost])) ∧ (L 9 = true → x9 = (.int .i64 o1)) ∧ (L 10 = true → x10 = (.int .i64 z1)) ∧ (L 12 = true → x12 = (.int .i64 o1)) ∧ (L 13 = true → x13 = (.int .i64 z1)) ∧ Cq wc.drew wr.heap.size y1 (L 0) (L 5) (L 6) (L 7) (L 8) (L 11) u)) (by kernel_rfl) (by kernel_rfl) ?_ ?_ ?_
              · intro L hL
                exact ⟨_, _, _, _, _, _, _, _, _, _, _, _, _, by (simp only [putAll, Act.put, List.setIfInBounds_toArray, List.set_cons_zero, List.set_cons_succ]; rfl), (fun h => absurd h (by rw [hL 0 (by decide)]; decide)), (fun h => absurd h (by rw [hL 1 (by decide)]; decide)), (fun h => absurd h (by rw [hL 2 (by decide)]; decide)), (fun h => absurd h (by rw [hL 3 (by decide)]; decide)), (fun h => absurd h (by rw [hL 4 (by decide)]; decide)), (fun h => absurd h (by rw [hL 5 (by decide)]; decide)), (fun h => absurd h (by rw [hL 6 (by decide)]; decide)), (fun h => absurd h (by rw [hL 7 (by decide)]; decide)), (fun h => absurd h (by rw [hL 8 (by decide)]; decide)), (fun h => absurd h (by rw [hL 9 (by decide)]; decide)), (fun h => absurd h (by rw [hL 10 (by decide)]; decide)), (fun h => absurd h (by rw [hL 12 (by decide)]; decide)), (fun h => absurd h (by rw [hL 13 (by decide)]; decide)), by rw [hL 0 (by decide), hL 5 (by decide), hL 6 (by decide), hL 7 (by decide), hL 8 (by decide), hL 11 (by decide)]; exact Cq.start⟩
              refine Steps.cons (i := 0) rfl ?_ ?_
              · rintro L a u ⟨x0, x1, x2, x3, x4, x5, x6, x7, x8, x9, x10, x12, x13, rfl, h0, h1, h2, h3, h4, h5, h6, h7, h8, h9, h10, h12, h13, hm⟩ hi hd K hK
                simp only [putAll, Act.put, List.setIfInBounds_toArray, List.set_cons_zero, List.set_cons_succ]
                (try simp [Region.binds] at hd)
                replace h0 := Lib.hid h0
                replace h1 := Lib.hid h1
                replace h2 := Lib.hid h2
                replace h3 := Lib.hid h3
                replace h4 := Lib.hid h4
                replace h5 := Lib.hid h5
                replace h6 := Lib.hid h6
                replace h7 := Lib.hid h7
                replace h8 := Lib.hid h8
                replace h9 := Lib.hid h9
                replace h10 := Lib.hid h10
                replace h12 := Lib.hid h12
                replace h13 := Lib.hid h13
                obtain rfl := hm.at0 hi
                go_simp
                exact hK.out _ _ ⟨_, _, _, _, _, _, _, _, _, _, _, _, _, by ((simp only [putAll, Act.put, List.setIfInBounds_toArray, List.set_cons_zero, List.set_cons_succ]) <;> rfl), (fun _ => rfl), h1.out, h2.out, h3.out, h4.out, h5.out, h6.out, h7.out, h8.out, h9.out, h10.out, h12.out, h13.out, hm.s0⟩
              refine Steps.cons (i := 1) rfl ?_ ?_
              · rintro L a u ⟨x0, x1, x2, x3, x4, x5, x6, x7, x8, x9, x10, x12, x13, rfl, h0, h1, h2, h3, h4, h5, h6, h7, h8, h9, h10, h12, h13, hm⟩ hi hd K hK
                simp only [putAll, Act.put, List.setIfInBounds_toArray, List.set_cons_zero, List.set_cons_succ]
                (try simp [Region.binds] at hd)
                replace h0 := Lib.hid h0
                replace h1 := Lib.hid h1
                replace h2 := Lib.hid h2
                replace h3 := Lib.hid h3
                replace h4 := Lib.hid h4
                replace h5 := Lib.hid h5
                replace h6 := Lib.hid h6
                replace h7 := Lib.hid h7
                replace h8 := Lib.hid h8
                replace h9 := Lib.hid h9
                replace h10 := Lib.hid h10
                replace h12 := Lib.hid h12
                replace h13 := Lib.hid h13
                go_simp
                exact hK.out _ _ ⟨_, _, _, _, _, _, _, _, _, _, _, _, _, by ((simp only [putAll, Act.put, List.setIfInBounds_toArray, List.set_cons_zero, List.set_cons_succ]) <;> rfl), h0.out, (fun _ => rfl), h2.out, h3.out, h4.out, h5.out, h6.out, h7.out, h8.out, h9.out, h10.out, h12.out, h13.out, hm⟩
              refine Steps.cons (i := 2) rfl ?_ ?_
              · rintro L a u ⟨x0, x1, x2, x3, x4, x5, x6, x7, x8, x9, x10, x12, x13, rfl, h0, h1, h2, h3, h4, h5, h6, h7, h8, h9, h10, h12, h13, hm⟩ hi hd K hK
                simp only [putAll, Act.put, List.setIfInBounds_toArray, List.set_cons_zero, List.set_cons_succ]
                (try simp [Region.binds] at hd)
                replace h0 := Lib.hid h0
                replace h1 := Lib.hid h1
                replace h2 := Lib.hid h2
                replace h3 := Lib.hid h3
                replace h4 := Lib.hid h4
                replace h5 := Lib.hid h5
                replace h6 := Lib.hid h6
                replace h7 := Lib.hid h7
                replace h8 := Lib.hid h8
                replace h9 := Lib.hid h9
                replace h10 := Lib.hid h10
                replace h12 := Lib.hid h12
                replace h13 := Lib.hid h13
                go_simp
                exact hK.out _ _ ⟨_, _, _, _, _, _, _, _, _, _, _, _, _, by ((simp only [putAll, Act.put, List.setIfInBounds_toArray, List.set_cons_zero, List.set_cons_succ]) <;> rfl), h0.out, h1.out, (fun _ => rfl), h3.out, h4.out, h5.out, h6.out, h7.out, h8.out, h9.out, h10.out, h12.out, h13.out, hm⟩
              refine Steps.cons (i := 3) rfl ?_ ?_
              · rintro L a u ⟨x0, x1, x2, x3, x4, x5, x6, x7, x8, x9, x10, x12, x13, rfl, h0, h1, h2, h3, h4, h5, h6, h7, h8, h9, h10, h12, h13, hm⟩ hi hd K hK
                simp only [putAll, Act.put, List.setIfInBounds_toArray, List.set_cons_zero, List.set_cons_succ]
                (try simp [Region.binds] at hd)
                replace h0 := Lib.hid h0
                replace h1 := Lib.hid h1
                replace h2 := Lib.hid h2
                replace h3 := Lib.hid h3
                replace h4 := Lib.hid h4
                replace h5 := Lib.hid h5
                replace h6 := Lib.hid h6
                replace h7 := Lib.hid h7
                replace h8 := Lib.hid h8
                replace h9 := Lib.hid h9
                replace h10 := Lib.hid h10
                replace h12 := Lib.hid h12
                replace h13 := Lib.hid h13
                obtain rfl := (h1.out (by simp [hd])).symm
                obtain rfl := (h2.out (by simp [hd])).symm
                go_simp
                exact hK.out _ _ ⟨_, _, _, _, _, _, _, _, _, _, _, _, _, by ((simp only [putAll, Act.put, List.setIfInBounds_toArray, List.set_cons_zero, List.set_cons_succ]) <;> rfl), h0.out, h1.out, h2.out, (fun _ => rfl), h4.out, h5.out, h6.out, h7.out, h8.out, h9.out, h10.out, h12.out, h13.out, hm⟩
              refine Steps.cons (i := 4) rfl ?_ ?_
              · rintro L a u ⟨x0, x1, x2, x3, x4, x5, x6, x7, x8, x9, x10, x12, x13, rfl, h0, h1, h2, h3, h4, h5, h6, h7, h8, h9, h10, h12, h13, hm⟩ hi hd K hK
                simp only [putAll, Act.put, List.setIfInBounds_toArray, List.set_cons_zero, List.set_cons_succ]
                (try simp [Region.binds] at hd)
                replace h0 := Lib.hid h0
                replace h1 := Lib.hid h1
                replace h2 := Lib.hid h2
                replace h3 := Lib.hid h3
                replace h4 := Lib.hid h4
                replace h5 := Lib.hid h5
                replace h6 := Lib.hid h6
                replace h7 := Lib.hid h7
                replace h8 := Lib.hid h8
                replace h9 := Lib.hid h9
                replace h10 := Lib.hid h10
                replace h12 := Lib.hid h12
                replace h13 := Lib.hid h13
                obtain rfl := (h3.out (by simp [hd])).symm
                go_simp
                exact hK.out _ _ ⟨_, _, _, _, _, _, _, _, _, _, _, _, _, by ((simp only [putAll, Act.put, List.setIfInBounds_toArray, List.set_cons_zero, List.set_cons_succ]) <;> rfl), h0.out, h1.out, h2.out, h3.out, (fun _ => rfl), h5.out, h6.out, h7.out, h8.out, h9.out, h10.out, h12.out, h13.out, hm⟩
              refine Steps.cons (i := 5) rfl ?_ ?_
              · rintro L a u ⟨x0, x1, x2, x3, x4, x5, x6, x7, x8, x9, x10, x12, x13, rfl, h0, h1, h2, h3, h4, h5, h6, h7, h8, h9, h10, h12, h13, hm⟩ hi hd K hK
                simp only [putAll, Act.put, List.setIfInBounds_toArray, List.set_cons_zero, List.set_cons_succ]
                (try simp [Region.binds] at hd)
                replace h0 := Lib.hid h0
                replace h1 := Lib.hid h1
                replace h2 := Lib.hid h2
                replace h3 := Lib.hid h3
                replace h4 := Lib.hid h4
                replace h5 := Lib.hid h5
                replace h6 := Lib.hid h6
                replace h7 := Lib.hid h7
                replace h8 := Lib.hid h8
                replace h9 := Lib.hid h9
                replace h10 := Lib.hid h10
                replace h12 := Lib.hid h12
                replace h13 := Lib.hid h13
                obtain rfl := (h4.out (by simp [hd])).symm
                obtain rfl := hm.at5 hi
                go_simp
                exact hK.out _ _ ⟨_, _, _, _, _, _, _, _, _, _, _, _, _, by ((simp only [putAll, Act.put, List.setIfInBounds_toArray, List.set_cons_zero, List.set_cons_succ]) <;> rfl), h0.out, h1.out, h2.out, h3.out, h4.out, (fun _ => rfl), h6.out, h7.out, h8.out, h9.out, h10.out, h12.out, h13.out, hm.s5⟩
              refine Steps.cons (i := 6) rfl ?_ ?_
              · rintro L a u ⟨x0, x1, x2, x3, x4, x5, x6, x7, x8, x9, x10, x12, x13, rfl, h0, h1, h2, h3, h4, h5, h6, h7, h8, h9, h10, h12, h13, hm⟩ hi hd K hK
                simp only [putAll, Act.put, List.setIfInBounds_toArray, List.set_cons_zero, List.set_cons_succ]
                (try simp [Region.binds] at hd)
                replace h0 := Lib.hid h0
                replace h1 := Lib.hid h1
                replace h2 := Lib.hid h2
                replace h3 := Lib.hid h3
                replace h4 := Lib.hid h4
                replace h5 := Lib.hid h5
                replace h6 := Lib.hid h6
                replace h7 := Lib.hid h7
                replace h8 := Lib.hid h8
                replace h9 := Lib.hid h9
                replace h10 := Lib.hid h10
                replace h12 := Lib.hid h12
                replace h13 := Lib.hid h13
                obtain rfl := (h0.out (by simp [hd])).symm
                obtain rfl := (h5.out (by simp [hd])).symm
                have hl0 : L 0 = true := by simp [hd]
                have hl5 : L 5 = true := by simp [hd]
                obtain rfl := hm.c0 hi
                go_simp
                refine (KS.out _).mono ?_
                rintro e u5 ⟨rfl, b5⟩
                go_wp2_with fail
                exact hK.out _ _ ⟨_, _, _, _, _, _, _, _, _, _, _, _, _, by ((simp only [putAll, Act.put, List.setIfInBounds_toArray, List.set_cons_zero, List.set_cons_succ]) <;> rfl), (fun _ => rfl), h1.out, h2.out, h3.out, h4.out, (fun _ => rfl), (fun _ => rfl), h7.out, h8.out, h9.out, h10.out, h12.out, h13.out, (hm.did hi hl0 hl5 b5)⟩
              refine Steps.cons (i := 7) rfl ?_ ?_
              · rintro L a u ⟨x0, x1, x2, x3, x4, x5, x6, x7, x8, x9, x10, x12, x13, rfl, h0, h1, h2, h3, h4, h5, h6, h7, h8, h9, h10, h12, h13, hm⟩ hi hd K hK
                simp only [putAll, Act.put, List.setIfInBounds_toArray, List.set_cons_zero, List.set_cons_succ]
                (try simp [Region.binds] at hd)
                replace h0 := Lib.hid h0
                replace h1 := Lib.hid h1
                replace h2 := Lib.hid h2
                replace h3 := Lib.hid h3
                replace h4 := Lib.hid h4
                replace h5 := Lib.hid h5
                replace h6 := Lib.hid h6
                replace h7 := Lib.hid h7
                replace h8 := Lib.hid h8
                replace h9 := Lib.hid h9
                replace h10 := Lib.hid h10
                replace h12 := Lib.hid h12
                replace h13 := Lib.hid h13
                obtain rfl := (h6.out (by simp [hd])).symm
                go_simp
                exact hK.out _ _ ⟨_, _, _, _, _, _, _, _, _, _, _, _, _, by ((simp only [putAll, Act.put, List.setIfInBounds_toArray, List.set_cons_zero, List.set_cons_succ]) <;> rfl), h0.out, h1.out, h2.out, h3.out, h4.out, h5.out, h6.out, (fun _ => rfl), h8.out, h9.out, h10.out, h12.out, h13.out, (hm.s7 (by simp [hd]))⟩
              refine Steps.cons (i := 8) rfl ?_ ?_
              · rintro L a u ⟨x0, x1, x2, x3, x4, x5, x6, x7, x8, x9, x10, x12, x13, rfl, h0, h1, h2, h3, h4, h5, h6, h7, h8, h9, h10, h12, h13, hm⟩ hi hd K hK
                simp only [putAll, Act.put, List.setIfInBounds_toArray, List.set_cons_zero, List.set_cons_succ]
                (try simp [Region.binds] at hd)
                replace h0 := Lib.hid h0
                replace h1 := Lib.hid h1
                replace h2 := Lib.hid h2
                replace h3 := Lib.hid h3
                replace h4 := Lib.hid h4
                replace h5 := Lib.hid h5
                replace h6 := Lib.hid h6
                replace h7 := Lib.hid h7
                replace h8 := Lib.hid h8
                replace h9 := Lib.hid h9
                replace h10 := Lib.hid h10
                replace h12 := Lib.hid h12
                replace h13 := Lib.hid h13
                obtain rfl := (h7.out (by simp [hd])).symm
                go_simp
                exact hK.out _ _ ⟨_, _, _, _, _, _, _, _, _, _, _, _, _, by ((simp only [putAll, Act.put, List.setIfInBounds_toArray, List.set_cons_zero, List.set_cons_succ]) <;> rfl), h0.out, h1.out, h2.out, h3.out, h4.out, h5.out, h6.out, h7.out, (fun _ => rfl), h9.out, h10.out, h12.out, h13.out, (hm.s8 (by simp [hd]))⟩
              refine Steps.cons (i := 9) rfl ?_ ?_
              · rintro L a u ⟨x0, x1, x2, x3, x4, x5, x6, x7, x8, x9, x10, x12, x13, rfl, h0, h1, h2, h3, h4, h5, h6, h7, h8, h9, h10, h12, h13, hm⟩ hi hd K hK
                simp only [putAll, Act.put, List.setIfInBounds_toArray, List.set_cons_zero, List.set_cons_succ]
                (try simp [Region.binds] at hd)
                replace h0 := Lib.hid h0
                replace h1 := Lib.hid h1
                replace h2 := Lib.hid h2
                replace h3 := Lib.hid h3
                replace h4 := Lib.hid h4
                replace h5 := Lib.hid h5
                replace h6 := Lib.hid h6
                replace h7 := Lib.hid h7
                replace h8 := Lib.hid h8
                replace h9 := Lib.hid h9
                replace h10 := Lib.hid h10
                replace h12 := Lib.hid h12
                replace h13 := Lib.hid h13
                obtain rfl := (h7.out (by simp [hd])).symm
                go_simp
                exact hK.out _ _ ⟨_, _, _, _, _, _, _, _, _, _, _, _, _, by ((simp only [putAll, Act.put, List.setIfInBounds_toArray, List.set_cons_zero, List.set_cons_succ]) <;> rfl), h0.out, h1.out, h2.out, h3.out, h4.out, h5.out, h6.out, h7.out, h8.out, (fun _ => rfl), h10.out, h12.out, h13.out, hm⟩
              refine Steps.cons (i := 10) rfl ?_ ?_
              · rintro L a u ⟨x0, x1, x2, x3, x4, x5, x6, x7, x8, x9, x10, x12, x13, rfl, h0, h1, h2, h3, h4, h5, h6, h7, h8, h9, h10, h12, h13, hm⟩ hi hd K hK
                simp only [putAll, Act.put, List.setIfInBounds_toArray, List.set_cons_zero, List.set_cons_succ]
                (try simp [Region.binds] at hd)
                replace h0 := Lib.hid h0
                replace h1 := Lib.hid h1
                replace h2 := Lib.hid h2
                replace h3 := Lib.hid h3
                replace h4 := Lib.hid h4
                replace h5 := Lib.hid h5
                replace h6 := Lib.hid h6
                replace h7 := Lib.hid h7
                replace h8 := Lib.hid h8
                replace h9 := Lib.hid h9
                replace h10 := Lib.hid h10
                replace h12 := Lib.hid h12
                replace h13 := Lib.hid h13
                obtain rfl := (h7.out (by simp [hd])).symm
                go_simp
                exact hK.out _ _ ⟨_, _, _, _, _, _, _, _, _, _, _, _, _, by ((simp only [putAll, Act.put, List.setIfInBounds_toArray, List.set_cons_zero, List.set_cons_succ]) <;> rfl), h0.out, h1.out, h2.out, h3.out, h4.out, h5.out, h6.out, h7.out, h8.out, h9.out, (fun _ => rfl), h12.out, h13.out, hm⟩
              refine Steps.cons (i := 11) rfl ?_ ?_
              · rintro L a u ⟨x0, x1, x2, x3, x4, x5, x6, x7, x8, x9, x10, x12, x13, rfl, h0, h1, h2, h3, h4, h5, h6, h7, h8, h9, h10, h12, h13, hm⟩ hi hd K hK
                simp only [putAll, Act.put, List.setIfInBounds_toArray, List.set_cons_zero, List.set_cons_succ]
                (try simp [Region.binds] at hd)
                replace h0 := Lib.hid h0
                replace h1 := Lib.hid h1
                replace h2 := Lib.hid h2
                replace h3 := Lib.hid h3
                replace h4 := Lib.hid h4
                replace h5 := Lib.hid h5
                replace h6 := Lib.hid h6
                replace h7 := Lib.hid h7
                replace h8 := Lib.hid h8
                replace h9 := Lib.hid h9
                replace h10 := Lib.hid h10
                replace h12 := Lib.hid h12
                replace h13 := Lib.hid h13
                obtain rfl := (h8.out (by simp [hd])).symm
                have hl8 : L 8 = true := by simp [hd]
                have hbu := hm.bel hl8 hi
                rw [if_pos (by rfl)]
                refine wp_store_mid 24 (.tmp 6) (.tmp 48) rfl wr.heap.size 0 y1.cells (by rfl) (by rfl) (HBN.out u hbu).there (by kernel_rfl) (by simp [Iv.cells, Value.oneCell']) ?_
                exact hK.out _ _ ⟨_, _, _, _, _, _, _, _, _, _, _, _, _, by ((simp only [putAll, Act.put, List.setIfInBounds_toArray, List.set_cons_zero, List.set_cons_succ]) <;> rfl), h0.out, h1.out, h2.out, h3.out, h4.out, h5.out, h6.out, h7.out, (fun _ => rfl), h9.out, h10.out, h12.out, h13.out, (hm.store2 hl8 hi)⟩
              refine Steps.cons (i := 12) rfl ?_ ?_
              · rintro L a u ⟨x0, x1, x2, x3, x4, x5, x6, x7, x8, x9, x10, x12, x13, rfl, h0, h1, h2, h3, h4, h5, h6, h7, h8, h9, h10, h12, h13, hm⟩ hi hd K hK
                simp only [putAll, Act.put, List.setIfInBounds_toArray, List.set_cons_zero, List.set_cons_succ]
                (try simp [Region.binds] at hd)
                replace h0 := Lib.hid h0
                replace h1 := Lib.hid h1
                replace h2 := Lib.hid h2
                replace h3 := Lib.hid h3
                replace h4 := Lib.hid h4
                replace h5 := Lib.hid h5
                replace h6 := Lib.hid h6
                replace h7 := Lib.hid h7
                replace h8 := Lib.hid h8
                replace h9 := Lib.hid h9
                replace h10 := Lib.hid h10
                replace h12 := Lib.hid h12
                replace h13 := Lib.hid h13
                obtain rfl := (h9.out (by simp [hd])).symm
                go_simp
                exact hK.out _ _ ⟨_, _, _, _, _, _, _, _, _, _, _, _, _, by ((simp only [putAll, Act.put, List.setIfInBounds_toArray, List.set_cons_zero, List.set_cons_succ]) <;> rfl), h0.out, h1.out, h2.out, h3.out, h4.out, h5.out, h6.out, h7.out, h8.out, h9.out, h10.out, (fun _ => rfl), h13.out, hm⟩
              refine Steps.cons (i := 13) rfl ?_ ?_
              · rintro L a u ⟨x0, x1, x2, x3, x4, x5, x6, x7, x8, x9, x10, x12, x13, rfl, h0, h1, h2, h3, h4, h5, h6, h7, h8, h9, h10, h12, h13, hm⟩ hi hd K hK
                simp only [putAll, Act.put, List.setIfInBounds_toArray, List.set_cons_zero, List.set_cons_succ]
                (try simp [Region.binds] at hd)
                replace h0 := Lib.hid h0
                replace h1 := Lib.hid h1
                replace h2 := Lib.hid h2
                replace h3 := Lib.hid h3
                replace h4 := Lib.hid h4
                replace h5 := Lib.hid h5
                replace h6 := Lib.hid h6
                replace h7 := Lib.hid h7
                replace h8 := Lib.hid h8
                replace h9 := Lib.hid h9
                replace h10 := Lib.hid h10
                replace h12 := Lib.hid h12
                replace h13 := Lib.hid h13
                obtain rfl := (h10.out (by simp [hd])).symm
                go_simp
                exact hK.out _ _ ⟨_, _, _, _, _, _, _, _, _, _, _, _, _, by ((simp only [putAll, Act.put, List.setIfInBounds_toArray, List.set_cons_zero, List.set_cons_succ]) <;> rfl), h0.out, h1.out, h2.out, h3.out, h4.out, h5.out, h6.out, h7.out, h8.out, h9.out, h10.out, h12.out, (fun _ => rfl), hm⟩
              · exact Steps.nil
              · rintro L a u ⟨x0, x1, x2, x3, x4, x5, x6, x7, x8, x9, x10, x12, x13, rfl, h0, h1, h2, h3, h4, h5, h6, h7, h8, h9, h10, h12, h13, hm⟩ hall
                obtain rfl := (h13 (hall 13 (by decide))).symm
                obtain rfl := (h12 (hall 12 (by decide))).symm
                simp only [putAll, Act.put, List.setIfInBounds_toArray, List.set_cons_zero, List.set_cons_succ]
                have HM := Lib.hid (hm.end' (hall 11 (by decide)))
                clear hm h0 h1 h2 h3 h4 h5 h6 h7 h8 h9 h10 hall
                obtain ⟨u1, hb1, rfl⟩ := HM.out
                have J1 := Lib.hid (J0.out.drew.later hb1)
                clear HM hb1
                have HL : Hid (TW w w.heap.size y wr.heap.size y1 (putIv u1 wr.heap.size y1)) := J1.out.put y1
                generalize putIv u1 wr.heap.size y1 = u2 at HL ⊢
                go_wp2_with fail
                go_meet
                exact ⟨y1, o1, z1, HST.out, rfl, rfl, HL.out⟩
            · as_aux_lemma =>
              obtain ⟨⟨y1, z1⟩, h1⟩ : ∃ r, y.payR n = r := ⟨_, rfl⟩
              have KS := Lib.hid (fun w => (show Calls Tryd.prog 9 #[(.agg #[.int .u64 y.id, .int .u64 y.cust, .int .u64 y.con, .int .i64 y.day, .int .i64 y.due, .int .i64 y.frm, .int .i64 y.next, .int .i64 y.amt, .int .i64 y.cred, .int .i64 y.paid, .int .i64 y.lost]), .int .i64 n] w fun e w' => e = .returned (.tuple #[(.agg #[.int .u64 y1.id, .int .u64 y1.cust, .int .u64 y1.con, .int .i64 y1.day, .int .i64 y1.due, .int .i64 y1.frm, .int .i64 y1.next, .int .i64 y1.amt, .int .i64 y1.cred, .int .i64 y1.paid, .int .i64 y1.lost]), .int .i64 z1]) ∧ Below w.heap.size w w' from by have h := Pay_c y n w HYF.out; rw [h1] at h; exact h))
              have HST := Lib.hid (show StepOk y 1 n y1 0 z1 from by
                have h := step_is y 1 n HYK.out HYF.out (by decide) (by decide)
                have e : y.step 1 n = ((y.payR n).1, 0, (y.payR n).2) := rfl
                rw [e, h1] at h
                exact h)
              clear h1 HC
              have HBN : Hid (∀ u, Below wc.drew.heap.size wc.drew u → Bx wr.heap.size y u) := fun u hu => J0.out.drew.bn.later hu
              have h0k : (0 : Int) ≤ (k : Int) := by omega
              have h1k : (k : Int) < (A.length : Int) := by omega
              go_upto_region 11 with (fail)
              clear hc hc0 hc3
              refine wp_region_inv (I := (fun A0 L a u => ∃ (x0 x1 x2 x3 x4 x5 x6 x7 x8 x9 x11 : Value), a = putAll A0 [(54, x0), (55, x1), (56, x2), (57, x3), (58, x4), (59, x5), (60, x6), (53, x7), (61, x8), (62, x9), (8, x11)] ∧ (L 0 = true → x0 = (.agg #[.int .u64 y.id, .int .u64 y.cust, .int .u64 y.con, .int .i64 y.day, .int .i64 y.due, .int .i64 y.frm, .int .i64 y.next, .int .i64 y.amt, .int .i64 y.cred, .int .i64 y.paid, .int .i64 y.lost])) ∧ (L 1 = true → x1 = (.slice (some ⟨ab, ao, Option.none⟩) A.length cap)) ∧ (L 2 = true → x2 = (.int .i64 (k : Int))) ∧ (L 3 = true → x3 = (.pointer (some ⟨ab, ao + k * 2, Option.none⟩))) ∧ (L 4 = true → x4 = (.pointer (some ⟨ab, ao + k * 2 + 1, Option.none⟩))) ∧ (L 5 = true → x5 = (.int .i64 n)) ∧ (L 6 = true → x6 = (.tuple #[(.agg #[.int .u64 y1.id, .int .u64 y1.cust, .int .u64 y1.con, .int .i64 y1.day, .int .i64 y1.due, .int .i64 y1.frm, .int .i64 y1.next, .int .i64 y1.amt, .int .i64 y1.cred, .int .i64 y1.paid, .int .i64 y1.lost]), .int .i64 z1])) ∧ (L 7 = true → x7 = (.tuple #[(.agg #[.int .u64 y1.id, .int .u64 y1.cust, .int .u64 y1.con, .int .i64 y1.day, .int .i64 y1.due, .int .i64 y1.frm, .int .i64 y1.next, .int .i64 y1.amt, .int .i64 y1.cred, .int .i64 y1.paid, .int .i64 y1.lost]), .int .i64 z1])) ∧ (L 8 = true → x8 = (.agg #[.int .u64 y1.id, .int .u64 y1.cust, .int .u64 y1.con, .int .i64 y1.day, .int .i64 y1.due, .int .i64 y1.frm, .int .i64 y1.next, .int .i64 y1.amt, .int .i64 y1.cred, .int .i64 y1.paid, .int .i64 y1.lost])) ∧ (L 9 = true → x9 = (.int .i64 z1)) ∧ (L 11 = true → x11 = (.int .i64 z1)) ∧ Cq wc.drew wr.heap.size y1 (L 0) (L 5) (L 6) (L 7) (L 8) (L 10) u)) (by kernel_rfl) (by kernel_rfl) ?_ ?_ ?_
              · intro L hL
                exact ⟨_, _, _, _, _, _, _, _, _, _, _, by (simp only [putAll, Act.put, List.setIfInBounds_toArray, List.set_cons_zero, List.set_cons_succ]; rfl), (fun h => absurd h (by rw [hL 0 (by decide)]; decide)), (fun h => absurd h (by rw [hL 1 (by decide)]; decide)), (fun h => absurd h (by rw [hL 2 (by decide)]; decide)), (fun h => absurd h (by rw [hL 3 (by decide)]; decide)), (fun h => absurd h (by rw [hL 4 (by decide)]; decide)), (fun h => absurd h (by rw [hL 5 (by decide)]; decide)), (fun h => absurd h (by rw [hL 6 (by decide)]; decide)), (fun h => absurd h (by rw [hL 7 (by decide)]; decide)), (fun h => absurd h (by rw [hL 8 (by decide)]; decide)), (fun h => absurd h (by rw [hL 9 (by decide)]; decide)), (fun h => absurd h (by rw [hL 11 (by decide)]; decide)), by rw [hL 0 (by decide), hL 5 (by decide), hL 6 (by decide), hL 7 (by decide), hL 8 (by decide), hL 10 (by decide)]; exact Cq.start⟩
              refine Steps.cons (i := 0) rfl ?_ ?_
              · rintro L a u ⟨x0, x1, x2, x3, x4, x5, x6, x7, x8, x9, x11, rfl, h0, h1, h2, h3, h4, h5, h6, h7, h8, h9, h11, hm⟩ hi hd K hK
                simp only [putAll, Act.put, List.setIfInBounds_toArray, List.set_cons_zero, List.set_cons_succ]
                (try simp [Region.binds] at hd)
                replace h0 := Lib.hid h0
                replace h1 := Lib.hid h1
                replace h2 := Lib.hid h2
                replace h3 := Lib.hid h3
                replace h4 := Lib.hid h4
                replace h5 := Lib.hid h5
                replace h6 := Lib.hid h6
                replace h7 := Lib.hid h7
                replace h8 := Lib.hid h8
                replace h9 := Lib.hid h9
                replace h11 := Lib.hid h11
                obtain rfl := hm.at0 hi
                go_simp
                exact hK.out _ _ ⟨_, _, _, _, _, _, _, _, _, _, _, by ((simp only [putAll, Act.put, List.setIfInBounds_toArray, List.set_cons_zero, List.set_cons_succ]) <;> rfl), (fun _ => rfl), h1.out, h2.out, h3.out, h4.out, h5.out, h6.out, h7.out, h8.out, h9.out, h11.out, hm.s0⟩
              refine Steps.cons (i := 1) rfl ?_ ?_
              · rintro L a u ⟨x0, x1, x2, x3, x4, x5, x6, x7, x8, x9, x11, rfl, h0, h1, h2, h3, h4, h5, h6, h7, h8, h9, h11, hm⟩ hi hd K hK
                simp only [putAll, Act.put, List.setIfInBounds_toArray, List.set_cons_zero, List.set_cons_succ]
                (try simp [Region.binds] at hd)
                replace h0 := Lib.hid h0
                replace h1 := Lib.hid h1
                replace h2 := Lib.hid h2
                replace h3 := Lib.hid h3
                replace h4 := Lib.hid h4
                replace h5 := Lib.hid h5
                replace h6 := Lib.hid h6
                replace h7 := Lib.hid h7
                replace h8 := Lib.hid h8
                replace h9 := Lib.hid h9
                replace h11 := Lib.hid h11
                go_simp
                exact hK.out _ _ ⟨_, _, _, _, _, _, _, _, _, _, _, by ((simp only [putAll, Act.put, List.setIfInBounds_toArray, List.set_cons_zero, List.set_cons_succ]) <;> rfl), h0.out, (fun _ => rfl), h2.out, h3.out, h4.out, h5.out, h6.out, h7.out, h8.out, h9.out, h11.out, hm⟩
              refine Steps.cons (i := 2) rfl ?_ ?_
              · rintro L a u ⟨x0, x1, x2, x3, x4, x5, x6, x7, x8, x9, x11, rfl, h0, h1, h2, h3, h4, h5, h6, h7, h8, h9, h11, hm⟩ hi hd K hK
                simp only [putAll, Act.put, List.setIfInBounds_toArray, List.set_cons_zero, List.set_cons_succ]
                (try simp [Region.binds] at hd)
                replace h0 := Lib.hid h0
                replace h1 := Lib.hid h1
                replace h2 := Lib.hid h2
                replace h3 := Lib.hid h3
                replace h4 := Lib.hid h4
                replace h5 := Lib.hid h5
                replace h6 := Lib.hid h6
                replace h7 := Lib.hid h7
                replace h8 := Lib.hid h8
                replace h9 := Lib.hid h9
                replace h11 := Lib.hid h11
                go_simp
                exact hK.out _ _ ⟨_, _, _, _, _, _, _, _, _, _, _, by ((simp only [putAll, Act.put, List.setIfInBounds_toArray, List.set_cons_zero, List.set_cons_succ]) <;> rfl), h0.out, h1.out, (fun _ => rfl), h3.out, h4.out, h5.out, h6.out, h7.out, h8.out, h9.out, h11.out, hm⟩
              refine Steps.cons (i := 3) rfl ?_ ?_
              · rintro L a u ⟨x0, x1, x2, x3, x4, x5, x6, x7, x8, x9, x11, rfl, h0, h1, h2, h3, h4, h5, h6, h7, h8, h9, h11, hm⟩ hi hd K hK
                simp only [putAll, Act.put, List.setIfInBounds_toArray, List.set_cons_zero, List.set_cons_succ]
                (try simp [Region.binds] at hd)
                replace h0 := Lib.hid h0
                replace h1 := Lib.hid h1
                replace h2 := Lib.hid h2
                replace h3 := Lib.hid h3
                replace h4 := Lib.hid h4
                replace h5 := Lib.hid h5
                replace h6 := Lib.hid h6
                replace h7 := Lib.hid h7
                replace h8 := Lib.hid h8
                replace h9 := Lib.hid h9
                replace h11 := Lib.hid h11
                obtain rfl := (h1.out (by simp [hd])).symm
                obtain rfl := (h2.out (by simp [hd])).symm
                go_simp
                exact hK.out _ _ ⟨_, _, _, _, _, _, _, _, _, _, _, by ((simp only [putAll, Act.put, List.setIfInBounds_toArray, List.set_cons_zero, List.set_cons_succ]) <;> rfl), h0.out, h1.out, h2.out, (fun _ => rfl), h4.out, h5.out, h6.out, h7.out, h8.out, h9.out, h11.out, hm⟩
              refine Steps.cons (i := 4) rfl ?_ ?_
              · rintro L a u ⟨x0, x1, x2, x3, x4, x5, x6, x7, x8, x9, x11, rfl, h0, h1, h2, h3, h4, h5, h6, h7, h8, h9, h11, hm⟩ hi hd K hK
                simp only [putAll, Act.put, List.setIfInBounds_toArray, List.set_cons_zero, List.set_cons_succ]
                (try simp [Region.binds] at hd)
                replace h0 := Lib.hid h0
                replace h1 := Lib.hid h1
                replace h2 := Lib.hid h2
                replace h3 := Lib.hid h3
                replace h4 := Lib.hid h4
                replace h5 := Lib.hid h5
                replace h6 := Lib.hid h6
                replace h7 := Lib.hid h7
                replace h8 := Lib.hid h8
                replace h9 := Lib.hid h9
                replace h11 := Lib.hid h11
                obtain rfl := (h3.out (by simp [hd])).symm
                go_simp
                exact hK.out _ _ ⟨_, _, _, _, _, _, _, _, _, _, _, by ((simp only [putAll, Act.put, List.setIfInBounds_toArray, List.set_cons_zero, List.set_cons_succ]) <;> rfl), h0.out, h1.out, h2.out, h3.out, (fun _ => rfl), h5.out, h6.out, h7.out, h8.out, h9.out, h11.out, hm⟩
              refine Steps.cons (i := 5) rfl ?_ ?_
              · rintro L a u ⟨x0, x1, x2, x3, x4, x5, x6, x7, x8, x9, x11, rfl, h0, h1, h2, h3, h4, h5, h6, h7, h8, h9, h11, hm⟩ hi hd K hK
                simp only [putAll, Act.put, List.setIfInBounds_toArray, List.set_cons_zero, List.set_cons_succ]
                (try simp [Region.binds] at hd)
                replace h0 := Lib.hid h0
                replace h1 := Lib.hid h1
                replace h2 := Lib.hid h2
                replace h3 := Lib.hid h3
                replace h4 := Lib.hid h4
                replace h5 := Lib.hid h5
                replace h6 := Lib.hid h6
                replace h7 := Lib.hid h7
                replace h8 := Lib.hid h8
                replace h9 := Lib.hid h9
                replace h11 := Lib.hid h11
                obtain rfl := (h4.out (by simp [hd])).symm
                obtain rfl := hm.at5 hi
                go_simp
                exact hK.out _ _ ⟨_, _, _, _, _, _, _, _, _, _, _, by ((simp only [putAll, Act.put, List.setIfInBounds_toArray, List.set_cons_zero, List.set_cons_succ]) <;> rfl), h0.out, h1.out, h2.out, h3.out, h4.out, (fun _ => rfl), h6.out, h7.out, h8.out, h9.out, h11.out, hm.s5⟩
              refine Steps.cons (i := 6) rfl ?_ ?_
              · rintro L a u ⟨x0, x1, x2, x3, x4, x5, x6, x7, x8, x9, x11, rfl, h0, h1, h2, h3, h4, h5, h6, h7, h8, h9, h11, hm⟩ hi hd K hK
                simp only [putAll, Act.put, List.setIfInBounds_toArray, List.set_cons_zero, List.set_cons_succ]
                (try simp [Region.binds] at hd)
                replace h0 := Lib.hid h0
                replace h1 := Lib.hid h1
                replace h2 := Lib.hid h2
                replace h3 := Lib.hid h3
                replace h4 := Lib.hid h4
                replace h5 := Lib.hid h5
                replace h6 := Lib.hid h6
                replace h7 := Lib.hid h7
                replace h8 := Lib.hid h8
                replace h9 := Lib.hid h9
                replace h11 := Lib.hid h11
                obtain rfl := (h0.out (by simp [hd])).symm
                obtain rfl := (h5.out (by simp [hd])).symm
                have hl0 : L 0 = true := by simp [hd]
                have hl5 : L 5 = true := by simp [hd]
                obtain rfl := hm.c0 hi
                go_simp
                refine (KS.out _).mono ?_
                rintro e u5 ⟨rfl, b5⟩
                go_wp2_with fail
                exact hK.out _ _ ⟨_, _, _, _, _, _, _, _, _, _, _, by ((simp only [putAll, Act.put, List.setIfInBounds_toArray, List.set_cons_zero, List.set_cons_succ]) <;> rfl), (fun _ => rfl), h1.out, h2.out, h3.out, h4.out, (fun _ => rfl), (fun _ => rfl), h7.out, h8.out, h9.out, h11.out, (hm.did hi hl0 hl5 b5)⟩
              refine Steps.cons (i := 7) rfl ?_ ?_
              · rintro L a u ⟨x0, x1, x2, x3, x4, x5, x6, x7, x8, x9, x11, rfl, h0, h1, h2, h3, h4, h5, h6, h7, h8, h9, h11, hm⟩ hi hd K hK
                simp only [putAll, Act.put, List.setIfInBounds_toArray, List.set_cons_zero, List.set_cons_succ]
                (try simp [Region.binds] at hd)
                replace h0 := Lib.hid h0
                replace h1 := Lib.hid h1
                replace h2 := Lib.hid h2
                replace h3 := Lib.hid h3
                replace h4 := Lib.hid h4
                replace h5 := Lib.hid h5
                replace h6 := Lib.hid h6
                replace h7 := Lib.hid h7
                replace h8 := Lib.hid h8
                replace h9 := Lib.hid h9
                replace h11 := Lib.hid h11
                obtain rfl := (h6.out (by simp [hd])).symm
                go_simp
                exact hK.out _ _ ⟨_, _, _, _, _, _, _, _, _, _, _, by ((simp only [putAll, Act.put, List.setIfInBounds_toArray, List.set_cons_zero, List.set_cons_succ]) <;> rfl), h0.out, h1.out, h2.out, h3.out, h4.out, h5.out, h6.out, (fun _ => rfl), h8.out, h9.out, h11.out, (hm.s7 (by simp [hd]))⟩
              refine Steps.cons (i := 8) rfl ?_ ?_
              · rintro L a u ⟨x0, x1, x2, x3, x4, x5, x6, x7, x8, x9, x11, rfl, h0, h1, h2, h3, h4, h5, h6, h7, h8, h9, h11, hm⟩ hi hd K hK
                simp only [putAll, Act.put, List.setIfInBounds_toArray, List.set_cons_zero, List.set_cons_succ]
                (try simp [Region.binds] at hd)
                replace h0 := Lib.hid h0
                replace h1 := Lib.hid h1
                replace h2 := Lib.hid h2
                replace h3 := Lib.hid h3
                replace h4 := Lib.hid h4
                replace h5 := Lib.hid h5
                replace h6 := Lib.hid h6
                replace h7 := Lib.hid h7
                replace h8 := Lib.hid h8
                replace h9 := Lib.hid h9
                replace h11 := Lib.hid h11
                obtain rfl := (h7.out (by simp [hd])).symm
                go_simp
                exact hK.out _ _ ⟨_, _, _, _, _, _, _, _, _, _, _, by ((simp only [putAll, Act.put, List.setIfInBounds_toArray, List.set_cons_zero, List.set_cons_succ]) <;> rfl), h0.out, h1.out, h2.out, h3.out, h4.out, h5.out, h6.out, h7.out, (fun _ => rfl), h9.out, h11.out, (hm.s8 (by simp [hd]))⟩
              refine Steps.cons (i := 9) rfl ?_ ?_
              · rintro L a u ⟨x0, x1, x2, x3, x4, x5, x6, x7, x8, x9, x11, rfl, h0, h1, h2, h3, h4, h5, h6, h7, h8, h9, h11, hm⟩ hi hd K hK
                simp only [putAll, Act.put, List.setIfInBounds_toArray, List.set_cons_zero, List.set_cons_succ]
                (try simp [Region.binds] at hd)
                replace h0 := Lib.hid h0
                replace h1 := Lib.hid h1
                replace h2 := Lib.hid h2
                replace h3 := Lib.hid h3
                replace h4 := Lib.hid h4
                replace h5 := Lib.hid h5
                replace h6 := Lib.hid h6
                replace h7 := Lib.hid h7
                replace h8 := Lib.hid h8
                replace h9 := Lib.hid h9
                replace h11 := Lib.hid h11
                obtain rfl := (h7.out (by simp [hd])).symm
                go_simp
                exact hK.out _ _ ⟨_, _, _, _, _, _, _, _, _, _, _, by ((simp only [putAll, Act.put, List.setIfInBounds_toArray, List.set_cons_zero, List.set_cons_succ]) <;> rfl), h0.out, h1.out, h2.out, h3.out, h4.out, h5.out, h6.out, h7.out, h8.out, (fun _ => rfl), h11.out, hm⟩
              refine Steps.cons (i := 10) rfl ?_ ?_
              · rintro L a u ⟨x0, x1, x2, x3, x4, x5, x6, x7, x8, x9, x11, rfl, h0, h1, h2, h3, h4, h5, h6, h7, h8, h9, h11, hm⟩ hi hd K hK
                simp only [putAll, Act.put, List.setIfInBounds_toArray, List.set_cons_zero, List.set_cons_succ]
                (try simp [Region.binds] at hd)
                replace h0 := Lib.hid h0
                replace h1 := Lib.hid h1
                replace h2 := Lib.hid h2
                replace h3 := Lib.hid h3
                replace h4 := Lib.hid h4
                replace h5 := Lib.hid h5
                replace h6 := Lib.hid h6
                replace h7 := Lib.hid h7
                replace h8 := Lib.hid h8
                replace h9 := Lib.hid h9
                replace h11 := Lib.hid h11
                obtain rfl := (h8.out (by simp [hd])).symm
                have hl8 : L 8 = true := by simp [hd]
                have hbu := hm.bel hl8 hi
                rw [if_pos (by rfl)]
                refine wp_store_mid 24 (.tmp 6) (.tmp 61) rfl wr.heap.size 0 y1.cells (by rfl) (by rfl) (HBN.out u hbu).there (by kernel_rfl) (by simp [Iv.cells, Value.oneCell']) ?_
                exact hK.out _ _ ⟨_, _, _, _, _, _, _, _, _, _, _, by ((simp only [putAll, Act.put, List.setIfInBounds_toArray, List.set_cons_zero, List.set_cons_succ]) <;> rfl), h0.out, h1.out, h2.out, h3.out, h4.out, h5.out, h6.out, h7.out, (fun _ => rfl), h9.out, h11.out, (hm.store2 hl8 hi)⟩
              refine Steps.cons (i := 11) rfl ?_ ?_
              · rintro L a u ⟨x0, x1, x2, x3, x4, x5, x6, x7, x8, x9, x11, rfl, h0, h1, h2, h3, h4, h5, h6, h7, h8, h9, h11, hm⟩ hi hd K hK
                simp only [putAll, Act.put, List.setIfInBounds_toArray, List.set_cons_zero, List.set_cons_succ]
                (try simp [Region.binds] at hd)
                replace h0 := Lib.hid h0
                replace h1 := Lib.hid h1
                replace h2 := Lib.hid h2
                replace h3 := Lib.hid h3
                replace h4 := Lib.hid h4
                replace h5 := Lib.hid h5
                replace h6 := Lib.hid h6
                replace h7 := Lib.hid h7
                replace h8 := Lib.hid h8
                replace h9 := Lib.hid h9
                replace h11 := Lib.hid h11
                obtain rfl := (h9.out (by simp [hd])).symm
                go_simp
                exact hK.out _ _ ⟨_, _, _, _, _, _, _, _, _, _, _, by ((simp only [putAll, Act.put, List.setIfInBounds_toArray, List.set_cons_zero, List.set_cons_succ]) <;> rfl), h0.out, h1.out, h2.out, h3.out, h4.out, h5.out, h6.out, h7.out, h8.out, h9.out, (fun _ => rfl), hm⟩
              · exact Steps.nil
              · rintro L a u ⟨x0, x1, x2, x3, x4, x5, x6, x7, x8, x9, x11, rfl, h0, h1, h2, h3, h4, h5, h6, h7, h8, h9, h11, hm⟩ hall
                obtain rfl := (h11 (hall 11 (by decide))).symm
                simp only [putAll, Act.put, List.setIfInBounds_toArray, List.set_cons_zero, List.set_cons_succ]
                have HM := Lib.hid (hm.end' (hall 10 (by decide)))
                clear hm h0 h1 h2 h3 h4 h5 h6 h7 h8 h9 hall
                obtain ⟨u1, hb1, rfl⟩ := HM.out
                have J1 := Lib.hid (J0.out.drew.later hb1)
                clear HM hb1
                have HL : Hid (TW w w.heap.size y wr.heap.size y1 (putIv u1 wr.heap.size y1)) := J1.out.put y1
                generalize putIv u1 wr.heap.size y1 = u2 at HL ⊢
                go_wp2_with fail
                go_meet
                exact ⟨y1, 0, z1, HST.out, rfl, rfl, HL.out⟩
            · as_aux_lemma =>
              obtain ⟨⟨y1, z1⟩, h1⟩ : ∃ r, y.unpayR n = r := ⟨_, rfl⟩
              have KS := Lib.hid (fun w => (show Calls Tryd.prog 11 #[(.agg #[.int .u64 y.id, .int .u64 y.cust, .int .u64 y.con, .int .i64 y.day, .int .i64 y.due, .int .i64 y.frm, .int .i64 y.next, .int .i64 y.amt, .int .i64 y.cred, .int .i64 y.paid, .int .i64 y.lost]), .int .i64 n] w fun e w' => e = .returned (.tuple #[(.agg #[.int .u64 y1.id, .int .u64 y1.cust, .int .u64 y1.con, .int .i64 y1.day, .int .i64 y1.due, .int .i64 y1.frm, .int .i64 y1.next, .int .i64 y1.amt, .int .i64 y1.cred, .int .i64 y1.paid, .int .i64 y1.lost]), .int .i64 z1]) ∧ Below w.heap.size w w' from by have h := Unpay_c y n w HYF.out; rw [h1] at h; exact h))
              have HST := Lib.hid (show StepOk y 2 n y1 0 z1 from by
                have h := step_is y 2 n HYK.out HYF.out (by decide) (by decide)
                have e : y.step 2 n = ((y.unpayR n).1, 0, (y.unpayR n).2) := rfl
                rw [e, h1] at h
                exact h)
              clear h1 HC
              have HBN : Hid (∀ u, Below wc.drew.heap.size wc.drew u → Bx wr.heap.size y u) := fun u hu => J0.out.drew.bn.later hu
              have h0k : (0 : Int) ≤ (k : Int) := by omega
              have h1k : (k : Int) < (A.length : Int) := by omega
              go_upto_region 13 with (fail)
              clear hc hc0 hc3
              refine wp_region_inv (I := (fun A0 L a u => ∃ (x0 x1 x2 x3 x4 x5 x6 x7 x8 x9 x11 : Value), a = putAll A0 [(66, x0), (67, x1), (68, x2), (69, x3), (70, x4), (71, x5), (72, x6), (65, x7), (73, x8), (74, x9), (8, x11)] ∧ (L 0 = true → x0 = (.agg #[.int .u64 y.id, .int .u64 y.cust, .int .u64 y.con, .int .i64 y.day, .int .i64 y.due, .int .i64 y.frm, .int .i64 y.next, .int .i64 y.amt, .int .i64 y.cred, .int .i64 y.paid, .int .i64 y.lost])) ∧ (L 1 = true → x1 = (.slice (some ⟨ab, ao, Option.none⟩) A.length cap)) ∧ (L 2 = true → x2 = (.int .i64 (k : Int))) ∧ (L 3 = true → x3 = (.pointer (some ⟨ab, ao + k * 2, Option.none⟩))) ∧ (L 4 = true → x4 = (.pointer (some ⟨ab, ao + k * 2 + 1, Option.none⟩))) ∧ (L 5 = true → x5 = (.int .i64 n)) ∧ (L 6 = true → x6 = (.tuple #[(.agg #[.int .u64 y1.id, .int .u64 y1.cust, .int .u64 y1.con, .int .i64 y1.day, .int .i64 y1.due, .int .i64 y1.frm, .int .i64 y1.next, .int .i64 y1.amt, .int .i64 y1.cred, .int .i64 y1.paid, .int .i64 y1.lost]), .int .i64 z1])) ∧ (L 7 = true → x7 = (.tuple #[(.agg #[.int .u64 y1.id, .int .u64 y1.cust, .int .u64 y1.con, .int .i64 y1.day, .int .i64 y1.due, .int .i64 y1.frm, .int .i64 y1.next, .int .i64 y1.amt, .int .i64 y1.cred, .int .i64 y1.paid, .int .i64 y1.lost]), .int .i64 z1])) ∧ (L 8 = true → x8 = (.agg #[.int .u64 y1.id, .int .u64 y1.cust, .int .u64 y1.con, .int .i64 y1.day, .int .i64 y1.due, .int .i64 y1.frm, .int .i64 y1.next, .int .i64 y1.amt, .int .i64 y1.cred, .int .i64 y1.paid, .int .i64 y1.lost])) ∧ (L 9 = true → x9 = (.int .i64 z1)) ∧ (L 11 = true → x11 = (.int .i64 z1)) ∧ Cq wc.drew wr.heap.size y1 (L 0) (L 5) (L 6) (L 7) (L 8) (L 10) u)) (by kernel_rfl) (by kernel_rfl) ?_ ?_ ?_
              · intro L hL
                exact ⟨_, _, _, _, _, _, _, _, _, _, _, by (simp only [putAll, Act.put, List.setIfInBounds_toArray, List.set_cons_zero, List.set_cons_succ]; rfl), (fun h => absurd h (by rw [hL 0 (by decide)]; decide)), (fun h => absurd h (by rw [hL 1 (by decide)]; decide)), (fun h => absurd h (by rw [hL 2 (by decide)]; decide)), (fun h => absurd h (by rw [hL 3 (by decide)]; decide)), (fun h => absurd h (by rw [hL 4 (by decide)]; decide)), (fun h => absurd h (by rw [hL 5 (by decide)]; decide)), (fun h => absurd h (by rw [hL 6 (by decide)]; decide)), (fun h => absurd h (by rw [hL 7 (by decide)]; decide)), (fun h => absurd h (by rw [hL 8 (by decide)]; decide)), (fun h => absurd h (by rw [hL 9 (by decide)]; decide)), (fun h => absurd h (by rw [hL 11 (by decide)]; decide)), by rw [hL 0 (by decide), hL 5 (by decide), hL 6 (by decide), hL 7 (by decide), hL 8 (by decide), hL 10 (by decide)]; exact Cq.start⟩
              refine Steps.cons (i := 0) rfl ?_ ?_
              · rintro L a u ⟨x0, x1, x2, x3, x4, x5, x6, x7, x8, x9, x11, rfl, h0, h1, h2, h3, h4, h5, h6, h7, h8, h9, h11, hm⟩ hi hd K hK
                simp only [putAll, Act.put, List.setIfInBounds_toArray, List.set_cons_zero, List.set_cons_succ]
                (try simp [Region.binds] at hd)
                replace h0 := Lib.hid h0
                replace h1 := Lib.hid h1
                replace h2 := Lib.hid h2
                replace h3 := Lib.hid h3
                replace h4 := Lib.hid h4
                replace h5 := Lib.hid h5
                replace h6 := Lib.hid h6
                replace h7 := Lib.hid h7
                replace h8 := Lib.hid h8
                replace h9 := Lib.hid h9
                replace h11 := Lib.hid h11
                obtain rfl := hm.at0 hi
                go_simp
                exact hK.out _ _ ⟨_, _, _, _, _, _, _, _, _, _, _, by ((simp only [putAll, Act.put, List.setIfInBounds_toArray, List.set_cons_zero, List.set_cons_succ]) <;> rfl), (fun _ => rfl), h1.out, h2.out, h3.out, h4.out, h5.out, h6.out, h7.out, h8.out, h9.out, h11.out, hm.s0⟩
              refine Steps.cons (i := 1) rfl ?_ ?_
              · rintro L a u ⟨x0, x1, x2, x3, x4, x5, x6, x7, x8, x9, x11, rfl, h0, h1, h2, h3, h4, h5, h6, h7, h8, h9, h11, hm⟩ hi hd K hK
                simp only [putAll, Act.put, List.setIfInBounds_toArray, List.set_cons_zero, List.set_cons_succ]
                (try simp [Region.binds] at hd)
                replace h0 := Lib.hid h0
                replace h1 := Lib.hid h1
                replace h2 := Lib.hid h2
                replace h3 := Lib.hid h3
                replace h4 := Lib.hid h4
                replace h5 := Lib.hid h5
                replace h6 := Lib.hid h6
                replace h7 := Lib.hid h7
                replace h8 := Lib.hid h8
                replace h9 := Lib.hid h9
                replace h11 := Lib.hid h11
                go_simp
                exact hK.out _ _ ⟨_, _, _, _, _, _, _, _, _, _, _, by ((simp only [putAll, Act.put, List.setIfInBounds_toArray, List.set_cons_zero, List.set_cons_succ]) <;> rfl), h0.out, (fun _ => rfl), h2.out, h3.out, h4.out, h5.out, h6.out, h7.out, h8.out, h9.out, h11.out, hm⟩
              refine Steps.cons (i := 2) rfl ?_ ?_
              · rintro L a u ⟨x0, x1, x2, x3, x4, x5, x6, x7, x8, x9, x11, rfl, h0, h1, h2, h3, h4, h5, h6, h7, h8, h9, h11, hm⟩ hi hd K hK
                simp only [putAll, Act.put, List.setIfInBounds_toArray, List.set_cons_zero, List.set_cons_succ]
                (try simp [Region.binds] at hd)
                replace h0 := Lib.hid h0
                replace h1 := Lib.hid h1
                replace h2 := Lib.hid h2
                replace h3 := Lib.hid h3
                replace h4 := Lib.hid h4
                replace h5 := Lib.hid h5
                replace h6 := Lib.hid h6
                replace h7 := Lib.hid h7
                replace h8 := Lib.hid h8
                replace h9 := Lib.hid h9
                replace h11 := Lib.hid h11
                go_simp
                exact hK.out _ _ ⟨_, _, _, _, _, _, _, _, _, _, _, by ((simp only [putAll, Act.put, List.setIfInBounds_toArray, List.set_cons_zero, List.set_cons_succ]) <;> rfl), h0.out, h1.out, (fun _ => rfl), h3.out, h4.out, h5.out, h6.out, h7.out, h8.out, h9.out, h11.out, hm⟩
              refine Steps.cons (i := 3) rfl ?_ ?_
              · rintro L a u ⟨x0, x1, x2, x3, x4, x5, x6, x7, x8, x9, x11, rfl, h0, h1, h2, h3, h4, h5, h6, h7, h8, h9, h11, hm⟩ hi hd K hK
                simp only [putAll, Act.put, List.setIfInBounds_toArray, List.set_cons_zero, List.set_cons_succ]
                (try simp [Region.binds] at hd)
                replace h0 := Lib.hid h0
                replace h1 := Lib.hid h1
                replace h2 := Lib.hid h2
                replace h3 := Lib.hid h3
                replace h4 := Lib.hid h4
                replace h5 := Lib.hid h5
                replace h6 := Lib.hid h6
                replace h7 := Lib.hid h7
                replace h8 := Lib.hid h8
                replace h9 := Lib.hid h9
                replace h11 := Lib.hid h11
                obtain rfl := (h1.out (by simp [hd])).symm
                obtain rfl := (h2.out (by simp [hd])).symm
                go_simp
                exact hK.out _ _ ⟨_, _, _, _, _, _, _, _, _, _, _, by ((simp only [putAll, Act.put, List.setIfInBounds_toArray, List.set_cons_zero, List.set_cons_succ]) <;> rfl), h0.out, h1.out, h2.out, (fun _ => rfl), h4.out, h5.out, h6.out, h7.out, h8.out, h9.out, h11.out, hm⟩
              refine Steps.cons (i := 4) rfl ?_ ?_
              · rintro L a u ⟨x0, x1, x2, x3, x4, x5, x6, x7, x8, x9, x11, rfl, h0, h1, h2, h3, h4, h5, h6, h7, h8, h9, h11, hm⟩ hi hd K hK
                simp only [putAll, Act.put, List.setIfInBounds_toArray, List.set_cons_zero, List.set_cons_succ]
                (try simp [Region.binds] at hd)
                replace h0 := Lib.hid h0
                replace h1 := Lib.hid h1
                replace h2 := Lib.hid h2
                replace h3 := Lib.hid h3
                replace h4 := Lib.hid h4
                replace h5 := Lib.hid h5
                replace h6 := Lib.hid h6
                replace h7 := Lib.hid h7
                replace h8 := Lib.hid h8
                replace h9 := Lib.hid h9
                replace h11 := Lib.hid h11
                obtain rfl := (h3.out (by simp [hd])).symm
                go_simp
                exact hK.out _ _ ⟨_, _, _, _, _, _, _, _, _, _, _, by ((simp only [putAll, Act.put, List.setIfInBounds_toArray, List.set_cons_zero, List.set_cons_succ]) <;> rfl), h0.out, h1.out, h2.out, h3.out, (fun _ => rfl), h5.out, h6.out, h7.out, h8.out, h9.out, h11.out, hm⟩
              refine Steps.cons (i := 5) rfl ?_ ?_
              · rintro L a u ⟨x0, x1, x2, x3, x4, x5, x6, x7, x8, x9, x11, rfl, h0, h1, h2, h3, h4, h5, h6, h7, h8, h9, h11, hm⟩ hi hd K hK
                simp only [putAll, Act.put, List.setIfInBounds_toArray, List.set_cons_zero, List.set_cons_succ]
                (try simp [Region.binds] at hd)
                replace h0 := Lib.hid h0
                replace h1 := Lib.hid h1
                replace h2 := Lib.hid h2
                replace h3 := Lib.hid h3
                replace h4 := Lib.hid h4
                replace h5 := Lib.hid h5
                replace h6 := Lib.hid h6
                replace h7 := Lib.hid h7
                replace h8 := Lib.hid h8
                replace h9 := Lib.hid h9
                replace h11 := Lib.hid h11
                obtain rfl := (h4.out (by simp [hd])).symm
                obtain rfl := hm.at5 hi
                go_simp
                exact hK.out _ _ ⟨_, _, _, _, _, _, _, _, _, _, _, by ((simp only [putAll, Act.put, List.setIfInBounds_toArray, List.set_cons_zero, List.set_cons_succ]) <;> rfl), h0.out, h1.out, h2.out, h3.out, h4.out, (fun _ => rfl), h6.out, h7.out, h8.out, h9.out, h11.out, hm.s5⟩
              refine Steps.cons (i := 6) rfl ?_ ?_
              · rintro L a u ⟨x0, x1, x2, x3, x4, x5, x6, x7, x8, x9, x11, rfl, h0, h1, h2, h3, h4, h5, h6, h7, h8, h9, h11, hm⟩ hi hd K hK
                simp only [putAll, Act.put, List.setIfInBounds_toArray, List.set_cons_zero, List.set_cons_succ]
                (try simp [Region.binds] at hd)
                replace h0 := Lib.hid h0
                replace h1 := Lib.hid h1
                replace h2 := Lib.hid h2
                replace h3 := Lib.hid h3
                replace h4 := Lib.hid h4
                replace h5 := Lib.hid h5
                replace h6 := Lib.hid h6
                replace h7 := Lib.hid h7
                replace h8 := Lib.hid h8
                replace h9 := Lib.hid h9
                replace h11 := Lib.hid h11
                obtain rfl := (h0.out (by simp [hd])).symm
                obtain rfl := (h5.out (by simp [hd])).symm
                have hl0 : L 0 = true := by simp [hd]
                have hl5 : L 5 = true := by simp [hd]
                obtain rfl := hm.c0 hi
                go_simp
                refine (KS.out _).mono ?_
                rintro e u5 ⟨rfl, b5⟩
                go_wp2_with fail
                exact hK.out _ _ ⟨_, _, _, _, _, _, _, _, _, _, _, by ((simp only [putAll, Act.put, List.setIfInBounds_toArray, List.set_cons_zero, List.set_cons_succ]) <;> rfl), (fun _ => rfl), h1.out, h2.out, h3.out, h4.out, (fun _ => rfl), (fun _ => rfl), h7.out, h8.out, h9.out, h11.out, (hm.did hi hl0 hl5 b5)⟩
              refine Steps.cons (i := 7) rfl ?_ ?_
              · rintro L a u ⟨x0, x1, x2, x3, x4, x5, x6, x7, x8, x9, x11, rfl, h0, h1, h2, h3, h4, h5, h6, h7, h8, h9, h11, hm⟩ hi hd K hK
                simp only [putAll, Act.put, List.setIfInBounds_toArray, List.set_cons_zero, List.set_cons_succ]
                (try simp [Region.binds] at hd)
                replace h0 := Lib.hid h0
                replace h1 := Lib.hid h1
                replace h2 := Lib.hid h2
                replace h3 := Lib.hid h3
                replace h4 := Lib.hid h4
                replace h5 := Lib.hid h5
                replace h6 := Lib.hid h6
                replace h7 := Lib.hid h7
                replace h8 := Lib.hid h8
                replace h9 := Lib.hid h9
                replace h11 := Lib.hid h11
                obtain rfl := (h6.out (by simp [hd])).symm
                go_simp
                exact hK.out _ _ ⟨_, _, _, _, _, _, _, _, _, _, _, by ((simp only [putAll, Act.put, List.setIfInBounds_toArray, List.set_cons_zero, List.set_cons_succ]) <;> rfl), h0.out, h1.out, h2.out, h3.out, h4.out, h5.out, h6.out, (fun _ => rfl), h8.out, h9.out, h11.out, (hm.s7 (by simp [hd]))⟩
              refine Steps.cons (i := 8) rfl ?_ ?_
              · rintro L a u ⟨x0, x1, x2, x3, x4, x5, x6, x7, x8, x9, x11, rfl, h0, h1, h2, h3, h4, h5, h6, h7, h8, h9, h11, hm⟩ hi hd K hK
                simp only [putAll, Act.put, List.setIfInBounds_toArray, List.set_cons_zero, List.set_cons_succ]
                (try simp [Region.binds] at hd)
                replace h0 := Lib.hid h0
                replace h1 := Lib.hid h1
                replace h2 := Lib.hid h2
                replace h3 := Lib.hid h3
                replace h4 := Lib.hid h4
                replace h5 := Lib.hid h5
                replace h6 := Lib.hid h6
                replace h7 := Lib.hid h7
                replace h8 := Lib.hid h8
                replace h9 := Lib.hid h9
                replace h11 := Lib.hid h11
                obtain rfl := (h7.out (by simp [hd])).symm
                go_simp
                exact hK.out _ _ ⟨_, _, _, _, _, _, _, _, _, _, _, by ((simp only [putAll, Act.put, List.setIfInBounds_toArray, List.set_cons_zero, List.set_cons_succ]) <;> rfl), h0.out, h1.out, h2.out, h3.out, h4.out, h5.out, h6.out, h7.out, (fun _ => rfl), h9.out, h11.out, (hm.s8 (by simp [hd]))⟩
              refine Steps.cons (i := 9) rfl ?_ ?_
              · rintro L a u ⟨x0, x1, x2, x3, x4, x5, x6, x7, x8, x9, x11, rfl, h0, h1, h2, h3, h4, h5, h6, h7, h8, h9, h11, hm⟩ hi hd K hK
                simp only [putAll, Act.put, List.setIfInBounds_toArray, List.set_cons_zero, List.set_cons_succ]
                (try simp [Region.binds] at hd)
                replace h0 := Lib.hid h0
                replace h1 := Lib.hid h1
                replace h2 := Lib.hid h2
                replace h3 := Lib.hid h3
                replace h4 := Lib.hid h4
                replace h5 := Lib.hid h5
                replace h6 := Lib.hid h6
                replace h7 := Lib.hid h7
                replace h8 := Lib.hid h8
                replace h9 := Lib.hid h9
                replace h11 := Lib.hid h11
                obtain rfl := (h7.out (by simp [hd])).symm
                go_simp
                exact hK.out _ _ ⟨_, _, _, _, _, _, _, _, _, _, _, by ((simp only [putAll, Act.put, List.setIfInBounds_toArray, List.set_cons_zero, List.set_cons_succ]) <;> rfl), h0.out, h1.out, h2.out, h3.out, h4.out, h5.out, h6.out, h7.out, h8.out, (fun _ => rfl), h11.out, hm⟩
              refine Steps.cons (i := 10) rfl ?_ ?_
              · rintro L a u ⟨x0, x1, x2, x3, x4, x5, x6, x7, x8, x9, x11, rfl, h0, h1, h2, h3, h4, h5, h6, h7, h8, h9, h11, hm⟩ hi hd K hK
                simp only [putAll, Act.put, List.setIfInBounds_toArray, List.set_cons_zero, List.set_cons_succ]
                (try simp [Region.binds] at hd)
                replace h0 := Lib.hid h0
                replace h1 := Lib.hid h1
                replace h2 := Lib.hid h2
                replace h3 := Lib.hid h3
                replace h4 := Lib.hid h4
                replace h5 := Lib.hid h5
                replace h6 := Lib.hid h6
                replace h7 := Lib.hid h7
                replace h8 := Lib.hid h8
                replace h9 := Lib.hid h9
                replace h11 := Lib.hid h11
                obtain rfl := (h8.out (by simp [hd])).symm
                have hl8 : L 8 = true := by simp [hd]
                have hbu := hm.bel hl8 hi
                rw [if_pos (by rfl)]
                refine wp_store_mid 24 (.tmp 6) (.tmp 73) rfl wr.heap.size 0 y1.cells (by rfl) (by rfl) (HBN.out u hbu).there (by kernel_rfl) (by simp [Iv.cells, Value.oneCell']) ?_
                exact hK.out _ _ ⟨_, _, _, _, _, _, _, _, _, _, _, by ((simp only [putAll, Act.put, List.setIfInBounds_toArray, List.set_cons_zero, List.set_cons_succ]) <;> rfl), h0.out, h1.out, h2.out, h3.out, h4.out, h5.out, h6.out, h7.out, (fun _ => rfl), h9.out, h11.out, (hm.store2 hl8 hi)⟩
              refine Steps.cons (i := 11) rfl ?_ ?_
              · rintro L a u ⟨x0, x1, x2, x3, x4, x5, x6, x7, x8, x9, x11, rfl, h0, h1, h2, h3, h4, h5, h6, h7, h8, h9, h11, hm⟩ hi hd K hK
                simp only [putAll, Act.put, List.setIfInBounds_toArray, List.set_cons_zero, List.set_cons_succ]
                (try simp [Region.binds] at hd)
                replace h0 := Lib.hid h0
                replace h1 := Lib.hid h1
                replace h2 := Lib.hid h2
                replace h3 := Lib.hid h3
                replace h4 := Lib.hid h4
                replace h5 := Lib.hid h5
                replace h6 := Lib.hid h6
                replace h7 := Lib.hid h7
                replace h8 := Lib.hid h8
                replace h9 := Lib.hid h9
                replace h11 := Lib.hid h11
                obtain rfl := (h9.out (by simp [hd])).symm
                go_simp
                exact hK.out _ _ ⟨_, _, _, _, _, _, _, _, _, _, _, by ((simp only [putAll, Act.put, List.setIfInBounds_toArray, List.set_cons_zero, List.set_cons_succ]) <;> rfl), h0.out, h1.out, h2.out, h3.out, h4.out, h5.out, h6.out, h7.out, h8.out, h9.out, (fun _ => rfl), hm⟩
              · exact Steps.nil
              · rintro L a u ⟨x0, x1, x2, x3, x4, x5, x6, x7, x8, x9, x11, rfl, h0, h1, h2, h3, h4, h5, h6, h7, h8, h9, h11, hm⟩ hall
                obtain rfl := (h11 (hall 11 (by decide))).symm
                simp only [putAll, Act.put, List.setIfInBounds_toArray, List.set_cons_zero, List.set_cons_succ]
                have HM := Lib.hid (hm.end' (hall 10 (by decide)))
                clear hm h0 h1 h2 h3 h4 h5 h6 h7 h8 h9 hall
                obtain ⟨u1, hb1, rfl⟩ := HM.out
                have J1 := Lib.hid (J0.out.drew.later hb1)
                clear HM hb1
                have HL : Hid (TW w w.heap.size y wr.heap.size y1 (putIv u1 wr.heap.size y1)) := J1.out.put y1
                generalize putIv u1 wr.heap.size y1 = u2 at HL ⊢
                go_wp2_with fail
                go_meet
                exact ⟨y1, 0, z1, HST.out, rfl, rfl, HL.out⟩
            · as_aux_lemma =>
              obtain ⟨⟨y1, o1, z1⟩, h1⟩ : ∃ r, y.loseR = r := ⟨_, rfl⟩
              have KS := Lib.hid (fun w => (show Calls Tryd.prog 13 #[(.agg #[.int .u64 y.id, .int .u64 y.cust, .int .u64 y.con, .int .i64 y.day, .int .i64 y.due, .int .i64 y.frm, .int .i64 y.next, .int .i64 y.amt, .int .i64 y.cred, .int .i64 y.paid, .int .i64 y.lost])] w fun e w' => e = .returned (.tuple #[(.agg #[.int .u64 y1.id, .int .u64 y1.cust, .int .u64 y1.con, .int .i64 y1.day, .int .i64 y1.due, .int .i64 y1.frm, .int .i64 y1.next, .int .i64 y1.amt, .int .i64 y1.cred, .int .i64 y1.paid, .int .i64 y1.lost]), .int .i64 o1, .int .i64 z1]) ∧ Below w.heap.size w w' from by have h := Lose_c y w HYF.out; rw [h1] at h; exact h))
              have HST := Lib.hid (show StepOk y 3 n y1 o1 z1 from by
                have h := step_is y 3 n HYK.out HYF.out (by decide) (by decide)
                have e : y.step 3 n = y.loseR := rfl
                rw [e, h1] at h
                exact h)
              clear h1 HC
              go_wp2_with fail
              refine (KS.out _).mono ?_
              rintro e u1 ⟨rfl, b1⟩
              have J1 := Lib.hid (J0.out.later b1)
              have HL : Hid (TW w w.heap.size y wr.heap.size y1 (u1.setCells wr.heap.size 0 #[.int .u64 y1.id, .int .u64 y1.cust, .int .u64 y1.con, .int .i64 y1.day, .int .i64 y1.due, .int .i64 y1.frm, .int .i64 y1.next, .int .i64 y1.amt, .int .i64 y1.cred, .int .i64 y1.paid, .int .i64 y1.lost].toList)) := J1.out.put y1
              clear a0 af0 a1 af1 a2 af2 a3 af3 a4 af4 a5 af5 a6 af6 a7 af7 a8 af8 a9 af9 a10 af10 alt
              clear b1
              go_wp2_with (with_reducible refine wpList_store_mid rfl 24 _ _ rfl wr.heap.size 0 #[.int .u64 y1.id, .int .u64 y1.cust, .int .u64 y1.con, .int .i64 y1.day, .int .i64 y1.due, .int .i64 y1.frm, .int .i64 y1.next, .int .i64 y1.amt, .int .i64 y1.cred, .int .i64 y1.paid, .int .i64 y1.lost] rfl rfl ?t ?i ?o ?_)
              case t => exact J1.out.bn.there
              case i => kernel_rfl
              case o => simp [Value.oneCell']
              generalize u1.setCells wr.heap.size 0 #[.int .u64 y1.id, .int .u64 y1.cust, .int .u64 y1.con, .int .i64 y1.day, .int .i64 y1.due, .int .i64 y1.frm, .int .i64 y1.next, .int .i64 y1.amt, .int .i64 y1.cred, .int .i64 y1.paid, .int .i64 y1.lost].toList = u2 at HL ⊢
              go_wp2_with fail
              go_meet
              exact ⟨y1, o1, z1, HST.out, rfl, rfl, HL.out⟩
          case rest =>
            obtain ⟨y', o, z, hst, rfl, rfl, hJ⟩ := hcut
            have HST := Lib.hid hst
            have J9 := Lib.hid hJ
            have hlw9 := hJ.bx.lt
            clear a0 af0 a1 af1 a2 af2 a3 af3 a4 af4 a5 af5 a6 af6 a7 af7 a8 af8 a9 af9 a10 af10 alt
            clear J0 qa qb habc hlw hBW hst hJ
            apply hK2
            by_cases hz : z = 0
            · as_aux_lemma =>
              subst hz
              obtain ⟨i', cu', co', d', du', fr', nx', am', cr', pd', ls'⟩ := y'
              have hsame := HST.out.same rfl
              simp only at hsame
              obtain ⟨rfl, rfl, rfl, rfl, rfl, rfl, rfl, rfl⟩ := hsame
              have hsum := HST.out.sum rfl
              have hk' := HST.out.ok rfl
              have hf' := HST.out.fits rfl
              have hov := HST.out.over rfl
              simp only at hsum
              have e1 := hk'.cred
              have e2 := hk'.paid
              have e3 := hk'.lost
              have e4 := hk'.left0
              have e5 := HYK.out.amt
              simp only at e1 e2 e3
              have KO := Lib.hid (fun w => open_ok (Iv.mk y.id y.cust y.con y.day y.due y.frm y.next y.amt cr' pd' ls') w hf' hk')
              have KC := Lib.hid (fun w => check_yes (Iv.mk y.id y.cust y.con y.day y.due y.frm y.next y.amt cr' pd' ls') w hf' ((okB_iff _).2 hk'))
              generalize hlf : Iv.left (Iv.mk y.id y.cust y.con y.day y.due y.frm y.next y.amt cr' pd' ls') = lf at *
              have KS := Lib.hid (fun w => (show Calls Tryd.prog 24 #[.slice (some ⟨w.heap.size, 0, none⟩) 4 4] (w.alloc (.cells #[.int .i64 lf, .int .i64 cr', .int .i64 pd', .int .i64 ls'] 2)) fun e w' => e = .returned (.tuple #[.int .i64 y.amt, .bool true]) ∧ Below w.heap.size w w' from
                (sum4 lf cr' pd' ls' w ⟨by omega, by omega⟩ ⟨by omega, by omega⟩ ⟨by omega, by omega⟩ ⟨by omega, by omega⟩).mono fun e w' ⟨p, q⟩ => ⟨by rw [p, hsum, (ok_in (by omega) (by omega)).1, (ok_in (by omega) (by omega)).2], then_below ((Below.refl _ w).alloc (Nat.le_refl _) _) q⟩))
              have HL2 := Lib.hid hlf
              have HOK := Lib.hid (And.intro hk' hf')
              have HSU := Lib.hid hsum
              clear hlf hk' hf' hsum
              obtain ⟨c0, c1, c2, c3, c4, c5, c6, c7, c8, c9, c10, cf0, cf1, cf2, cf3, cf4, cf5, cf6, cf7, cf8, cf9, cf10, clt⟩ := J9.out.bn
              simp only at c0 c1 c2 c3 c4 c5 c6 c7 c8 c9 c10
              go_wp2_with fail
              go_region_held3 (fun u => u.cell? ⟨wr.heap.size, 0, none⟩ = some (.int .u64 y.id) ∧ u.cell? ⟨wr.heap.size, 1, none⟩ = some (.int .u64 y.cust) ∧ u.cell? ⟨wr.heap.size, 2, none⟩ = some (.int .u64 y.con) ∧ u.cell? ⟨wr.heap.size, 3, none⟩ = some (.int .i64 y.day) ∧ u.cell? ⟨wr.heap.size, 4, none⟩ = some (.int .i64 y.due) ∧ u.cell? ⟨wr.heap.size, 5, none⟩ = some (.int .i64 y.frm) ∧ u.cell? ⟨wr.heap.size, 6, none⟩ = some (.int .i64 y.next) ∧ u.cell? ⟨wr.heap.size, 7, none⟩ = some (.int .i64 y.amt) ∧ u.cell? ⟨wr.heap.size, 8, none⟩ = some (.int .i64 cr') ∧ u.cell? ⟨wr.heap.size, 9, none⟩ = some (.int .i64 pd') ∧ u.cell? ⟨wr.heap.size, 10, none⟩ = some (.int .i64 ls') ∧ TW w w.heap.size y wr.heap.size (Iv.mk y.id y.cust y.con y.day y.due y.frm y.next y.amt cr' pd' ls') u)
                (first | exact TW.pack J9.out | exact TW.pack J9.out.drew | exact TW.pack Ja | exact TW.pack (TW.alloc (by assumption) _))
                (first | (go_at_call 16; (try go_split_ands); refine (KO.out _).mono ?_; rintro e u1 ⟨rfl, b1⟩; have Ja := TW.later (by assumption) b1) | (go_at_call 24; (try go_split_ands); refine (KS.out _).mono ?_; rintro e u1 ⟨rfl, b1⟩; have Ja := TW.later (by assumption) b1))
              go_split_ands
              clear c0 cf0 c1 cf1 c2 cf2 c3 cf3 c4 cf4 c5 cf5 c6 cf6 c7 cf7 c8 cf8 c9 cf9 c10 cf10 clt
              have Jb := Lib.hid Ja
              clear Ja
              obtain ⟨c0, c1, c2, c3, c4, c5, c6, c7, c8, c9, c10, cf0, cf1, cf2, cf3, cf4, cf5, cf6, cf7, cf8, cf9, cf10, clt⟩ := Jb.out.bn
              simp only at c0 c1 c2 c3 c4 c5 c6 c7 c8 c9 c10
              obtain ⟨a0, a1, a2, a3, a4, a5, a6, a7, a8, a9, a10, af0, af1, af2, af3, af4, af5, af6, af7, af8, af9, af10, alt⟩ := Jb.out.bx
              have hov' : ¬ o < 0 := by omega
              go_wp2_with fail
              refine (KC.out _).mono ?_
              rintro e u2 ⟨rfl, b2⟩
              have Jc := Lib.hid (Jb.out.later b2)
              clear b2 Jb
              clear a0 af0 a1 af1 a2 af2 a3 af3 a4 af4 a5 af5 a6 af6 a7 af7 a8 af8 a9 af9 a10 af10 alt c0 cf0 c1 cf1 c2 cf2 c3 cf3 c4 cf4 c5 cf5 c6 cf6 c7 cf7 c8 cf8 c9 cf9 c10 cf10 clt
              obtain ⟨c0, c1, c2, c3, c4, c5, c6, c7, c8, c9, c10, cf0, cf1, cf2, cf3, cf4, cf5, cf6, cf7, cf8, cf9, cf10, clt⟩ := Jc.out.bn
              simp only at c0 c1 c2 c3 c4 c5 c6 c7 c8 c9 c10
              obtain ⟨a0, a1, a2, a3, a4, a5, a6, a7, a8, a9, a10, af0, af1, af2, af3, af4, af5, af6, af7, af8, af9, af10, alt⟩ := Jc.out.bx
              have qa : u2.cell? ⟨ab, ao + k * 2, none⟩ = some (.int .u8 wh) := by rw [Jc.out.b.cell habw]; exact Q0.out
              have qb : u2.cell? ⟨ab, ao + k * 2 + 1, none⟩ = some (.int .i64 n) := by rw [Jc.out.b.cell habw]; exact Q1.out
              have habc : ab < u2.heap.size := by have := Jc.out.b.size; omega
              go_wp2_with fail
              go_cut [159] from 21 to 173 (fun s159 wx => s159 = .bool false ∧ TW w w.heap.size y wr.heap.size (Iv.mk y.id y.cust y.con y.day y.due y.frm y.next y.amt cr' pd' ls') wx)
              case first =>
                as_aux_lemma =>
                by_cases h0 : c = 0
                · subst h0
                  obtain ⟨g1, g2, g3⟩ := HST.out.cred rfl rfl
                  simp only at g1 g2
                  have g4 := HYK.out.paid
                  have g5 := HYK.out.cred
                  have g6 := HYK.out.left0
                  have g7 := HYK.out.left
                  have g8 := HYK.out.lost
                  have hb1 : (y.paid - pd' != o) = false := by simp; exact g1
                  have hb2 : (cr' - y.cred != n) = false := by simp; exact g2
                  have r1 : -9223372036854775808 ≤ y.paid - pd' ∧ y.paid - pd' ≤ 9223372036854775807 := by have := HSU.out; omega
                  have r2 : -9223372036854775808 ≤ cr' - y.cred ∧ cr' - y.cred ≤ 9223372036854775807 := by have := HSU.out; omega
                  obtain ⟨r1a, r1b⟩ := r1
                  obtain ⟨r2a, r2b⟩ := r2
                  have G3 := Lib.hid g3
                  clear g1 g2 g3 g4 g5 g6 g7 g8
                  by_cases ho : 0 < o
                  · have hl0 : lf = 0 := by rw [← HL2.out]; exact G3.out ho
                    subst hl0
                    have hod : decide (0 < o) = true := by simpa using ho
                    have ht0 : Int.tmod wh 4 = 0 := by rw [Int.tmod_eq_emod_of_nonneg hw0]; exact hc
                    have ht1 : IntKind.u8.wrap (Int.tmod wh 4) = 0 := by rw [ht0]; rfl
                    have ht2 : IntKind.u8.wrap 0 = 0 := rfl
                    have ht3 : IntKind.i64.wrap (y.paid - pd') = y.paid - pd' := IntWalk.i64_in _ (by omega)
                    have ht4 : IntKind.i64.wrap (cr' - y.cred) = cr' - y.cred := IntWalk.i64_in _ (by omega)
                    go_region_held3 (fun u => u.cell? ⟨wr.heap.size, 0, none⟩ = some (.int .u64 y.id) ∧ u.cell? ⟨wr.heap.size, 1, none⟩ = some (.int .u64 y.cust) ∧ u.cell? ⟨wr.heap.size, 2, none⟩ = some (.int .u64 y.con) ∧ u.cell? ⟨wr.heap.size, 3, none⟩ = some (.int .i64 y.day) ∧ u.cell? ⟨wr.heap.size, 4, none⟩ = some (.int .i64 y.due) ∧ u.cell? ⟨wr.heap.size, 5, none⟩ = some (.int .i64 y.frm) ∧ u.cell? ⟨wr.heap.size, 6, none⟩ = some (.int .i64 y.next) ∧ u.cell? ⟨wr.heap.size, 7, none⟩ = some (.int .i64 y.amt) ∧ u.cell? ⟨wr.heap.size, 8, none⟩ = some (.int .i64 cr') ∧ u.cell? ⟨wr.heap.size, 9, none⟩ = some (.int .i64 pd') ∧ u.cell? ⟨wr.heap.size, 10, none⟩ = some (.int .i64 ls') ∧ u.cell? ⟨w.heap.size, 8, none⟩ = some (.int .i64 y.cred) ∧ u.cell? ⟨w.heap.size, 9, none⟩ = some (.int .i64 y.paid) ∧ u.cell? ⟨ab, ao + k * 2, none⟩ = some (.int .u8 wh) ∧ u.cell? ⟨ab, ao + k * 2 + 1, none⟩ = some (.int .i64 n) ∧ TW w w.heap.size y wr.heap.size (Iv.mk y.id y.cust y.con y.day y.due y.frm y.next y.amt cr' pd' ls') u)
                      (first | exact TW.pack2 habw Q0.out Q1.out Jc.out | exact TW.pack2 habw Q0.out Q1.out Jc.out.drew | exact TW.pack2 habw Q0.out Q1.out Ja)
                      (first | (go_at_call 16; (try go_split_ands); refine (KO.out _).mono ?_; rintro e u1 ⟨rfl, b1⟩; have Ja := TW.later (by assumption) b1))
                    go_split_ands
                    go_wp2_with fail
                    go_meet
                    exact ⟨rfl, by first | exact Ja | assumption⟩
                  · have hod : decide (0 < o) = false := by simpa using ho
                    go_quiet (fail)
                    go_wp2_with fail
                    go_meet
                    exact ⟨rfl, TW.drewN _ Jc.out⟩
                · have hb : (c == 0) = false := by simpa using h0
                  clear h0
                  go_quiet (fail)
                  go_wp2_with fail
                  go_meet
                  exact ⟨rfl, TW.drewN _ Jc.out⟩
              case rest =>
                obtain ⟨rfl, hJd⟩ := hcut
                have HINF : Hid ((Tryd.prog.info? 24).map (·.size) = some 11) := by show _ = _; kernel_rfl
                have Jd := Lib.hid hJd
                clear hJd qa qb habc
                clear a0 af0 a1 af1 a2 af2 a3 af3 a4 af4 a5 af5 a6 af6 a7 af7 a8 af8 a9 af9 a10 af10 c0 cf0 c1 cf1 c2 cf2 c3 cf3 c4 cf4 c5 cf5 c6 cf6 c7 cf7 c8 cf8 c9 cf9 c10 cf10 alt clt
                obtain ⟨c0, c1, c2, c3, c4, c5, c6, c7, c8, c9, c10, _, _, _, _, _, _, _, _, _, _, _, clt⟩ := Jd.out.bn
                simp only at c0 c1 c2 c3 c4 c5 c6 c7 c8 c9 c10
                have J1 : Hid (TW w w.heap.size y wr.heap.size (Iv.mk y.id y.cust y.con y.day y.due y.frm y.next y.amt cr' pd' ls') (wc.alloc (.cells #[.int .u64 y.id, .int .u64 y.cust, .int .u64 y.con, .int .i64 y.day, .int .i64 y.due, .int .i64 y.frm, .int .i64 y.next, .int .i64 y.amt, .int .i64 cr', .int .i64 pd', .int .i64 ls'] 24))) := Jd.out.alloc _
                have R1 : Hid (Cm.RowAt (wc.alloc (.cells #[.int .u64 y.id, .int .u64 y.cust, .int .u64 y.con, .int .i64 y.day, .int .i64 y.due, .int .i64 y.frm, .int .i64 y.next, .int .i64 y.amt, .int .i64 cr', .int .i64 pd', .int .i64 ls'] 24)) wc.heap.size [.int .u64 y.id, .int .u64 y.cust, .int .u64 y.con, .int .i64 y.day, .int .i64 y.due, .int .i64 y.frm, .int .i64 y.next, .int .i64 y.amt, .int .i64 cr', .int .i64 pd', .int .i64 ls']) := Cm.row_new wc [.int .u64 y.id, .int .u64 y.cust, .int .u64 y.con, .int .i64 y.day, .int .i64 y.due, .int .i64 y.frm, .int .i64 y.next, .int .i64 y.amt, .int .i64 cr', .int .i64 pd', .int .i64 ls'] 24
                obtain ⟨bs, hbs⟩ : ∃ bs, bs = wc.heap.size := ⟨_, rfl⟩
                have HB1 : Hid (bs ≠ w.heap.size) := by have := Jd.out.bx.lt; show bs ≠ _; omega
                have HB2 : Hid (bs ≠ wr.heap.size) := by have := Jd.out.bn.lt; show bs ≠ _; omega
                have HB3 : Hid (w.heap.size ≤ bs) := by have := Jd.out.b.size; show _ ≤ bs; omega
                go_upto_region 25 with (fail)
                clear c0 c1 c2 c3 c4 c5 c6 c7 c8 c9 c10 clt Jd
                generalize wc.alloc (.cells #[.int .u64 y.id, .int .u64 y.cust, .int .u64 y.con, .int .i64 y.day, .int .i64 y.due, .int .i64 y.frm, .int .i64 y.next, .int .i64 y.amt, .int .i64 cr', .int .i64 pd', .int .i64 ls'] 24) = W1 at J1 R1 ⊢
                rw [← hbs] at R1 ⊢
                clear hbs
                have e8 : W1.cell? ⟨w.heap.size, 8, none⟩ = some (.int .i64 y.cred) := J1.out.bx.c8
                have r8 : W1.cell? ⟨bs, 8, none⟩ = some (.int .i64 cr') := R1.out.cell 8 (show 8 < 11 by decide)
                have rf8 : W1.frozen? ⟨bs, 8, none⟩ = false := R1.out.free 8 (show 8 < 11 by decide)
                have J2 := Lib.hid (J1.out.other1 bs 8 (.int .i64 y.cred) HB1.out HB2.out HB3.out)
                have R2 := Lib.hid (R1.out.set 8 (.int .i64 y.cred))
                go_upto_region 26 with (fail)
                clear e8 r8 rf8 J1 R1
                generalize W1.setCell ⟨bs, 8, none⟩ (.int .i64 y.cred) = W2 at J2 R2 ⊢
                have e9 : W2.cell? ⟨w.heap.size, 9, none⟩ = some (.int .i64 y.paid) := J2.out.bx.c9
                have r9 : W2.cell? ⟨bs, 9, none⟩ = some (.int .i64 pd') := R2.out.cell 9 (show 9 < 11 by decide)
                have rf9 : W2.frozen? ⟨bs, 9, none⟩ = false := R2.out.free 9 (show 9 < 11 by decide)
                have J3 := Lib.hid (J2.out.other1 bs 9 (.int .i64 y.paid) HB1.out HB2.out HB3.out)
                have R3 := Lib.hid (R2.out.set 9 (.int .i64 y.paid))
                go_upto_region 27 with (fail)
                clear e9 r9 rf9 J2 R2
                generalize W2.setCell ⟨bs, 9, none⟩ (.int .i64 y.paid) = W3 at J3 R3 ⊢
                have e10 : W3.cell? ⟨w.heap.size, 10, none⟩ = some (.int .i64 y.lost) := J3.out.bx.c10
                have r10 : W3.cell? ⟨bs, 10, none⟩ = some (.int .i64 ls') := R3.out.cell 10 (show 10 < 11 by decide)
                have rf10 : W3.frozen? ⟨bs, 10, none⟩ = false := R3.out.free 10 (show 10 < 11 by decide)
                have J4 := Lib.hid (J3.out.other1 bs 10 (.int .i64 y.lost) HB1.out HB2.out HB3.out)
                have R4 := Lib.hid (R3.out.set 10 (.int .i64 y.lost))
                go_upto_region 28 with (fail)
                clear e10 r10 rf10 J3 R3
                generalize W3.setCell ⟨bs, 10, none⟩ (.int .i64 y.lost) = W4 at J4 R4 ⊢
                have R5 : Hid (Bx bs y W4) := bx_row R4.out
                obtain ⟨q0, q1, q2, q3, q4, q5, q6, q7, q8, q9, q10, _, _, _, _, _, _, _, _, _, _, _, qlt⟩ := R5.out
                obtain ⟨a0, a1, a2, a3, a4, a5, a6, a7, a8, a9, a10, _, _, _, _, _, _, _, _, _, _, _, alt⟩ := J4.out.bx
                go_upto_region 30 with (fail)
                clear q0 q1 q2 q3 q4 q5 q6 q7 q8 q9 q10 qlt a0 a1 a2 a3 a4 a5 a6 a7 a8 a9 a10 alt R4 R5
                obtain ⟨c0, c1, c2, c3, c4, c5, c6, c7, c8, c9, c10, _, _, _, _, _, _, _, _, _, _, _, clt⟩ := J4.out.bn
                simp only at c0 c1 c2 c3 c4 c5 c6 c7 c8 c9 c10
                have HL : Hid (Bx w.heap.size (Iv.mk y.id y.cust y.con y.day y.due y.frm y.next y.amt cr' pd' ls') (W4.setCells w.heap.size 0 #[.int .u64 y.id, .int .u64 y.cust, .int .u64 y.con, .int .i64 y.day, .int .i64 y.due, .int .i64 y.frm, .int .i64 y.next, .int .i64 y.amt, .int .i64 cr', .int .i64 pd', .int .i64 ls'].toList) ∧ Below w.heap.size w (W4.setCells w.heap.size 0 #[.int .u64 y.id, .int .u64 y.cust, .int .u64 y.con, .int .i64 y.day, .int .i64 y.due, .int .i64 y.frm, .int .i64 y.next, .int .i64 y.amt, .int .i64 cr', .int .i64 pd', .int .i64 ls'].toList)) := ⟨J4.out.bx.put (Iv.mk y.id y.cust y.con y.day y.due y.frm y.next y.amt cr' pd' ls'), Bx.put_below (Iv.mk y.id y.cust y.con y.day y.due y.frm y.next y.amt cr' pd' ls') J4.out.b (Nat.le_refl _)⟩
                go_wp2_with (with_reducible refine wpList_store_mid rfl 24 _ _ rfl w.heap.size 0 #[.int .u64 y.id, .int .u64 y.cust, .int .u64 y.con, .int .i64 y.day, .int .i64 y.due, .int .i64 y.frm, .int .i64 y.next, .int .i64 y.amt, .int .i64 cr', .int .i64 pd', .int .i64 ls'] rfl rfl ?thr ?inf ?one ?_)
                case thr => exact J4.out.bx.there
                case one => simp [Value.oneCell']
                case inf => simpa using HINF.out
                generalize W4.setCells w.heap.size 0 #[.int .u64 y.id, .int .u64 y.cust, .int .u64 y.con, .int .i64 y.day, .int .i64 y.due, .int .i64 y.frm, .int .i64 y.next, .int .i64 y.amt, .int .i64 cr', .int .i64 pd', .int .i64 ls'].toList = W5 at HL ⊢
                clear c0 c1 c2 c3 c4 c5 c6 c7 c8 c9 c10 clt J4
                go_wp2_with fail
                exact ⟨⟨k + 1, (Iv.mk y.id y.cust y.con y.day y.due y.frm y.next y.amt cr' pd' ls'), by omega, by go_num, HL.out.1, HOK.out.2, HOK.out.1, HL.out.2⟩, by simp [intOf]; omega⟩
            · obtain ⟨rfl, rfl⟩ := HST.out.no hz
              have hzb : (z != 0) = true := by simpa using hz
              clear hz
              obtain ⟨c0, c1, c2, c3, c4, c5, c6, c7, c8, c9, c10, cf0, cf1, cf2, cf3, cf4, cf5, cf6, cf7, cf8, cf9, cf10, clt⟩ := J9.out.bn
              simp only [Iv.zero] at c0 c1 c2 c3 c4 c5 c6 c7 c8 c9 c10
              go_wp2_with fail
              exact ⟨⟨k + 1, y, by omega, by go_num, J9.out.bx, HYF.out, HYK.out, J9.out.b⟩, by simp [intOf]; omega⟩
        · have hkd : decide ((k : Int) < 60) = false := by simp; omega
          go_wp2_with fail
          refine (KH.out _ (HT.out.later HB.out)).mono ?_
          rintro e w3 ⟨rfl, b3⟩
          have D3 := Lib.hid (then_below HB.out b3)
          clear b3
          go_wp2_with fail
          go_ret
          exact ⟨rfl, D3.out⟩
      · have hkd : decide ((k : Int) < (A.length : Int)) = false := by simp; omega
        go_wp2_with fail
        refine (KH.out _ (HT.out.later HB.out)).mono ?_
        rintro e w3 ⟨rfl, b3⟩
        have D3 := Lib.hid (then_below HB.out b3)
        clear b3
        go_wp2_with fail
        go_ret
        exact ⟨rfl, D3.out⟩
end Go.Proofs.YtaidijbjpogpeaaDoor.Inv
