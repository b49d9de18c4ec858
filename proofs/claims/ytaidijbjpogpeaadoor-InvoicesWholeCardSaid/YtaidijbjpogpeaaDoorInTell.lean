/- Package invoices: InvoicesTell. (gen_intell.py writes this.) -/
import Derived.Test.YtaidijbjpogpeaaDoorInHd
import Derived.Deep.RegionHeld3
namespace Go.Proofs.YtaidijbjpogpeaaDoor.Inv
open Go.RowKit Cm
theorem put_cell (u : World) (g h j : Nat) (y : Iv) (hn : g ≠ h) : (putIv u g y).cell? ⟨h, j, none⟩ = u.cell? ⟨h, j, none⟩ := by
  unfold putIv
  simp [World.cell?_setCell_far, hn]
theorem put_frozen (u : World) (g h j : Nat) (y : Iv) : (putIv u g y).frozen? ⟨h, j, none⟩ = u.frozen? ⟨h, j, none⟩ := by
  unfold putIv
  simp
theorem put_size (u : World) (g : Nat) (y : Iv) : (putIv u g y).heap.size = u.heap.size := by unfold putIv; simp
theorem Bx.other {u : World} {g h : Nat} {x y : Iv} (b : Bx h x u) (hn : g ≠ h) : Bx h x (putIv u g y) :=
  ⟨by rw [put_cell _ _ _ _ _ hn]; exact b.c0, by rw [put_cell _ _ _ _ _ hn]; exact b.c1, by rw [put_cell _ _ _ _ _ hn]; exact b.c2, by rw [put_cell _ _ _ _ _ hn]; exact b.c3, by rw [put_cell _ _ _ _ _ hn]; exact b.c4, by rw [put_cell _ _ _ _ _ hn]; exact b.c5, by rw [put_cell _ _ _ _ _ hn]; exact b.c6, by rw [put_cell _ _ _ _ _ hn]; exact b.c7, by rw [put_cell _ _ _ _ _ hn]; exact b.c8, by rw [put_cell _ _ _ _ _ hn]; exact b.c9, by rw [put_cell _ _ _ _ _ hn]; exact b.c10, by rw [put_frozen]; exact b.f0, by rw [put_frozen]; exact b.f1, by rw [put_frozen]; exact b.f2, by rw [put_frozen]; exact b.f3, by rw [put_frozen]; exact b.f4, by rw [put_frozen]; exact b.f5, by rw [put_frozen]; exact b.f6, by rw [put_frozen]; exact b.f7, by rw [put_frozen]; exact b.f8, by rw [put_frozen]; exact b.f9, by rw [put_frozen]; exact b.f10, by rw [put_size]; exact b.lt⟩
theorem Bx.alloc {u : World} {g : Nat} {x : Iv} (b : Bx g x u) (o : Obj) : Bx g x (u.alloc o) := b.later ((Below.refl _ u).alloc (Nat.le_refl _) o)
theorem Bx.drew {u : World} {g : Nat} {x : Iv} (b : Bx g x u) : Bx g x u.drew := ⟨b.c0, b.c1, b.c2, b.c3, b.c4, b.c5, b.c6, b.c7, b.c8, b.c9, b.c10, b.f0, b.f1, b.f2, b.f3, b.f4, b.f5, b.f6, b.f7, b.f8, b.f9, b.f10, b.lt⟩
/-- The three boxes of the law. -/
structure TB (w : World) (g : Nat) (x : Iv) (ga : Nat) (ya : Iv) (gb : Nat) (yb : Iv) (u : World) : Prop where
  bx : Bx g x u
  ba : Bx ga ya u
  bb : Bx gb yb u
  b : Below w.heap.size w u
  t : Tab u
  la : w.heap.size ≤ ga
  lb : w.heap.size ≤ gb
  n1 : ga ≠ g
  n2 : gb ≠ g
  n3 : ga ≠ gb
theorem Tab.put {u : World} {g : Nat} (y : Iv) (h : Tab u) (hg : g ≠ 0) : Tab (putIv u g y) := by
  obtain ⟨h0, h1, h2, h3, h4⟩ := h
  exact ⟨by rw [put_cell _ _ _ _ _ hg]; exact h0, by rw [put_cell _ _ _ _ _ hg]; exact h1, by rw [put_cell _ _ _ _ _ hg]; exact h2, by rw [put_cell _ _ _ _ _ hg]; exact h3, by rw [put_size]; exact h4⟩
theorem TB.later {w u u' : World} {g ga gb : Nat} {x ya yb : Iv} (h : TB w g x ga ya gb yb u) (hb : Below u.heap.size u u') : TB w g x ga ya gb yb u' :=
  ⟨h.bx.later hb, h.ba.later hb, h.bb.later hb, h.b.trans (hb.mono h.b.size), h.t.later hb, h.la, h.lb, h.n1, h.n2, h.n3⟩
theorem TB.drew {w u : World} {g ga gb : Nat} {x ya yb : Iv} (h : TB w g x ga ya gb yb u) : TB w g x ga ya gb yb u.drew :=
  ⟨h.bx.drew, h.ba.drew, h.bb.drew, h.b.drew, h.t, h.la, h.lb, h.n1, h.n2, h.n3⟩
theorem TB.puta {w u : World} {g ga gb : Nat} {x ya yb : Iv} (h : TB w g x ga ya gb yb u) (hw : 0 < w.heap.size) (y : Iv) : TB w g x ga y gb yb (putIv u ga y) :=
  ⟨h.bx.other h.n1, h.ba.put y, h.bb.other h.n3, Bx.put_below y h.b h.la, h.t.put y (by have := h.la; omega), h.la, h.lb, h.n1, h.n2, h.n3⟩
theorem TB.putb {w u : World} {g ga gb : Nat} {x ya yb : Iv} (h : TB w g x ga ya gb yb u) (hw : 0 < w.heap.size) (y : Iv) : TB w g x ga ya gb y (putIv u gb y) :=
  ⟨h.bx.other h.n2, h.ba.other h.n3.symm, h.bb.put y, Bx.put_below y h.b h.lb, h.t.put y (by have := h.lb; omega), h.la, h.lb, h.n1, h.n2, h.n3⟩
def chk (x : Iv) : Int := if x.okB then 0 else 2
theorem check_c (x : Iv) (w : World) (hx : x.Fits) : Calls Tryd.prog 17 #[x.val] w fun e w' => e = .returned (.int .i64 (chk x)) ∧ Below w.heap.size w w' := by
  unfold chk
  cases h : x.okB with
  | true => exact check_yes x w hx h
  | false => exact check_no x w hx h
theorem rcheck_c (x : Iv) (w : World) (hx : x.Fits) : Calls Tryd.prog 18 #[x.val] w fun e w' => e = .returned (.int .i64 (chk x)) ∧ Below w.heap.size w w' := by
  unfold chk
  cases h : x.okB with
  | true => exact rcheck_yes x w ((okB_iff x).1 h)
  | false => exact rcheck_no x w hx h
theorem TB.pack {w u : World} {g ga gb : Nat} {x ya yb : Iv} (h : TB w g x ga ya gb yb u) :
    u.cell? ⟨g, 0, none⟩ = some (.int .u64 x.id) ∧ u.cell? ⟨g, 1, none⟩ = some (.int .u64 x.cust) ∧ u.cell? ⟨g, 2, none⟩ = some (.int .u64 x.con) ∧ u.cell? ⟨g, 3, none⟩ = some (.int .i64 x.day) ∧ u.cell? ⟨g, 4, none⟩ = some (.int .i64 x.due) ∧ u.cell? ⟨g, 5, none⟩ = some (.int .i64 x.frm) ∧ u.cell? ⟨g, 6, none⟩ = some (.int .i64 x.next) ∧ u.cell? ⟨g, 7, none⟩ = some (.int .i64 x.amt) ∧ u.cell? ⟨g, 8, none⟩ = some (.int .i64 x.cred) ∧ u.cell? ⟨g, 9, none⟩ = some (.int .i64 x.paid) ∧ u.cell? ⟨g, 10, none⟩ = some (.int .i64 x.lost) ∧ u.cell? ⟨ga, 0, none⟩ = some (.int .u64 ya.id) ∧ u.cell? ⟨ga, 1, none⟩ = some (.int .u64 ya.cust) ∧ u.cell? ⟨ga, 2, none⟩ = some (.int .u64 ya.con) ∧ u.cell? ⟨ga, 3, none⟩ = some (.int .i64 ya.day) ∧ u.cell? ⟨ga, 4, none⟩ = some (.int .i64 ya.due) ∧ u.cell? ⟨ga, 5, none⟩ = some (.int .i64 ya.frm) ∧ u.cell? ⟨ga, 6, none⟩ = some (.int .i64 ya.next) ∧ u.cell? ⟨ga, 7, none⟩ = some (.int .i64 ya.amt) ∧ u.cell? ⟨ga, 8, none⟩ = some (.int .i64 ya.cred) ∧ u.cell? ⟨ga, 9, none⟩ = some (.int .i64 ya.paid) ∧ u.cell? ⟨ga, 10, none⟩ = some (.int .i64 ya.lost) ∧ u.cell? ⟨gb, 0, none⟩ = some (.int .u64 yb.id) ∧ u.cell? ⟨gb, 1, none⟩ = some (.int .u64 yb.cust) ∧ u.cell? ⟨gb, 2, none⟩ = some (.int .u64 yb.con) ∧ u.cell? ⟨gb, 3, none⟩ = some (.int .i64 yb.day) ∧ u.cell? ⟨gb, 4, none⟩ = some (.int .i64 yb.due) ∧ u.cell? ⟨gb, 5, none⟩ = some (.int .i64 yb.frm) ∧ u.cell? ⟨gb, 6, none⟩ = some (.int .i64 yb.next) ∧ u.cell? ⟨gb, 7, none⟩ = some (.int .i64 yb.amt) ∧ u.cell? ⟨gb, 8, none⟩ = some (.int .i64 yb.cred) ∧ u.cell? ⟨gb, 9, none⟩ = some (.int .i64 yb.paid) ∧ u.cell? ⟨gb, 10, none⟩ = some (.int .i64 yb.lost) ∧ TB w g x ga ya gb yb u :=
  ⟨h.bx.c0, h.bx.c1, h.bx.c2, h.bx.c3, h.bx.c4, h.bx.c5, h.bx.c6, h.bx.c7, h.bx.c8, h.bx.c9, h.bx.c10, h.ba.c0, h.ba.c1, h.ba.c2, h.ba.c3, h.ba.c4, h.ba.c5, h.ba.c6, h.ba.c7, h.ba.c8, h.ba.c9, h.ba.c10, h.bb.c0, h.bb.c1, h.bb.c2, h.bb.c3, h.bb.c4, h.bb.c5, h.bb.c6, h.bb.c7, h.bb.c8, h.bb.c9, h.bb.c10, h⟩
set_option maxRecDepth 100000 in
set_option maxHeartbeats 6400000 in
theorem tell_c (x : Iv) (n : Int) (w : World) (hx : x.Fits) (ht : Tab w) :
    Calls Tryd.prog 3 #[x.val, .int .i64 n] w fun e w' => e = .returned (.bool true) ∧ Below w.heap.size w w' := by
  obtain ⟨⟨y1, o1, z1⟩, h1⟩ : ∃ r, x.creditR n = r := ⟨_, rfl⟩
  obtain ⟨⟨y2, z2⟩, h2⟩ : ∃ r, x.payR n = r := ⟨_, rfl⟩
  obtain ⟨⟨y3, z3⟩, h3⟩ : ∃ r, x.unpayR n = r := ⟨_, rfl⟩
  obtain ⟨⟨y4, o4, z4⟩, h4⟩ : ∃ r, x.loseR = r := ⟨_, rfl⟩
  have K1 := Lib.hid (fun w => (show Calls Tryd.prog 7 #[(.agg #[.int .u64 x.id, .int .u64 x.cust, .int .u64 x.con, .int .i64 x.day, .int .i64 x.due, .int .i64 x.frm, .int .i64 x.next, .int .i64 x.amt, .int .i64 x.cred, .int .i64 x.paid, .int .i64 x.lost]), .int .i64 n] w fun e w' => e = .returned (.tuple #[(.agg #[.int .u64 y1.id, .int .u64 y1.cust, .int .u64 y1.con, .int .i64 y1.day, .int .i64 y1.due, .int .i64 y1.frm, .int .i64 y1.next, .int .i64 y1.amt, .int .i64 y1.cred, .int .i64 y1.paid, .int .i64 y1.lost]), .int .i64 o1, .int .i64 z1]) ∧ Below w.heap.size w w' from by have h := Credit_c x n w hx; rw [h1] at h; exact h))
  have K2 := Lib.hid (fun w => (show Calls Tryd.prog 9 #[(.agg #[.int .u64 x.id, .int .u64 x.cust, .int .u64 x.con, .int .i64 x.day, .int .i64 x.due, .int .i64 x.frm, .int .i64 x.next, .int .i64 x.amt, .int .i64 x.cred, .int .i64 x.paid, .int .i64 x.lost]), .int .i64 n] w fun e w' => e = .returned (.tuple #[(.agg #[.int .u64 y2.id, .int .u64 y2.cust, .int .u64 y2.con, .int .i64 y2.day, .int .i64 y2.due, .int .i64 y2.frm, .int .i64 y2.next, .int .i64 y2.amt, .int .i64 y2.cred, .int .i64 y2.paid, .int .i64 y2.lost]), .int .i64 z2]) ∧ Below w.heap.size w w' from by have h := Pay_c x n w hx; rw [h2] at h; exact h))
  have K3 := Lib.hid (fun w => (show Calls Tryd.prog 11 #[(.agg #[.int .u64 x.id, .int .u64 x.cust, .int .u64 x.con, .int .i64 x.day, .int .i64 x.due, .int .i64 x.frm, .int .i64 x.next, .int .i64 x.amt, .int .i64 x.cred, .int .i64 x.paid, .int .i64 x.lost]), .int .i64 n] w fun e w' => e = .returned (.tuple #[(.agg #[.int .u64 y3.id, .int .u64 y3.cust, .int .u64 y3.con, .int .i64 y3.day, .int .i64 y3.due, .int .i64 y3.frm, .int .i64 y3.next, .int .i64 y3.amt, .int .i64 y3.cred, .int .i64 y3.paid, .int .i64 y3.lost]), .int .i64 z3]) ∧ Below w.heap.size w w' from by have h := Unpay_c x n w hx; rw [h3] at h; exact h))
  have K4 := Lib.hid (fun w => (show Calls Tryd.prog 13 #[(.agg #[.int .u64 x.id, .int .u64 x.cust, .int .u64 x.con, .int .i64 x.day, .int .i64 x.due, .int .i64 x.frm, .int .i64 x.next, .int .i64 x.amt, .int .i64 x.cred, .int .i64 x.paid, .int .i64 x.lost])] w fun e w' => e = .returned (.tuple #[(.agg #[.int .u64 y4.id, .int .u64 y4.cust, .int .u64 y4.con, .int .i64 y4.day, .int .i64 y4.due, .int .i64 y4.frm, .int .i64 y4.next, .int .i64 y4.amt, .int .i64 y4.cred, .int .i64 y4.paid, .int .i64 y4.lost]), .int .i64 o4, .int .i64 z4]) ∧ Below w.heap.size w w' from by have h := Lose_c x w hx; rw [h4] at h; exact h))
  have KC := Lib.hid (fun w => (show Calls Tryd.prog 17 #[(.agg #[.int .u64 x.id, .int .u64 x.cust, .int .u64 x.con, .int .i64 x.day, .int .i64 x.due, .int .i64 x.frm, .int .i64 x.next, .int .i64 x.amt, .int .i64 x.cred, .int .i64 x.paid, .int .i64 x.lost])] w fun e w' => e = .returned (.int .i64 (chk x)) ∧ Below w.heap.size w w' from by have h := check_c x w hx; exact h))
  have K1r := Lib.hid (fun w => (show Calls Tryd.prog 8 #[(.agg #[.int .u64 x.id, .int .u64 x.cust, .int .u64 x.con, .int .i64 x.day, .int .i64 x.due, .int .i64 x.frm, .int .i64 x.next, .int .i64 x.amt, .int .i64 x.cred, .int .i64 x.paid, .int .i64 x.lost]), .int .i64 n] w fun e w' => e = .returned (.tuple #[(.agg #[.int .u64 y1.id, .int .u64 y1.cust, .int .u64 y1.con, .int .i64 y1.day, .int .i64 y1.due, .int .i64 y1.frm, .int .i64 y1.next, .int .i64 y1.amt, .int .i64 y1.cred, .int .i64 y1.paid, .int .i64 y1.lost]), .int .i64 o1, .int .i64 z1]) ∧ Below w.heap.size w w' from by have h := rCredit_c x n w hx; rw [h1] at h; exact h))
  have K2r := Lib.hid (fun w => (show Calls Tryd.prog 10 #[(.agg #[.int .u64 x.id, .int .u64 x.cust, .int .u64 x.con, .int .i64 x.day, .int .i64 x.due, .int .i64 x.frm, .int .i64 x.next, .int .i64 x.amt, .int .i64 x.cred, .int .i64 x.paid, .int .i64 x.lost]), .int .i64 n] w fun e w' => e = .returned (.tuple #[(.agg #[.int .u64 y2.id, .int .u64 y2.cust, .int .u64 y2.con, .int .i64 y2.day, .int .i64 y2.due, .int .i64 y2.frm, .int .i64 y2.next, .int .i64 y2.amt, .int .i64 y2.cred, .int .i64 y2.paid, .int .i64 y2.lost]), .int .i64 z2]) ∧ Below w.heap.size w w' from by have h := rPay_c x n w hx; rw [h2] at h; exact h))
  have K3r := Lib.hid (fun w => (show Calls Tryd.prog 12 #[(.agg #[.int .u64 x.id, .int .u64 x.cust, .int .u64 x.con, .int .i64 x.day, .int .i64 x.due, .int .i64 x.frm, .int .i64 x.next, .int .i64 x.amt, .int .i64 x.cred, .int .i64 x.paid, .int .i64 x.lost]), .int .i64 n] w fun e w' => e = .returned (.tuple #[(.agg #[.int .u64 y3.id, .int .u64 y3.cust, .int .u64 y3.con, .int .i64 y3.day, .int .i64 y3.due, .int .i64 y3.frm, .int .i64 y3.next, .int .i64 y3.amt, .int .i64 y3.cred, .int .i64 y3.paid, .int .i64 y3.lost]), .int .i64 z3]) ∧ Below w.heap.size w w' from by have h := rUnpay_c x n w hx; rw [h3] at h; exact h))
  have K4r := Lib.hid (fun w => (show Calls Tryd.prog 14 #[(.agg #[.int .u64 x.id, .int .u64 x.cust, .int .u64 x.con, .int .i64 x.day, .int .i64 x.due, .int .i64 x.frm, .int .i64 x.next, .int .i64 x.amt, .int .i64 x.cred, .int .i64 x.paid, .int .i64 x.lost])] w fun e w' => e = .returned (.tuple #[(.agg #[.int .u64 y4.id, .int .u64 y4.cust, .int .u64 y4.con, .int .i64 y4.day, .int .i64 y4.due, .int .i64 y4.frm, .int .i64 y4.next, .int .i64 y4.amt, .int .i64 y4.cred, .int .i64 y4.paid, .int .i64 y4.lost]), .int .i64 o4, .int .i64 z4]) ∧ Below w.heap.size w w' from by have h := rLose_c x w hx; rw [h4] at h; exact h))
  have KCr := Lib.hid (fun w => (show Calls Tryd.prog 18 #[(.agg #[.int .u64 x.id, .int .u64 x.cust, .int .u64 x.con, .int .i64 x.day, .int .i64 x.due, .int .i64 x.frm, .int .i64 x.next, .int .i64 x.amt, .int .i64 x.cred, .int .i64 x.paid, .int .i64 x.lost])] w fun e w' => e = .returned (.int .i64 (chk x)) ∧ Below w.heap.size w w' from by have h := rcheck_c x w hx; exact h))
  have KO := Lib.hid (fun w => (show Calls Tryd.prog 16 #[(.agg #[.int .u64 x.id, .int .u64 x.cust, .int .u64 x.con, .int .i64 x.day, .int .i64 x.due, .int .i64 x.frm, .int .i64 x.next, .int .i64 x.amt, .int .i64 x.cred, .int .i64 x.paid, .int .i64 x.lost])] w fun e w' => e = .returned (.int .i64 x.opn) ∧ Below w.heap.size w w' from by have h := open_c x w hx; exact h))
  have KOr := Lib.hid (fun w => (show Calls Tryd.prog 15 #[(.agg #[.int .u64 x.id, .int .u64 x.cust, .int .u64 x.con, .int .i64 x.day, .int .i64 x.due, .int .i64 x.frm, .int .i64 x.next, .int .i64 x.amt, .int .i64 x.cred, .int .i64 x.paid, .int .i64 x.lost])] w fun e w' => e = .returned (.tuple #[.int .i64 x.opn, .bool x.okB]) ∧ Below w.heap.size w w' from by have h := ropen_c x w hx; exact h))
  have KH := Lib.hid head_c
  have HT := Lib.hid ht
  have B0 := Lib.hid (Bx.box x w)
  have D0 := Lib.hid ((Below.refl _ w).alloc (Nat.le_refl _) (.cells x.cells 24))
  generalize chk x = ck at *
  generalize x.opn = op at *
  generalize x.okB = ob at *
  clear hx ht h1 h2 h3 h4
  obtain ⟨a0, a1, a2, a3, a4, a5, a6, a7, a8, a9, a10, af0, af1, af2, af3, af4, af5, af6, af7, af8, af9, af10, alt⟩ := B0.out
  go_enter Tryd.func3, Tryd.ntmps3
  unfold Iv.val
  go_wp2_with fail
  refine (K1.out _).mono ?_
  rintro e w1 ⟨rfl, b1⟩
  have C1 := Lib.hid (B0.out.later b1)
  have D1 := Lib.hid (then_below D0.out b1)
  clear a0 af0 a1 af1 a2 af2 a3 af3 a4 af4 a5 af5 a6 af6 a7 af7 a8 af8 a9 af9 a10 af10 alt
  have A1 := Lib.hid (Bx.box y1 w1)
  have C2 := Lib.hid (C1.out.alloc (.cells y1.cells 24))
  have D2 := Lib.hid (below_alloc D1.out (.cells y1.cells 24))
  clear b1
  obtain ⟨a0, a1, a2, a3, a4, a5, a6, a7, a8, a9, a10, af0, af1, af2, af3, af4, af5, af6, af7, af8, af9, af10, alt⟩ := C1.out
  go_wp2_with fail
  refine (K1r.out _).mono ?_
  rintro e w2 ⟨rfl, b2⟩
  clear a0 af0 a1 af1 a2 af2 a3 af3 a4 af4 a5 af5 a6 af6 a7 af7 a8 af8 a9 af9 a10 af10 alt
  have A2 := Lib.hid (A1.out.later b2)
  have C3 := Lib.hid (C2.out.later b2)
  have D3 := Lib.hid (then_below D2.out b2)
  have s1 := Lib.hid (show w.heap.size < w1.heap.size from C1.out.lt)
  have s2 := Lib.hid (show w1.heap.size < w2.heap.size from by have := b2.size; simp at this; omega)
  clear b2
  have J0 := Lib.hid (show TB w w.heap.size x w1.heap.size y1 w2.heap.size y1 (w2.alloc (.cells y1.cells 24)) from
    ⟨C3.out.alloc _, A2.out.alloc _, Bx.box y1 w2, below_alloc D3.out _, HT.out.later (below_alloc D3.out _), by have := s1.out; omega, by have := s1.out; have := s2.out; omega, by have := s1.out; omega, by have := s1.out; have := s2.out; omega, by have := s2.out; omega⟩)
  have hw0 := Lib.hid HT.out.2.2.2.2
  have m1 : ¬ w1.heap.size = w.heap.size := J0.out.n1
  have m2 : ¬ w2.heap.size = w.heap.size := J0.out.n2
  have m3 : ¬ w1.heap.size = w2.heap.size := J0.out.n3
  have m1' : ¬ w.heap.size = w1.heap.size := fun h => J0.out.n1 h.symm
  have m2' : ¬ w.heap.size = w2.heap.size := fun h => J0.out.n2 h.symm
  have m3' : ¬ w2.heap.size = w1.heap.size := fun h => J0.out.n3 h.symm
  obtain ⟨a0, a1, a2, a3, a4, a5, a6, a7, a8, a9, a10, af0, af1, af2, af3, af4, af5, af6, af7, af8, af9, af10, alt⟩ := C3.out
  obtain ⟨c0, c1, c2, c3, c4, c5, c6, c7, c8, c9, c10, cf0, cf1, cf2, cf3, cf4, cf5, cf6, cf7, cf8, cf9, cf10, clt⟩ := A2.out
  go_wp2_with fail
  refine (K2.out _).mono ?_
  rintro e w3 ⟨rfl, b3⟩
  have J1 := Lib.hid (J0.out.later b3)
  clear a0 af0 a1 af1 a2 af2 a3 af3 a4 af4 a5 af5 a6 af6 a7 af7 a8 af8 a9 af9 a10 af10 alt c0 cf0 c1 cf1 c2 cf2 c3 cf3 c4 cf4 c5 cf5 c6 cf6 c7 cf7 c8 cf8 c9 cf9 c10 cf10 clt
  clear b3 A1 A2 C1 C2 C3 D1 D2 D3 B0 D0
  obtain ⟨a0, a1, a2, a3, a4, a5, a6, a7, a8, a9, a10, af0, af1, af2, af3, af4, af5, af6, af7, af8, af9, af10, alt⟩ := J1.out.bx
  obtain ⟨c0, c1, c2, c3, c4, c5, c6, c7, c8, c9, c10, cf0, cf1, cf2, cf3, cf4, cf5, cf6, cf7, cf8, cf9, cf10, clt⟩ := J1.out.ba
  obtain ⟨d0, d1, d2, d3, d4, d5, d6, d7, d8, d9, d10, df0, df1, df2, df3, df4, df5, df6, df7, df8, df9, df10, dlt⟩ := J1.out.bb
  go_wp2_with fail
  rw [fold_put]
  refine (K2r.out _).mono ?_
  rintro e w4 ⟨rfl, b4⟩
  have J2 := Lib.hid ((J1.out.puta hw0.out y2).later b4)
  clear a0 af0 a1 af1 a2 af2 a3 af3 a4 af4 a5 af5 a6 af6 a7 af7 a8 af8 a9 af9 a10 af10 alt c0 cf0 c1 cf1 c2 cf2 c3 cf3 c4 cf4 c5 cf5 c6 cf6 c7 cf7 c8 cf8 c9 cf9 c10 cf10 clt d0 df0 d1 df1 d2 df2 d3 df3 d4 df4 d5 df5 d6 df6 d7 df7 d8 df8 d9 df9 d10 df10 dlt
  clear b4 J1
  obtain ⟨a0, a1, a2, a3, a4, a5, a6, a7, a8, a9, a10, af0, af1, af2, af3, af4, af5, af6, af7, af8, af9, af10, alt⟩ := J2.out.bx
  obtain ⟨c0, c1, c2, c3, c4, c5, c6, c7, c8, c9, c10, cf0, cf1, cf2, cf3, cf4, cf5, cf6, cf7, cf8, cf9, cf10, clt⟩ := J2.out.ba
  obtain ⟨d0, d1, d2, d3, d4, d5, d6, d7, d8, d9, d10, df0, df1, df2, df3, df4, df5, df6, df7, df8, df9, df10, dlt⟩ := J2.out.bb
  go_wp2_with fail
  rw [fold_put]
  refine (K3.out _).mono ?_
  rintro e w5 ⟨rfl, b5⟩
  have J3 := Lib.hid ((J2.out.putb hw0.out y2).later b5)
  clear a0 af0 a1 af1 a2 af2 a3 af3 a4 af4 a5 af5 a6 af6 a7 af7 a8 af8 a9 af9 a10 af10 alt c0 cf0 c1 cf1 c2 cf2 c3 cf3 c4 cf4 c5 cf5 c6 cf6 c7 cf7 c8 cf8 c9 cf9 c10 cf10 clt d0 df0 d1 df1 d2 df2 d3 df3 d4 df4 d5 df5 d6 df6 d7 df7 d8 df8 d9 df9 d10 df10 dlt
  clear b5 J2
  obtain ⟨a0, a1, a2, a3, a4, a5, a6, a7, a8, a9, a10, af0, af1, af2, af3, af4, af5, af6, af7, af8, af9, af10, alt⟩ := J3.out.bx
  obtain ⟨c0, c1, c2, c3, c4, c5, c6, c7, c8, c9, c10, cf0, cf1, cf2, cf3, cf4, cf5, cf6, cf7, cf8, cf9, cf10, clt⟩ := J3.out.ba
  obtain ⟨d0, d1, d2, d3, d4, d5, d6, d7, d8, d9, d10, df0, df1, df2, df3, df4, df5, df6, df7, df8, df9, df10, dlt⟩ := J3.out.bb
  go_wp2_with fail
  rw [fold_put]
  refine (K3r.out _).mono ?_
  rintro e w6 ⟨rfl, b6⟩
  have J4 := Lib.hid ((J3.out.puta hw0.out y3).later b6)
  clear a0 af0 a1 af1 a2 af2 a3 af3 a4 af4 a5 af5 a6 af6 a7 af7 a8 af8 a9 af9 a10 af10 alt c0 cf0 c1 cf1 c2 cf2 c3 cf3 c4 cf4 c5 cf5 c6 cf6 c7 cf7 c8 cf8 c9 cf9 c10 cf10 clt d0 df0 d1 df1 d2 df2 d3 df3 d4 df4 d5 df5 d6 df6 d7 df7 d8 df8 d9 df9 d10 df10 dlt
  clear b6 J3
  obtain ⟨a0, a1, a2, a3, a4, a5, a6, a7, a8, a9, a10, af0, af1, af2, af3, af4, af5, af6, af7, af8, af9, af10, alt⟩ := J4.out.bx
  obtain ⟨c0, c1, c2, c3, c4, c5, c6, c7, c8, c9, c10, cf0, cf1, cf2, cf3, cf4, cf5, cf6, cf7, cf8, cf9, cf10, clt⟩ := J4.out.ba
  obtain ⟨d0, d1, d2, d3, d4, d5, d6, d7, d8, d9, d10, df0, df1, df2, df3, df4, df5, df6, df7, df8, df9, df10, dlt⟩ := J4.out.bb
  go_wp2_with fail
  rw [fold_put]
  refine (K4.out _).mono ?_
  rintro e w7 ⟨rfl, b7⟩
  have J5 := Lib.hid ((J4.out.putb hw0.out y3).later b7)
  clear a0 af0 a1 af1 a2 af2 a3 af3 a4 af4 a5 af5 a6 af6 a7 af7 a8 af8 a9 af9 a10 af10 alt c0 cf0 c1 cf1 c2 cf2 c3 cf3 c4 cf4 c5 cf5 c6 cf6 c7 cf7 c8 cf8 c9 cf9 c10 cf10 clt d0 df0 d1 df1 d2 df2 d3 df3 d4 df4 d5 df5 d6 df6 d7 df7 d8 df8 d9 df9 d10 df10 dlt
  clear b7 J4
  obtain ⟨a0, a1, a2, a3, a4, a5, a6, a7, a8, a9, a10, af0, af1, af2, af3, af4, af5, af6, af7, af8, af9, af10, alt⟩ := J5.out.bx
  obtain ⟨c0, c1, c2, c3, c4, c5, c6, c7, c8, c9, c10, cf0, cf1, cf2, cf3, cf4, cf5, cf6, cf7, cf8, cf9, cf10, clt⟩ := J5.out.ba
  obtain ⟨d0, d1, d2, d3, d4, d5, d6, d7, d8, d9, d10, df0, df1, df2, df3, df4, df5, df6, df7, df8, df9, df10, dlt⟩ := J5.out.bb
  go_wp2_with fail
  rw [fold_put]
  refine (K4r.out _).mono ?_
  rintro e w8 ⟨rfl, b8⟩
  have J6 := Lib.hid ((J5.out.puta hw0.out y4).later b8)
  clear a0 af0 a1 af1 a2 af2 a3 af3 a4 af4 a5 af5 a6 af6 a7 af7 a8 af8 a9 af9 a10 af10 alt c0 cf0 c1 cf1 c2 cf2 c3 cf3 c4 cf4 c5 cf5 c6 cf6 c7 cf7 c8 cf8 c9 cf9 c10 cf10 clt d0 df0 d1 df1 d2 df2 d3 df3 d4 df4 d5 df5 d6 df6 d7 df7 d8 df8 d9 df9 d10 df10 dlt
  clear b8 J5
  obtain ⟨a0, a1, a2, a3, a4, a5, a6, a7, a8, a9, a10, af0, af1, af2, af3, af4, af5, af6, af7, af8, af9, af10, alt⟩ := J6.out.bx
  obtain ⟨c0, c1, c2, c3, c4, c5, c6, c7, c8, c9, c10, cf0, cf1, cf2, cf3, cf4, cf5, cf6, cf7, cf8, cf9, cf10, clt⟩ := J6.out.ba
  obtain ⟨d0, d1, d2, d3, d4, d5, d6, d7, d8, d9, d10, df0, df1, df2, df3, df4, df5, df6, df7, df8, df9, df10, dlt⟩ := J6.out.bb
  go_wp2_with fail
  rw [fold_put]
  refine (KOr.out _).mono ?_
  rintro e w9 ⟨rfl, b9⟩
  have J7 := Lib.hid ((J6.out.putb hw0.out y4).later b9)
  clear a0 af0 a1 af1 a2 af2 a3 af3 a4 af4 a5 af5 a6 af6 a7 af7 a8 af8 a9 af9 a10 af10 alt c0 cf0 c1 cf1 c2 cf2 c3 cf3 c4 cf4 c5 cf5 c6 cf6 c7 cf7 c8 cf8 c9 cf9 c10 cf10 clt d0 df0 d1 df1 d2 df2 d3 df3 d4 df4 d5 df5 d6 df6 d7 df7 d8 df8 d9 df9 d10 df10 dlt
  clear b9 J6
  obtain ⟨a0, a1, a2, a3, a4, a5, a6, a7, a8, a9, a10, af0, af1, af2, af3, af4, af5, af6, af7, af8, af9, af10, alt⟩ := J7.out.bx
  obtain ⟨c0, c1, c2, c3, c4, c5, c6, c7, c8, c9, c10, cf0, cf1, cf2, cf3, cf4, cf5, cf6, cf7, cf8, cf9, cf10, clt⟩ := J7.out.ba
  obtain ⟨d0, d1, d2, d3, d4, d5, d6, d7, d8, d9, d10, df0, df1, df2, df3, df4, df5, df6, df7, df8, df9, df10, dlt⟩ := J7.out.bb
  go_wp2_with fail
  go_region_held3 (fun u => u.cell? ⟨w.heap.size, 0, none⟩ = some (.int .u64 x.id) ∧ u.cell? ⟨w.heap.size, 1, none⟩ = some (.int .u64 x.cust) ∧ u.cell? ⟨w.heap.size, 2, none⟩ = some (.int .u64 x.con) ∧ u.cell? ⟨w.heap.size, 3, none⟩ = some (.int .i64 x.day) ∧ u.cell? ⟨w.heap.size, 4, none⟩ = some (.int .i64 x.due) ∧ u.cell? ⟨w.heap.size, 5, none⟩ = some (.int .i64 x.frm) ∧ u.cell? ⟨w.heap.size, 6, none⟩ = some (.int .i64 x.next) ∧ u.cell? ⟨w.heap.size, 7, none⟩ = some (.int .i64 x.amt) ∧ u.cell? ⟨w.heap.size, 8, none⟩ = some (.int .i64 x.cred) ∧ u.cell? ⟨w.heap.size, 9, none⟩ = some (.int .i64 x.paid) ∧ u.cell? ⟨w.heap.size, 10, none⟩ = some (.int .i64 x.lost) ∧ u.cell? ⟨w1.heap.size, 0, none⟩ = some (.int .u64 y4.id) ∧ u.cell? ⟨w1.heap.size, 1, none⟩ = some (.int .u64 y4.cust) ∧ u.cell? ⟨w1.heap.size, 2, none⟩ = some (.int .u64 y4.con) ∧ u.cell? ⟨w1.heap.size, 3, none⟩ = some (.int .i64 y4.day) ∧ u.cell? ⟨w1.heap.size, 4, none⟩ = some (.int .i64 y4.due) ∧ u.cell? ⟨w1.heap.size, 5, none⟩ = some (.int .i64 y4.frm) ∧ u.cell? ⟨w1.heap.size, 6, none⟩ = some (.int .i64 y4.next) ∧ u.cell? ⟨w1.heap.size, 7, none⟩ = some (.int .i64 y4.amt) ∧ u.cell? ⟨w1.heap.size, 8, none⟩ = some (.int .i64 y4.cred) ∧ u.cell? ⟨w1.heap.size, 9, none⟩ = some (.int .i64 y4.paid) ∧ u.cell? ⟨w1.heap.size, 10, none⟩ = some (.int .i64 y4.lost) ∧ u.cell? ⟨w2.heap.size, 0, none⟩ = some (.int .u64 y4.id) ∧ u.cell? ⟨w2.heap.size, 1, none⟩ = some (.int .u64 y4.cust) ∧ u.cell? ⟨w2.heap.size, 2, none⟩ = some (.int .u64 y4.con) ∧ u.cell? ⟨w2.heap.size, 3, none⟩ = some (.int .i64 y4.day) ∧ u.cell? ⟨w2.heap.size, 4, none⟩ = some (.int .i64 y4.due) ∧ u.cell? ⟨w2.heap.size, 5, none⟩ = some (.int .i64 y4.frm) ∧ u.cell? ⟨w2.heap.size, 6, none⟩ = some (.int .i64 y4.next) ∧ u.cell? ⟨w2.heap.size, 7, none⟩ = some (.int .i64 y4.amt) ∧ u.cell? ⟨w2.heap.size, 8, none⟩ = some (.int .i64 y4.cred) ∧ u.cell? ⟨w2.heap.size, 9, none⟩ = some (.int .i64 y4.paid) ∧ u.cell? ⟨w2.heap.size, 10, none⟩ = some (.int .i64 y4.lost) ∧ TB w w.heap.size x w1.heap.size y4 w2.heap.size y4 u)
    (first | exact TB.pack J7.out | exact TB.pack J7.out.drew | exact TB.pack J8)
    (first | (go_at_call 16; (try go_split_ands); refine (KO.out _).mono ?_; rintro e u1 ⟨rfl, b1⟩; have J8 := TB.later (by assumption) b1) | (go_at_call 17; (try go_split_ands); refine (KC.out _).mono ?_; rintro e u1 ⟨rfl, b1⟩; have J8 := TB.later (by assumption) b1) | (go_at_call 18; (try go_split_ands); refine (KCr.out _).mono ?_; rintro e u1 ⟨rfl, b1⟩; have J8 := TB.later (by assumption) b1) | (go_at_call 19; (try go_split_ands); refine (KH.out _ (TB.t (by assumption))).mono ?_; rintro e u1 ⟨rfl, b1⟩; have J8 := TB.later (by assumption) b1))
  go_split_ands
  go_wp2_with fail
  go_goals
  go_ret
  exact ⟨rfl, J8.b⟩
end Go.Proofs.YtaidijbjpogpeaaDoor.Inv
