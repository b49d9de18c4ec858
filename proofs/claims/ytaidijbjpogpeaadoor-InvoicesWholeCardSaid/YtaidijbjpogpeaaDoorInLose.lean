/- The contract of package invoices: Lose. (gen_inlose.py writes this.) -/
import Derived.Test.YtaidijbjpogpeaaDoorInPay
namespace Go.Proofs.YtaidijbjpogpeaaDoor.Inv
open Go.RowKit
def Iv.lose (x : Iv) : Iv := ⟨x.id, x.cust, x.con, x.day, x.due, x.frm, x.next, x.amt, x.cred, x.paid, x.lost + x.left⟩
set_option maxRecDepth 100000 in
set_option maxHeartbeats 1600000 in
theorem Lose_err (x : Iv) (z : Int) (w : World) (hz : z ≠ 0) (hs : ∀ w, Calls Tryd.prog 25 #[x.val, .int .i64 1, .func (.func 27) #[] #[]] w fun e w' => e = .returned (.int .i64 z) ∧ Below w.heap.size w w') :
    Calls Tryd.prog 13 #[x.val] w fun e w' => e = .returned (.tuple #[Iv.zero.val, .int .i64 0, .int .i64 z]) ∧ Below w.heap.size w w' := by
  have KS := Lib.hid hs
  have HT := Lib.hid (Bx.two x w)
  clear hs
  have hzb : (z != 0) = true := by simpa using hz
  have hzz : ¬ z = 0 := hz
  obtain ⟨a0, a1, a2, a3, a4, a5, a6, a7, a8, a9, a10, af0, af1, af2, af3, af4, af5, af6, af7, af8, af9, af10, alt⟩ := HT.out.1
  go_enter Tryd.func13, Tryd.ntmps13
  unfold Iv.val
  go_wp2_with fail
  refine (KS.out _).mono ?_
  rintro e w1 ⟨rfl, b1⟩
  have D1 := Lib.hid (then_below HT.out.2.2 b1)
  have T1 := Lib.hid (HT.out.2.1.later b1)
  clear b1 a0 af0 a1 af1 a2 af2 a3 af3 a4 af4 a5 af5 a6 af6 a7 af7 a8 af8 a9 af9 a10 af10 alt
  obtain ⟨c0, c1, c2, c3, c4, c5, c6, c7, c8, c9, c10, cf0, cf1, cf2, cf3, cf4, cf5, cf6, cf7, cf8, cf9, cf10, clt⟩ := T1.out
  go_wp2_with fail
  have Z := Bx.put T1.out Iv.zero
  have ZB := Bx.put_below (b := w.heap.size) Iv.zero D1.out (Nat.le_succ _)
  show (bodyPost _ _ _ : Exit → Act → World → Prop) Exit.ret _ (putIv w1 (w.heap.size + 1) Iv.zero)
  generalize putIv w1 (w.heap.size + 1) Iv.zero = W at *
  clear c0 cf0 c1 cf1 c2 cf2 c3 cf3 c4 cf4 c5 cf5 c6 cf6 c7 cf7 c8 cf8 c9 cf9 c10 cf10 clt
  obtain ⟨z0, z1, z2, z3, z4, z5, z6, z7, z8, z9, z10, -, -, -, -, -, -, -, -, -, -, -, -⟩ := Z
  refine bodyPost_ret (by simp [results, Tryd.results13, go_sem, z0, z1, z2, z3, z4, z5, z6, z7, z8, z9, z10]; try rfl) rfl ?_
  exact ⟨rfl, ZB⟩
set_option maxRecDepth 100000 in
set_option maxHeartbeats 1600000 in
theorem Lose_ok (x : Iv) (w : World) (hx : x.Fits) (hk : x.Ok) (hs : ∀ w, Calls Tryd.prog 25 #[x.val, .int .i64 1, .func (.func 27) #[] #[]] w fun e w' => e = .returned (.int .i64 0) ∧ Below w.heap.size w w') :
    Calls Tryd.prog 13 #[x.val] w fun e w' => e = .returned (.tuple #[x.lose.val, .int .i64 x.left, .int .i64 0]) ∧ Below w.heap.size w w' := by
  have KS := Lib.hid hs
  have KL := Lib.hid (fun w => left_ok x w hx hk)
  have HT := Lib.hid (Bx.two x w)
  have q0 : -9223372036854775808 ≤ x.lost + x.left := by have := hk.left0; have := hk.lost; omega
  have q1 : x.lost + x.left ≤ 9223372036854775807 := by have := hk.left; have := hk.amt; have := hk.cred; have := hk.paid; omega
  clear hs hx hk
  obtain ⟨a0, a1, a2, a3, a4, a5, a6, a7, a8, a9, a10, af0, af1, af2, af3, af4, af5, af6, af7, af8, af9, af10, alt⟩ := HT.out.1
  go_enter Tryd.func13, Tryd.ntmps13
  unfold Iv.val
  go_wp2_with fail
  refine (KS.out _).mono ?_
  rintro e w1 ⟨rfl, b1⟩
  have D1 := Lib.hid (then_below HT.out.2.2 b1)
  have T1 := Lib.hid (HT.out.2.1.later b1)
  have X1 := Lib.hid (HT.out.1.later b1)
  clear b1 a0 af0 a1 af1 a2 af2 a3 af3 a4 af4 a5 af5 a6 af6 a7 af7 a8 af8 a9 af9 a10 af10 alt
  obtain ⟨e0, e1, e2, e3, e4, e5, e6, e7, e8, e9, e10, ef0, ef1, ef2, ef3, ef4, ef5, ef6, ef7, ef8, ef9, ef10, elt⟩ := X1.out
  go_wp2_with fail
  refine (KL.out _).mono ?_
  rintro e w2 ⟨rfl, b2⟩
  have D2 := Lib.hid (then_below D1.out b2)
  have T2 := Lib.hid (T1.out.later b2)
  have X2 := Lib.hid (X1.out.later b2)
  clear b2 e0 ef0 e1 ef1 e2 ef2 e3 ef3 e4 ef4 e5 ef5 e6 ef6 e7 ef7 e8 ef8 e9 ef9 e10 ef10 elt
  obtain ⟨c0, c1, c2, c3, c4, c5, c6, c7, c8, c9, c10, cf0, cf1, cf2, cf3, cf4, cf5, cf6, cf7, cf8, cf9, cf10, clt⟩ := T2.out
  obtain ⟨d0, d1, d2, d3, d4, d5, d6, d7, d8, d9, d10, df0, df1, df2, df3, df4, df5, df6, df7, df8, df9, df10, dlt⟩ := X2.out
  go_wp2_with fail
  have T3 : Bx (w.heap.size + 1) Iv.zero (w2.setCell ⟨w.heap.size, 10, none⟩ (.int .i64 (x.lost + x.left))) := by
    constructor <;> simp [World.cell?_setCell_far, c0, c1, c2, c3, c4, c5, c6, c7, c8, c9, c10, cf0, cf1, cf2, cf3, cf4, cf5, cf6, cf7, cf8, cf9, cf10]
    omega
  have Z := Bx.put T3 x.lose
  have ZB := Bx.put_below (b := w.heap.size) x.lose (D2.out.setCell (p := ⟨w.heap.size, 10, none⟩) (Nat.le_refl _) (.int .i64 (x.lost + x.left))) (Nat.le_succ _)
  show (bodyPost _ _ _ : Exit → Act → World → Prop) Exit.ret _ (putIv (w2.setCell ⟨w.heap.size, 10, none⟩ (.int .i64 (x.lost + x.left))) (w.heap.size + 1) x.lose)
  generalize putIv (w2.setCell ⟨w.heap.size, 10, none⟩ (.int .i64 (x.lost + x.left))) (w.heap.size + 1) x.lose = W at *
  clear T3 c0 cf0 c1 cf1 c2 cf2 c3 cf3 c4 cf4 c5 cf5 c6 cf6 c7 cf7 c8 cf8 c9 cf9 c10 cf10 clt d0 df0 d1 df1 d2 df2 d3 df3 d4 df4 d5 df5 d6 df6 d7 df7 d8 df8 d9 df9 d10 df10 dlt
  obtain ⟨z0, z1, z2, z3, z4, z5, z6, z7, z8, z9, z10, -, -, -, -, -, -, -, -, -, -, -, -⟩ := Z
  refine bodyPost_ret (by simp [results, Tryd.results13, go_sem, z0, z1, z2, z3, z4, z5, z6, z7, z8, z9, z10]; try rfl) rfl ?_
  exact ⟨rfl, ZB⟩
end Go.Proofs.YtaidijbjpogpeaaDoor.Inv
