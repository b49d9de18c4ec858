/- The contracts of package invoices: Pay, Unpay. (gen_inpay.py writes this.) -/
import Derived.Test.YtaidijbjpogpeaaDoorInSet
namespace Go.Proofs.YtaidijbjpogpeaaDoor.Inv
open Go.RowKit
set_option maxRecDepth 100000 in
set_option maxHeartbeats 1600000 in
theorem Pay_err (x : Iv) (n z : Int) (w : World) (hz : z ≠ 0) (hs : ∀ w, Calls Tryd.prog 25 #[x.val, .int .i64 n, .func (.func 27) #[] #[]] w fun e w' => e = .returned (.int .i64 z) ∧ Below w.heap.size w w') :
    Calls Tryd.prog 9 #[x.val, .int .i64 n] w fun e w' => e = .returned (.tuple #[Iv.zero.val, .int .i64 z]) ∧ Below w.heap.size w w' := by
  have KS := Lib.hid hs
  have HT := Lib.hid (Bx.two x w)
  clear hs
  have hzb : (z != 0) = true := by simpa using hz
  have hzz : ¬ z = 0 := hz
  obtain ⟨a0, a1, a2, a3, a4, a5, a6, a7, a8, a9, a10, af0, af1, af2, af3, af4, af5, af6, af7, af8, af9, af10, alt⟩ := HT.out.1
  go_enter Tryd.func9, Tryd.ntmps9
  unfold Iv.val
  go_wp2_with fail
  refine (KS.out _).mono ?_
  rintro e w1 ⟨rfl, b1⟩
  have D1 := Lib.hid (then_below HT.out.2.2 b1)
  have T1 := Lib.hid (HT.out.2.1.later b1)
  clear b1 a0 af0 a1 af1 a2 af2 a3 af3 a4 af4 a5 af5 a6 af6 a7 af7 a8 af8 a9 af9 a10 af10 alt
  obtain ⟨c0, c1, c2, c3, c4, c5, c6, c7, c8, c9, c10, cf0, cf1, cf2, cf3, cf4, cf5, cf6, cf7, cf8, cf9, cf10, clt⟩ := T1.out
  go_wp2_with fail
  have Z := Bx.put T1.out Iv.zero
  have ZB := Bx.put_below (b := w.heap.size) Iv.zero D1.out (Nat.le_succ _)
  show (bodyPost _ _ _ : Exit → Act → World → Prop) Exit.ret _ (putIv w1 (w.heap.size + 1) Iv.zero)
  generalize putIv w1 (w.heap.size + 1) Iv.zero = W at *
  clear c0 cf0 c1 cf1 c2 cf2 c3 cf3 c4 cf4 c5 cf5 c6 cf6 c7 cf7 c8 cf8 c9 cf9 c10 cf10 clt
  obtain ⟨z0, z1, z2, z3, z4, z5, z6, z7, z8, z9, z10, -, -, -, -, -, -, -, -, -, -, -, -⟩ := Z
  refine bodyPost_ret (by simp [results, Tryd.results9, go_sem, z0, z1, z2, z3, z4, z5, z6, z7, z8, z9, z10]; try rfl) rfl ?_
  exact ⟨rfl, ZB⟩
set_option maxRecDepth 100000 in
set_option maxHeartbeats 1600000 in
theorem Unpay_err (x : Iv) (n z : Int) (w : World) (hz : z ≠ 0) (hs : ∀ w, Calls Tryd.prog 25 #[x.val, .int .i64 n, .func (.func 28) #[] #[]] w fun e w' => e = .returned (.int .i64 z) ∧ Below w.heap.size w w') :
    Calls Tryd.prog 11 #[x.val, .int .i64 n] w fun e w' => e = .returned (.tuple #[Iv.zero.val, .int .i64 z]) ∧ Below w.heap.size w w' := by
  have KS := Lib.hid hs
  have HT := Lib.hid (Bx.two x w)
  clear hs
  have hzb : (z != 0) = true := by simpa using hz
  have hzz : ¬ z = 0 := hz
  obtain ⟨a0, a1, a2, a3, a4, a5, a6, a7, a8, a9, a10, af0, af1, af2, af3, af4, af5, af6, af7, af8, af9, af10, alt⟩ := HT.out.1
  go_enter Tryd.func11, Tryd.ntmps11
  unfold Iv.val
  go_wp2_with fail
  refine (KS.out _).mono ?_
  rintro e w1 ⟨rfl, b1⟩
  have D1 := Lib.hid (then_below HT.out.2.2 b1)
  have T1 := Lib.hid (HT.out.2.1.later b1)
  clear b1 a0 af0 a1 af1 a2 af2 a3 af3 a4 af4 a5 af5 a6 af6 a7 af7 a8 af8 a9 af9 a10 af10 alt
  obtain ⟨c0, c1, c2, c3, c4, c5, c6, c7, c8, c9, c10, cf0, cf1, cf2, cf3, cf4, cf5, cf6, cf7, cf8, cf9, cf10, clt⟩ := T1.out
  go_wp2_with fail
  have Z := Bx.put T1.out Iv.zero
  have ZB := Bx.put_below (b := w.heap.size) Iv.zero D1.out (Nat.le_succ _)
  show (bodyPost _ _ _ : Exit → Act → World → Prop) Exit.ret _ (putIv w1 (w.heap.size + 1) Iv.zero)
  generalize putIv w1 (w.heap.size + 1) Iv.zero = W at *
  clear c0 cf0 c1 cf1 c2 cf2 c3 cf3 c4 cf4 c5 cf5 c6 cf6 c7 cf7 c8 cf8 c9 cf9 c10 cf10 clt
  obtain ⟨z0, z1, z2, z3, z4, z5, z6, z7, z8, z9, z10, -, -, -, -, -, -, -, -, -, -, -, -⟩ := Z
  refine bodyPost_ret (by simp [results, Tryd.results11, go_sem, z0, z1, z2, z3, z4, z5, z6, z7, z8, z9, z10]; try rfl) rfl ?_
  exact ⟨rfl, ZB⟩
def Iv.pay (x : Iv) (n : Int) : Iv := ⟨x.id, x.cust, x.con, x.day, x.due, x.frm, x.next, x.amt, x.cred, x.paid + n, x.lost⟩
set_option maxRecDepth 100000 in
set_option maxHeartbeats 1600000 in
theorem Pay_ok (x : Iv) (n : Int) (w : World) (q0 : -9223372036854775808 ≤ x.paid + n) (q1 : x.paid + n ≤ 9223372036854775807) (hs : ∀ w, Calls Tryd.prog 25 #[x.val, .int .i64 n, .func (.func 27) #[] #[]] w fun e w' => e = .returned (.int .i64 0) ∧ Below w.heap.size w w') :
    Calls Tryd.prog 9 #[x.val, .int .i64 n] w fun e w' => e = .returned (.tuple #[(x.pay n).val, .int .i64 0]) ∧ Below w.heap.size w w' := by
  have KS := Lib.hid hs
  have HT := Lib.hid (Bx.two x w)
  clear hs
  obtain ⟨a0, a1, a2, a3, a4, a5, a6, a7, a8, a9, a10, af0, af1, af2, af3, af4, af5, af6, af7, af8, af9, af10, alt⟩ := HT.out.1
  go_enter Tryd.func9, Tryd.ntmps9
  unfold Iv.val
  go_wp2_with fail
  refine (KS.out _).mono ?_
  rintro e w1 ⟨rfl, b1⟩
  have D1 := Lib.hid (then_below HT.out.2.2 b1)
  have T1 := Lib.hid (HT.out.2.1.later b1)
  have X1 := Lib.hid (HT.out.1.later b1)
  clear b1 a0 af0 a1 af1 a2 af2 a3 af3 a4 af4 a5 af5 a6 af6 a7 af7 a8 af8 a9 af9 a10 af10 alt
  obtain ⟨c0, c1, c2, c3, c4, c5, c6, c7, c8, c9, c10, cf0, cf1, cf2, cf3, cf4, cf5, cf6, cf7, cf8, cf9, cf10, clt⟩ := T1.out
  obtain ⟨d0, d1, d2, d3, d4, d5, d6, d7, d8, d9, d10, df0, df1, df2, df3, df4, df5, df6, df7, df8, df9, df10, dlt⟩ := X1.out
  go_wp2_with fail
  have T2 : Bx (w.heap.size + 1) Iv.zero (w1.setCell ⟨w.heap.size, 9, none⟩ (.int .i64 (x.paid + n))) := by
    constructor <;> simp [World.cell?_setCell_far, c0, c1, c2, c3, c4, c5, c6, c7, c8, c9, c10, cf0, cf1, cf2, cf3, cf4, cf5, cf6, cf7, cf8, cf9, cf10]
    omega
  have Z := Bx.put T2 (x.pay n)
  have ZB := Bx.put_below (b := w.heap.size) (x.pay n) (D1.out.setCell (p := ⟨w.heap.size, 9, none⟩) (Nat.le_refl _) (.int .i64 (x.paid + n))) (Nat.le_succ _)
  show (bodyPost _ _ _ : Exit → Act → World → Prop) Exit.ret _ (putIv (w1.setCell ⟨w.heap.size, 9, none⟩ (.int .i64 (x.paid + n))) (w.heap.size + 1) (x.pay n))
  generalize putIv (w1.setCell ⟨w.heap.size, 9, none⟩ (.int .i64 (x.paid + n))) (w.heap.size + 1) (x.pay n) = W at *
  clear T2 c0 cf0 d0 df0 c1 cf1 d1 df1 c2 cf2 d2 df2 c3 cf3 d3 df3 c4 cf4 d4 df4 c5 cf5 d5 df5 c6 cf6 d6 df6 c7 cf7 d7 df7 c8 cf8 d8 df8 c9 cf9 d9 df9 c10 cf10 d10 df10 clt dlt
  obtain ⟨z0, z1, z2, z3, z4, z5, z6, z7, z8, z9, z10, -, -, -, -, -, -, -, -, -, -, -, -⟩ := Z
  refine bodyPost_ret (by simp [results, Tryd.results9, go_sem, z0, z1, z2, z3, z4, z5, z6, z7, z8, z9, z10]; try rfl) rfl ?_
  exact ⟨rfl, ZB⟩
def Iv.unpay (x : Iv) (n : Int) : Iv := ⟨x.id, x.cust, x.con, x.day, x.due, x.frm, x.next, x.amt, x.cred, x.paid - n, x.lost⟩
set_option maxRecDepth 100000 in
set_option maxHeartbeats 1600000 in
theorem Unpay_ok (x : Iv) (n : Int) (w : World) (q0 : -9223372036854775808 ≤ x.paid - n) (q1 : x.paid - n ≤ 9223372036854775807) (hs : ∀ w, Calls Tryd.prog 25 #[x.val, .int .i64 n, .func (.func 28) #[] #[]] w fun e w' => e = .returned (.int .i64 0) ∧ Below w.heap.size w w') :
    Calls Tryd.prog 11 #[x.val, .int .i64 n] w fun e w' => e = .returned (.tuple #[(x.unpay n).val, .int .i64 0]) ∧ Below w.heap.size w w' := by
  have KS := Lib.hid hs
  have HT := Lib.hid (Bx.two x w)
  clear hs
  obtain ⟨a0, a1, a2, a3, a4, a5, a6, a7, a8, a9, a10, af0, af1, af2, af3, af4, af5, af6, af7, af8, af9, af10, alt⟩ := HT.out.1
  go_enter Tryd.func11, Tryd.ntmps11
  unfold Iv.val
  go_wp2_with fail
  refine (KS.out _).mono ?_
  rintro e w1 ⟨rfl, b1⟩
  have D1 := Lib.hid (then_below HT.out.2.2 b1)
  have T1 := Lib.hid (HT.out.2.1.later b1)
  have X1 := Lib.hid (HT.out.1.later b1)
  clear b1 a0 af0 a1 af1 a2 af2 a3 af3 a4 af4 a5 af5 a6 af6 a7 af7 a8 af8 a9 af9 a10 af10 alt
  obtain ⟨c0, c1, c2, c3, c4, c5, c6, c7, c8, c9, c10, cf0, cf1, cf2, cf3, cf4, cf5, cf6, cf7, cf8, cf9, cf10, clt⟩ := T1.out
  obtain ⟨d0, d1, d2, d3, d4, d5, d6, d7, d8, d9, d10, df0, df1, df2, df3, df4, df5, df6, df7, df8, df9, df10, dlt⟩ := X1.out
  go_wp2_with fail
  have T2 : Bx (w.heap.size + 1) Iv.zero (w1.setCell ⟨w.heap.size, 9, none⟩ (.int .i64 (x.paid - n))) := by
    constructor <;> simp [World.cell?_setCell_far, c0, c1, c2, c3, c4, c5, c6, c7, c8, c9, c10, cf0, cf1, cf2, cf3, cf4, cf5, cf6, cf7, cf8, cf9, cf10]
    omega
  have Z := Bx.put T2 (x.unpay n)
  have ZB := Bx.put_below (b := w.heap.size) (x.unpay n) (D1.out.setCell (p := ⟨w.heap.size, 9, none⟩) (Nat.le_refl _) (.int .i64 (x.paid - n))) (Nat.le_succ _)
  show (bodyPost _ _ _ : Exit → Act → World → Prop) Exit.ret _ (putIv (w1.setCell ⟨w.heap.size, 9, none⟩ (.int .i64 (x.paid - n))) (w.heap.size + 1) (x.unpay n))
  generalize putIv (w1.setCell ⟨w.heap.size, 9, none⟩ (.int .i64 (x.paid - n))) (w.heap.size + 1) (x.unpay n) = W at *
  clear T2 c0 cf0 d0 df0 c1 cf1 d1 df1 c2 cf2 d2 df2 c3 cf3 d3 df3 c4 cf4 d4 df4 c5 cf5 d5 df5 c6 cf6 d6 df6 c7 cf7 d7 df7 c8 cf8 d8 df8 c9 cf9 d9 df9 c10 cf10 d10 df10 clt dlt
  obtain ⟨z0, z1, z2, z3, z4, z5, z6, z7, z8, z9, z10, -, -, -, -, -, -, -, -, -, -, -, -⟩ := Z
  refine bodyPost_ret (by simp [results, Tryd.results11, go_sem, z0, z1, z2, z3, z4, z5, z6, z7, z8, z9, z10]; try rfl) rfl ?_
  exact ⟨rfl, ZB⟩
end Go.Proofs.YtaidijbjpogpeaaDoor.Inv
