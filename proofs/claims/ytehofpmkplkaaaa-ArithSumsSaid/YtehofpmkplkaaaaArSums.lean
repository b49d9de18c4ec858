/- Package arith: the law of sums and products. -/
import Derived.Test.YtehofpmkplkaaaaArRefMul
import Derived.Test.YtehofpmkplkaaaaArHead
namespace Go.Proofs.Ytehofpmkplkaaaa.Bw
open Go.RowKit Cm Bz
set_option maxRecDepth 100000 in
set_option maxHeartbeats 1600000 in
theorem sums_c (a b : Int) (w : World) (ha : I64 a) (hb : I64 b) : Calls Try.prog 9 #[.int .i64 a, .int .i64 b] w fun e w' => e = .returned (.bool true) ∧ Below w.heap.size w w' := by
  have p1 := Lib.hid (fun w => add_c a b w ha hb)
  have q1 := Lib.hid (fun w => radd_c a b w ha hb)
  have p2 := Lib.hid (fun w => sub_c a b w ha hb)
  have q2 := Lib.hid (fun w => rsub_c a b w ha hb)
  have p3 := Lib.hid (fun w => mul_c a b w ha hb)
  have q3 := Lib.hid (fun w => rmul_c a b w ha hb)
  have p4 := Lib.hid (fun w => neg_c a w ha)
  have q4 := Lib.hid (show ∀ w, Calls Try.prog 38 #[.int .i64 0, .int .i64 a] w (Told (-a) w) from fun w => by
    have h := rsub_c 0 a w ⟨by omega, by omega⟩ ha
    rwa [show (0 : Int) - a = -a by omega] at h)
  clear ha hb
  unfold Told at p1 q1 p2 q2 p3 q3 p4 q4
  generalize Ar.val (a + b) = n1 at *
  generalize Ar.ok (a + b) = o1 at *
  generalize Ar.val (a - b) = n2 at *
  generalize Ar.ok (a - b) = o2 at *
  generalize Ar.val (a * b) = n3 at *
  generalize Ar.ok (a * b) = o3 at *
  generalize Ar.val (-a) = n4 at *
  generalize Ar.ok (-a) = o4 at *
  go_enter Try.func9, Try.ntmps9
  go_wp2_with fail
  refine (p1.out _).mono ?_
  rintro e w1 ⟨rfl, b1⟩
  go_wp2_with fail
  refine (q1.out _).mono ?_
  rintro e w2 ⟨rfl, b2⟩
  have B2 := Lib.hid (b1.trans (b2.mono b1.size))
  clear b1 b2
  go_wp2_with fail
  refine (p2.out _).mono ?_
  rintro e w3 ⟨rfl, b3⟩
  go_wp2_with fail
  refine (q2.out _).mono ?_
  rintro e w4 ⟨rfl, b4⟩
  have B4 := Lib.hid (B2.out.trans ((b3.trans (b4.mono b3.size)).mono B2.out.size))
  clear b3 b4 B2
  go_wp2_with fail
  refine (p3.out _).mono ?_
  rintro e w5 ⟨rfl, b5⟩
  go_wp2_with fail
  refine (q3.out _).mono ?_
  rintro e w6 ⟨rfl, b6⟩
  have B6 := Lib.hid (B4.out.trans ((b5.trans (b6.mono b5.size)).mono B4.out.size))
  clear b5 b6 B4
  go_wp2_with fail
  refine (p4.out _).mono ?_
  rintro e w7 ⟨rfl, b7⟩
  go_wp2_with fail
  refine (q4.out _).mono ?_
  rintro e w8 ⟨rfl, b8⟩
  have B8 := Lib.hid (B6.out.trans ((b7.trans (b8.mono b7.size)).mono B6.out.size))
  clear b7 b8 B6
  go_wp2_with fail
  refine (head_c _).mono ?_
  rintro e w9 ⟨rfl, b9⟩
  go_wp2_with fail
  go_ret
  exact ⟨rfl, B8.out.trans (b9.mono B8.out.size)⟩
end Go.Proofs.Ytehofpmkplkaaaa.Bw
