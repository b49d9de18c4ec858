/- '==' on two arrays of five integers. -/
import Derived.WalkKit
namespace Go.Proofs.YtaidijbjpogpeaaDoor
theorem run_eqlA {P : Program} (w : World) (d n : Nat) (t e : TypeId) (ht : P.underlying t = some (.array n e)) (he : P.underlying e = some (.int .i64)) (hsz : ∀ w, (sizeOf e).run P w = .ok 1 w)
    (A B : Array Value) (x y : Nat → Int) (hA : ∀ i, i < n → A[i]? = some (.int .i64 (x i))) (hB : ∀ i, i < n → B[i]? = some (.int .i64 (y i))) :
    (Op.equalIn (d + 2) t (.agg A) (.agg B)).run P w = .ok ((List.range' 0 n 1).all fun i => x i == y i) w := by
  rw [Op.equalIn]
  simp only [Sem.run_bind, run_underlying ht, Result.andThen_ok, hsz, Std.Legacy.Range.forIn_eq_forIn_range', Std.Legacy.Range.size, Nat.sub_zero, Nat.add_sub_cancel, Nat.div_one]
  have hl : ∀ i ∈ List.range' 0 n 1, i < n := fun i hi => by simpa using (List.mem_range'_1.1 hi).2
  revert hl
  generalize List.range' 0 n 1 = l
  intro hl
  induction l with
  | nil => simp
  | cons i l ih =>
    have hi : i < n := hl i (by simp)
    have pA : (part e A (i * 1)).run P w = .ok (.int .i64 (x i)) w := by simp [part, isAgg, run_underlying he, hA i hi]
    have pB : (part e B (i * 1)).run P w = .ok (.int .i64 (y i)) w := by simp [part, isAgg, run_underlying he, hB i hi]
    have pE := run_equalIn_int (P := P) w d e .i64 .i64 (x i) (y i) he
    simp only [List.forIn_cons, Sem.run_bind, pA, pB, pE, Result.andThen_ok, List.all_cons]
    cases x i == y i with
    | false => simp
    | true =>
      simp only [Bool.not_true, Bool.false_eq_true, if_false, Sem.run_pure, Result.andThen_ok, Bool.true_and]
      exact ih fun j hj => hl j (by simp [hj])
theorem run_eql5 {P : Program} (w : World) (t e : TypeId) (ht : P.underlying t = some (.array 5 e)) (he : P.underlying e = some (.int .i64)) (hsz : ∀ w, (sizeOf e).run P w = .ok 1 w)
    (a0 a1 a2 a3 a4 b0 b1 b2 b3 b4 : Int) :
    (binOp .eql t (.agg #[.int .i64 a0, .int .i64 a1, .int .i64 a2, .int .i64 a3, .int .i64 a4]) (.agg #[.int .i64 b0, .int .i64 b1, .int .i64 b2, .int .i64 b3, .int .i64 b4])).run P w =
      .ok (.bool ((a0 == b0) && ((a1 == b1) && ((a2 == b2) && ((a3 == b3) && (a4 == b4)))))) w := by
  have key := run_eqlA w 9998 5 t e ht he hsz #[.int .i64 a0, .int .i64 a1, .int .i64 a2, .int .i64 a3, .int .i64 a4] #[.int .i64 b0, .int .i64 b1, .int .i64 b2, .int .i64 b3, .int .i64 b4]
    (fun i => [a0, a1, a2, a3, a4].getD i 0) (fun i => [b0, b1, b2, b3, b4].getD i 0)
    (fun i hi => by match i, hi with | 0, _ | 1, _ | 2, _ | 3, _ | 4, _ => rfl) (fun i hi => by match i, hi with | 0, _ | 1, _ | 2, _ | 3, _ | 4, _ => rfl)
  rw [run_eql_struct, key]
  simp [List.range']
end Go.Proofs.YtaidijbjpogpeaaDoor
