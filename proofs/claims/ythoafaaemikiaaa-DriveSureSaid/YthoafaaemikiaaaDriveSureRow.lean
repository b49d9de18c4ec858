/- DriveSure returns true for every input, and leaves its input as it was. No condition beyond the row's own. -/
import Derived.Test.YthoafaaemikiaaaRows
import Derived.Test.YthoafaaemikiaaaDvSure
import Derived.Test.YthoafaaemikiaaaDvOpen
import Derived.WalkKit
import Derived.ProofKit
import Derived.OpenShut
import Derived.ChangeOld
import Derived.Below
import Derived.Deep.DeepHandedRow
import Derived.Lib.LaidTab
import Derived.Lib.SmallJoins
import Derived.ShutString
namespace Go.Proofs.Ythoafaaemikiaaa.cDriveSure
open Go.ChangeShapes Go.WideShapes Go.ChangeAt Go.RowKit Go.Joins
open Go.WideMaps Go.WideElems
open Go.ChangeMaps (open_string)

theorem own : ownKnob Try.prog.godebug = none := by kernel_rfl
theorem laidOut : laidOutB Try.prog = true := by kernel_rfl
theorem cellsOf33 : Try.prog.cellsOf 33 = 3 := by kernel_rfl

theorem sure_row (a1 : Option Addr) (cap1 : Nat) (la : List Dv.Ac) (a2 : Option Addr) (cap2 : Nat) (lm : List Dv.Ac) (x y z : Int) (w : World) (h1 : Dv.Acs w a1 la) (h2 : Dv.Acs w a2 lm) (l1 : la.length ≤ maxLen) (l2 : lm.length ≤ maxLen) (f1 : ∀ x ∈ la, x.Fits) (f2 : ∀ x ∈ lm, x.Fits)
    (bx : 0 ≤ x ∧ x ≤ 18446744073709551615) (bY : -9223372036854775808 ≤ y ∧ y ≤ 9223372036854775807) (bz : -9223372036854775808 ≤ z ∧ z ≤ 9223372036854775807) :
    Calls Try.prog 4 #[.slice a1 la.length cap1, .slice a2 lm.length cap2, .agg #[.int .u64 x, .int .i64 y, .int .i64 z]] w fun e w' => e = .returned (.bool true) ∧ Below w.heap.size w w' := by
  obtain ⟨k, rfl⟩ := Int.eq_ofNat_of_zero_le bx.1
  exact Dv.sure_law a1 cap1 la a2 cap2 lm ⟨k, y, z⟩ w h1 h2 l1 l2 f1 f2 ⟨by show k ≤ _; omega, bY, bz⟩

set_option maxRecDepth 100000 in
theorem contract (H : Type) (enc : TypeId × Value → H) (W : World) (base : Nat) (args : Array Value) (ds gs : List (DataW H)) (before : List MemPlace)
    (hval : ∀ (j : Nat) t v, Try.f4.params[j]? = some t → args[j]? = some v → Value.okWide Try.prog W .any base t v)
    (hW : DataW.Whole enc Try.prog Try.f4.params.toList Rows.driveSureSpec.vars false W args.toList ds gs before) :
    Calls Try.prog 4 args W fun e W' => ∃ v, e = .returned v ∧ Rows.driveSureSpec.post enc Try.prog Try.f4 false true false false W args v W' := by
  have hW' := hW
  obtain ⟨p, q, hA0, hV, rfl, hfz, hnd⟩ := hW
  have hA : DataW.TrodAll enc Try.prog W 0 (fun _ => true) true Try.f4.params.toList args.toList ds p := hA0
  rw [Try.params4] at hA hval
  obtain ⟨v0, vs0, d0, ds0, p0, q0, hargs, rfl, rfl, h0, r0⟩ := trodAll_cons hA
  obtain ⟨v1, vs1, d1, ds1, p1, q1, rfl, rfl, rfl, h1, r1⟩ := trodAll_cons r0
  obtain ⟨v2, vs2, d2, ds2, p2, q2, rfl, rfl, rfl, h2, r2⟩ := trodAll_cons r1
  obtain ⟨rfl, rfl, rfl⟩ := trodAll_nil r2
  obtain rfl : args = #[v0, v1, v2] := by cases args; simp_all
  obtain ⟨rfl, rfl⟩ := trodVars_none hV
  have k0 := h0
  have lt0 : ∀ x ∈ p0, x.block < W.heap.size := by obtain ⟨m, hm⟩ := k0; exact DataW.trod_lt m _ _ _ hm
  have k1 := h1
  have lt1 : ∀ x ∈ p1, x.block < W.heap.size := by obtain ⟨m, hm⟩ := k1; exact DataW.trod_lt m _ _ _ hm
  have k2 := h2
  have lt2 : ∀ x ∈ p2, x.block < W.heap.size := by obtain ⟨m, hm⟩ := k2; exact DataW.trod_lt m _ _ _ hm
  obtain ⟨a0, cap0, l0, ev0, st0, ll0, ok0⟩ : ∃ a cap L, v0 = .slice a (List.length L) cap ∧ Dv.Acs W a L ∧ L.length ≤ maxLen ∧ ∀ x ∈ L, Dv.Ac.Fits x := by
    obtain ⟨aa0, len0, cc0, rfl⟩ := okWide_slice Try.underlying22 (hval 0 22 v0 rfl rfl)
    obtain ⟨fuel, hf⟩ := h0
    exact Dv.open_acts Try.underlying22 Try.underlying35 Try.underlying33 (by kernel_rfl) rfl (by kernel_rfl) rfl (by kernel_rfl) rfl (by kernel_rfl) rfl (by kernel_rfl) rfl (by kernel_rfl) rfl (by kernel_rfl) rfl (by kernel_rfl) Try.underlying5 Try.underlying3 Try.underlying9 Try.underlying31 Try.underlying3 Try.underlying3 hf
  subst ev0
  obtain ⟨a1, cap1, l1, ev1, st1, ll1, ok1⟩ : ∃ a cap L, v1 = .slice a (List.length L) cap ∧ Dv.Acs W a L ∧ L.length ≤ maxLen ∧ ∀ x ∈ L, Dv.Ac.Fits x := by
    obtain ⟨aa1, len1, cc1, rfl⟩ := okWide_slice Try.underlying22 (hval 1 22 v1 rfl rfl)
    obtain ⟨fuel, hf⟩ := h1
    exact Dv.open_acts Try.underlying22 Try.underlying35 Try.underlying33 (by kernel_rfl) rfl (by kernel_rfl) rfl (by kernel_rfl) rfl (by kernel_rfl) rfl (by kernel_rfl) rfl (by kernel_rfl) rfl (by kernel_rfl) rfl (by kernel_rfl) Try.underlying5 Try.underlying3 Try.underlying9 Try.underlying31 Try.underlying3 Try.underlying3 hf
  subst ev1
  obtain ⟨c2_0, c2_1, c2_2, y2_0, y2_1, y2_2, m2, rfl, e2, _, hy2_0, hy2_1, hy2_2⟩ := open_agg3 Try.underlying33 (by kernel_rfl) cellsOf33 (hval 2 33 v2 rfl rfl) h2
  obtain ⟨x2_0, e2_0, _, wx2_0⟩ := DataW.trod_int Try.underlying31 hy2_0
  have bx2_0 := bounds_u64 wx2_0
  obtain ⟨x2_1, e2_1, _, wx2_1⟩ := DataW.trod_int Try.underlying3 hy2_1
  have bx2_1 := bounds_i64 wx2_1
  obtain ⟨x2_2, e2_2, _, wx2_2⟩ := DataW.trod_int Try.underlying3 hy2_2
  have bx2_2 := bounds_i64 wx2_2
  simp at e2_0 e2_1 e2_2
  subst e2_0 e2_1 e2_2
  clear hA0
  refine (sure_row a0 cap0 l0 a1 cap1 l1 x2_0 x2_1 x2_2 W st0 st1 ll0 ll1 ok0 ok1 bx2_0 bx2_1 bx2_2).mono fun e W' ⟨he, bel⟩ => ?_
  subst he
  exact ⟨_, rfl, _, _, _, [], _, [], hW', trodAll_mk1 (shut_bool Try.underlying4 _), (trodAll_cons_mk (Below.trod laidOut (by kernel_rfl) (of_decide_eq_true (by kernel_rfl)) k0 bel lt0) (trodAll_cons_mk (Below.trod laidOut (by kernel_rfl) (of_decide_eq_true (by kernel_rfl)) k1 bel lt1) (trodAll_cons_mk (Below.trod laidOut (by kernel_rfl) (of_decide_eq_true (by kernel_rfl)) k2 bel lt2) (trodAll_mk0)))), rfl, bel.frame _, fun h => by cases h⟩

set_option maxRecDepth 100000 in
theorem lifted (os : Os) (started : os.Started) (H : Type) (enc : TypeId × Value → H) :
    ReturnsInHanded {} Try.checked os 4 .any (Rows.driveSureSpec.pre6 enc Try.prog Try.f4 Rows.driveSureRow.domain false) (Rows.driveSureSpec.post enc Try.prog Try.f4 false true false false) := by
  refine returnsInHanded_of_change (C := Try.checked) own started (by kernel_rfl) Try.func4
    (ChangeSpec.witness6 (enc := enc) (C := Try.checked) false ⟨#[], #[.slice none 0 0, .slice none 0 0, .agg #[.int .u64 0, .int .i64 0, .int .i64 0]], []⟩ 8 (by kernel_rfl) (by kernel_rfl) (by kernel_rfl) (by kernel_rfl)) ?_
  intro W base args ds gs before hval hW _ _
  exact contract H enc W base args ds gs before hval hW

theorem said : Rows.DriveSureSaid :=
  OpenClaim.holds_of_wide 4 Try.f4 rfl rfl rfl rfl rfl rfl rfl ⟨rfl, rfl, rfl, rfl, rfl⟩ rfl rfl rfl rfl rfl (by kernel_rfl) Try.func4 (by kernel_rfl)
    (of_decide_eq_true (by kernel_rfl)) (by unfold Func.isWrapper; first | (rw [if_pos (by decide +kernel)]; kernel_rfl) | (rw [if_neg (by decide +kernel)]; exact ⟨rfl, rfl⟩))
    (fun os started H enc _ => lifted os started H enc)
end Go.Proofs.Ythoafaaemikiaaa.cDriveSure
