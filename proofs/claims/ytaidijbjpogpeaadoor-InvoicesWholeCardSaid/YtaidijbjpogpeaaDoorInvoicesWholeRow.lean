/- InvoicesWhole returns true for every input, and leaves its input as it was. No condition beyond the row's own. -/
import Derived.Test.YtaidijbjpogpeaaDoorCards
import Derived.Test.YtaidijbjpogpeaaDoorTie
import Derived.Test.YtaidijbjpogpeaaDoorInWhole
import Derived.Test.YtaidijbjpogpeaaDoorInOpen
import Derived.WalkKit
import Derived.ProofKit
import Derived.OpenShut
import Derived.ChangeOld
import Derived.Below
import Derived.Deep.DeepHandedRow
import Derived.Lib.LaidTab
import Derived.Lib.SmallJoins
import Derived.ShutString
namespace Go.Proofs.YtaidijbjpogpeaaDoor.cInvoicesWhole
open Go.ChangeShapes Go.WideShapes Go.ChangeAt Go.RowKit Go.Joins
open Go.WideMaps Go.WideElems
open Go.ChangeMaps (open_string)

theorem own : ownKnob Tryd.prog.godebug = none := by kernel_rfl
theorem laidOut : laidOutB Tryd.prog = true := by kernel_rfl
theorem cellsOf24 : Tryd.prog.cellsOf 24 = 11 := by kernel_rfl
theorem gTab : Tryd.prog.globalNamed "quittance/invoices.bounds" = some 0 := by kernel_rfl
theorem gTabType : (Tryd.prog.globals[0]?).map (·.type) = some 65 := by kernel_rfl
theorem cellsA : Tryd.prog.cellsOf 65 = 4 := by kernel_rfl
theorem cellsI : Tryd.prog.cellsOf 3 = 1 := by kernel_rfl
theorem table {W : World} (h : laidMetH Tryd.prog Rows.invoicesWholeRow.laid W) : Lib.TabIs Tryd.prog W "quittance/invoices.bounds" .i64 [0, 30, 60, 90] :=
  Lib.tabIs_of_head (rest := []) gTab gTabType Tryd.underlying65 Tryd.underlying3 cellsI cellsA h
theorem tab_of {W : World} (h : laidMetH Tryd.prog Rows.invoicesWholeRow.laid W) : Inv.Tab W := by
  have t := table h
  have c0 := t.cell gTab 0 (by decide)
  have c1 := t.cell gTab 1 (by decide)
  have c2 := t.cell gTab 2 (by decide)
  have c3 := t.cell gTab 3 (by decide)
  exact ⟨c0, c1, c2, c3, World.block_lt_of_cell? W ⟨0, 0, none⟩ c0⟩

set_option maxRecDepth 100000 in
theorem contract (H : Type) (enc : TypeId × Value → H) (W : World) (base : Nat) (args : Array Value) (ds gs : List (DataW H)) (before : List MemPlace)
    (hval : ∀ (j : Nat) t v, Tryd.f5.params[j]? = some t → args[j]? = some v → Value.okWide Tryd.prog W .any base t v)
    (hW : DataW.Whole enc Tryd.prog Tryd.f5.params.toList Rows.invoicesWholeSpec.vars false W args.toList ds gs before) (hL : laidMetH Tryd.prog Rows.invoicesWholeRow.laid W) :
    Calls Tryd.prog 5 args W fun e W' => ∃ v, e = .returned v ∧ Rows.invoicesWholeSpec.post enc Tryd.prog Tryd.f5 false true false false W args v W' := by
  have hW' := hW
  obtain ⟨p, q, hA0, hV, rfl, hfz, hnd⟩ := hW
  have hA : DataW.TrodAll enc Tryd.prog W 0 (fun _ => true) true Tryd.f5.params.toList args.toList ds p := hA0
  rw [Tryd.params5] at hA hval
  obtain ⟨v0, vs0, d0, ds0, p0, q0, hargs, rfl, rfl, h0, r0⟩ := trodAll_cons hA
  obtain ⟨v1, vs1, d1, ds1, p1, q1, rfl, rfl, rfl, h1, r1⟩ := trodAll_cons r0
  obtain ⟨rfl, rfl, rfl⟩ := trodAll_nil r1
  obtain rfl : args = #[v0, v1] := by cases args; simp_all
  obtain ⟨rfl, rfl⟩ := trodVars_none hV
  have k0 := h0
  have lt0 : ∀ x ∈ p0, x.block < W.heap.size := by obtain ⟨m, hm⟩ := k0; exact DataW.trod_lt m _ _ _ hm
  have k1 := h1
  have lt1 : ∀ x ∈ p1, x.block < W.heap.size := by obtain ⟨m, hm⟩ := k1; exact DataW.trod_lt m _ _ _ hm
  obtain ⟨c0_0, c0_1, c0_2, c0_3, c0_4, c0_5, c0_6, c0_7, c0_8, c0_9, c0_10, y0_0, y0_1, y0_2, y0_3, y0_4, y0_5, y0_6, y0_7, y0_8, y0_9, y0_10, m0, rfl, e0, hy0_0, hy0_1, hy0_2, hy0_3, hy0_4, hy0_5, hy0_6, hy0_7, hy0_8, hy0_9, hy0_10⟩ := Inv.open_agg11 Tryd.underlying24 (by kernel_rfl) cellsOf24 (hval 0 24 v0 rfl rfl) h0
  obtain ⟨x0_0, e0_0, _, wx0_0⟩ := DataW.trod_int Tryd.underlying22 hy0_0
  have bx0_0 := bounds_u64 wx0_0
  obtain ⟨x0_1, e0_1, _, wx0_1⟩ := DataW.trod_int Tryd.underlying22 hy0_1
  have bx0_1 := bounds_u64 wx0_1
  obtain ⟨x0_2, e0_2, _, wx0_2⟩ := DataW.trod_int Tryd.underlying22 hy0_2
  have bx0_2 := bounds_u64 wx0_2
  obtain ⟨x0_3, e0_3, _, wx0_3⟩ := DataW.trod_int Tryd.underlying3 hy0_3
  have bx0_3 := bounds_i64 wx0_3
  obtain ⟨x0_4, e0_4, _, wx0_4⟩ := DataW.trod_int Tryd.underlying3 hy0_4
  have bx0_4 := bounds_i64 wx0_4
  obtain ⟨x0_5, e0_5, _, wx0_5⟩ := DataW.trod_int Tryd.underlying3 hy0_5
  have bx0_5 := bounds_i64 wx0_5
  obtain ⟨x0_6, e0_6, _, wx0_6⟩ := DataW.trod_int Tryd.underlying3 hy0_6
  have bx0_6 := bounds_i64 wx0_6
  obtain ⟨x0_7, e0_7, _, wx0_7⟩ := DataW.trod_int Tryd.underlying2 hy0_7
  have bx0_7 := bounds_i64 wx0_7
  obtain ⟨x0_8, e0_8, _, wx0_8⟩ := DataW.trod_int Tryd.underlying2 hy0_8
  have bx0_8 := bounds_i64 wx0_8
  obtain ⟨x0_9, e0_9, _, wx0_9⟩ := DataW.trod_int Tryd.underlying2 hy0_9
  have bx0_9 := bounds_i64 wx0_9
  obtain ⟨x0_10, e0_10, _, wx0_10⟩ := DataW.trod_int Tryd.underlying2 hy0_10
  have bx0_10 := bounds_i64 wx0_10
  simp at e0_0 e0_1 e0_2 e0_3 e0_4 e0_5 e0_6 e0_7 e0_8 e0_9 e0_10
  subst e0_0 e0_1 e0_2 e0_3 e0_4 e0_5 e0_6 e0_7 e0_8 e0_9 e0_10
  obtain ⟨a1, cap1, l1, ev1, st1, ll1, ok1⟩ : ∃ a cap L, v1 = .slice a (List.length L) cap ∧ Inv.Acs W a L ∧ L.length ≤ maxLen ∧ ∀ x ∈ L, Inv.Ac.Fits x := by
    obtain ⟨aa1, len1, cc1, rfl⟩ := okWide_slice Tryd.underlying54 (hval 1 54 v1 rfl rfl)
    obtain ⟨fuel, hf⟩ := h1
    exact Inv.open_acs Tryd.underlying54 Tryd.underlying56 (by kernel_rfl) (by kernel_rfl) Tryd.underlying5 Tryd.underlying2 hf
  subst ev1
  clear hA0
  refine (Inv.whole_c ⟨x0_0, x0_1, x0_2, x0_3, x0_4, x0_5, x0_6, x0_7, x0_8, x0_9, x0_10⟩ a1 cap1 l1 W ⟨bx0_0, bx0_1, bx0_2, bx0_3, bx0_4, bx0_5, bx0_6, bx0_7, bx0_8, bx0_9, bx0_10⟩ st1 ll1 ok1 (tab_of hL)).mono fun e W' ⟨he, bel⟩ => ?_
  subst he
  exact ⟨_, rfl, _, _, _, [], _, [], hW', trodAll_mk1 (shut_bool Tryd.underlying4 _), (trodAll_cons_mk (Below.trod laidOut (by kernel_rfl) (of_decide_eq_true (by kernel_rfl)) k0 bel lt0) (trodAll_cons_mk (Below.trod laidOut (by kernel_rfl) (of_decide_eq_true (by kernel_rfl)) k1 bel lt1) (trodAll_mk0))), rfl, bel.frame _, fun h => by cases h⟩

noncomputable def laidWorld (os : Os) : World :=
  { World.holding Tryd.prog os ⟨#[], #[], []⟩ with heap := (World.holding Tryd.prog os ⟨#[], #[], []⟩).heap.modify 0 fun
      | .cells _ t frozen => .cells #[.int .i64 0, .int .i64 30, .int .i64 60, .int .i64 90] t frozen
      | o => o }
theorem laid_met (os : Os) : laidMet Tryd.prog Rows.invoicesWholeRow.laid ((laidWorld os).forCall (fun _ _ => 0) ⟨#[], #[.agg #[.int .u64 0, .int .u64 0, .int .u64 0, .int .i64 0, .int .i64 0, .int .i64 0, .int .i64 0, .int .i64 0, .int .i64 0, .int .i64 0, .int .i64 0], .slice none 0 0], []⟩).memory :=
  laidMet_of_run' 8 (by kernel_rfl) (by kernel_rfl)
theorem reads (os : Os) {H : Type} (enc : TypeId × Value → H) : ∃ places, DataW.whole enc Tryd.prog ((laidWorld os).forCall (fun _ _ => 0) ⟨#[], #[.agg #[.int .u64 0, .int .u64 0, .int .u64 0, .int .i64 0, .int .i64 0, .int .i64 0, .int .i64 0, .int .i64 0, .int .i64 0, .int .i64 0, .int .i64 0], .slice none 0 0], []⟩).memory Tryd.f5.params.toList Rows.invoicesWholeSpec.vars false #[Value.agg #[.int .u64 0, .int .u64 0, .int .u64 0, .int .i64 0, .int .i64 0, .int .i64 0, .int .i64 0, .int .i64 0, .int .i64 0, .int .i64 0, .int .i64 0], Value.slice none 0 0].toList 8 = some ([.agg [.lit (.int .u64 0), .lit (.int .u64 0), .lit (.int .u64 0), .lit (.int .i64 0), .lit (.int .i64 0), .lit (.int .i64 0), .lit (.int .i64 0), .lit (.int .i64 0), .lit (.int .i64 0), .lit (.int .i64 0), .lit (.int .i64 0)], .nil], [], places) :=
  ⟨[], by kernel_rfl⟩

set_option maxRecDepth 100000 in
theorem lifted (os : Os) (started : os.Started) (H : Type) (enc : TypeId × Value → H) (F : Stop.Interp) :
    ReturnsInHanded {} Tryd.checked os 5 .any ((OpenSpec.ofChange Rows.invoicesWholeSpec).preRow enc Tryd.prog Tryd.f5 Rows.invoicesWholeRow.domain false Rows.invoicesWholeRow.laid) (((OpenSpec.ofChange Rows.invoicesWholeSpec).at F).post enc Tryd.prog Tryd.f5 false true false false) := by
  obtain ⟨places, hx⟩ := reads os enc
  refine returnsInHanded_of_row (C := Tryd.checked) (s := OpenSpec.ofChange Rows.invoicesWholeSpec) own started (by kernel_rfl) Tryd.func5
    (witness_row_at (enc := enc) (C := Tryd.checked) false (laidWorld os) #[.agg #[.int .u64 0, .int .u64 0, .int .u64 0, .int .i64 0, .int .i64 0, .int .i64 0, .int .i64 0, .int .i64 0, .int .i64 0, .int .i64 0, .int .i64 0], .slice none 0 0] rfl (by kernel_rfl) (by kernel_rfl) (by kernel_rfl)
      (OpenSpec.preRow_of_cond 8 hx (by kernel_rfl) (fun k hk => by cases hk) (by kernel_rfl) (laid_met os))) ?_
  intro W base args ds gs before hval hW _ _ _ hL _ _
  exact contract H enc W base args ds gs before hval hW hL

theorem said : Rows.InvoicesWholeSaid :=
  OpenClaim.holds_of_cond 5 Tryd.f5 rfl rfl rfl rfl rfl rfl rfl ⟨rfl, rfl, rfl, rfl, rfl⟩ rfl rfl rfl rfl rfl (by kernel_rfl) Tryd.func5 (by kernel_rfl)
    (of_decide_eq_true (by kernel_rfl)) (by unfold Func.isWrapper; first | (rw [if_pos (by decide +kernel)]; kernel_rfl) | (rw [if_neg (by decide +kernel)]; exact ⟨rfl, rfl⟩))
    (fun os started H enc _ F => by rw [OpenClaim.pre_eq_preRow]; exact lifted os started H enc F)

theorem plain (f : FuncId) (fn : Func) (hf : Tryd.pinned.checked.prog.funcNamed "quittance/quittancelaw24.InvoicesWhole" = some f) (hfn : Tryd.pinned.checked.prog.funcs[f]? = some fn) :
    false = Tryd.pinned.checked.prog.looks [] ∧ ∀ (j : Nat) t, fn.params[j]? = some t → Tryd.pinned.checked.prog.wantsStandIn t = false := by
  obtain rfl : f = 5 := Option.some.inj ((show Tryd.prog.funcNamed "quittance/quittancelaw24.InvoicesWhole" = some 5 by kernel_rfl).symm.trans hf) |>.symm
  obtain rfl : fn = Tryd.f5 := (Option.some.inj (Tryd.func5.symm.trans hfn)).symm
  refine ⟨by kernel_rfl, fun j t ht => ?_⟩
  rw [Tryd.params5] at ht
  have hm : t ∈ [24, 54] := by simpa using Array.mem_of_getElem? ht
  have hall : ([24, 54].all fun u => !Tryd.prog.wantsStandIn u) = true := by kernel_rfl
  exact (show Tryd.prog.wantsStandIn t = false by simpa using List.all_eq_true.1 hall t hm)

theorem card : Rows.InvoicesWholeCardSaid :=
  Claim7.holds_tied_plain_at .later [] _ _ _ _ said (fun _ h => by cases h) (by kernel_rfl) (fun _ h => by cases h) invoicesWhole_row_tie rfl ⟨rfl, rfl⟩ (by kernel_rfl) rfl plain (by kernel_rfl)
end Go.Proofs.YtaidijbjpogpeaaDoor.cInvoicesWhole
