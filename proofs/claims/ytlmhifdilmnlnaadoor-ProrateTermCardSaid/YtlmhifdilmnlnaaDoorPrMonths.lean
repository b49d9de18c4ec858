/- Package prorate: Months. -/
import Derived.Test.YtlmhifdilmnlnaaDoorPrTouch
import Derived.Test.YtlmhifdilmnlnaaDoorRfColl
namespace Go.Proofs.YtlmhifdilmnlnaaDoor.Pr
open Go.RowKit Go.Shelf Rf Cw
attribute [local go_sem] Oper.semAt_some
def cellsL (L : List (Int × Int)) : List Value := L.flatMap fun y => [.int .i64 y.1, .int .i64 y.2]
theorem cellsL_snoc (L : List (Int × Int)) (y : Int × Int) : cellsL (L ++ [y]) = cellsL L ++ [.int .i64 y.1, .int .i64 y.2] := by simp [cellsL]
theorem infoShare : (Tryd.prog.info? 51).map (fun i => (i.zero, i.size, i.bytes)) = some (some (.agg #[.int .i64 0, .int .i64 0]), 2, 16) := by kernel_rfl
theorem all_is (a b n : Int) (z : Bool) (w : World) (h : hasB a b n = z) :
    Calls Tryd.prog 36 #[.func (.func 37) #[.agg #[.int .i64 a, .int .i64 b]] #[], .slice (some ⟨w.heap.size, 0, none⟩) 1 1] (w.alloc (.cells #[.int .i64 n] 3)) fun e w' => e = .returned (.bool z) ∧ Below w.heap.size w w' := h ▸ all_new a b n w
set_option maxRecDepth 100000 in
set_option maxHeartbeats 2000000 in
theorem months_ok (k f x : Int) (w : World) (hw : Tab w) (hin : In k f) (hx : f < x) (hx2 : x ≤ 3652060) (n : Nat) (hn : x - f ≤ n) (L : List (Int × Int)) (hL : tm n k f x = L) :
    Calls Tryd.prog 21 #[.int .i64 f, .int .i64 x] w fun e w' => ∃ g cap, e = .returned (.tuple #[.slice (some ⟨g, 0, none⟩) L.length cap, .int .i64 0]) ∧ w'.ownsRow w.heap.size 51 2 (.slice (some ⟨g, 0, none⟩) L.length cap) L.length (cellsL L) ∧ Below w.heap.size w w' := by
  have hd := hin.day
  have K1 := Lib.hid (fun w => all_is 1 3652059 f true w (has_yes hd.1 hd.2))
  have K2 := Lib.hid (fun w => all_is (f + 1) 3652060 x true w (has_yes (by omega) hx2))
  have hmf := mk_fn
  refine (callsIn_wide (n := 4)).1 ?_
  refine callsIn_of_wp_marks Tryd.func21 rfl trivial ?_ rfl
  simp only [Tryd.ntmps21, List.size_toArray, List.length_cons, List.length_nil, Nat.reduceAdd, Nat.reduceSub, Array.replicate_succ, Array.replicate_zero, List.push_toArray, List.append_toArray, List.nil_append, List.cons_append]
  gi_wp2_with fail
  refine ⟨trivial, (callsIn_wide.2 (K1.out _)).mono ?_⟩
  rintro e w1 ⟨rfl, b1⟩
  gi_wp2_with fail
  refine ⟨trivial, (callsIn_wide.2 (K2.out _)).mono ?_⟩
  rintro e w2 ⟨rfl, b2⟩
  have B2 := Lib.hid (then_below b1 b2)
  clear b1 b2
  gi_wp2_with fail
  refine ⟨trivial, (callsIn_wide.2 (touched_c _ _ _)).mono ?_⟩
  rintro e w3 ⟨rfl, rfl⟩
  gi_wp2_with fail
  obtain ⟨d, hd2⟩ : ∃ d, w2.heap.size = d := ⟨_, rfl⟩
  have HD := Lib.hid hd2
  have hsz : w.heap.size ≤ d := hd2 ▸ B2.out.size
  have h0 := tab_pos hw
  obtain ⟨W3, hW3⟩ : ∃ W3, ((w2.alloc (.cells #[.slice none 0 0] 38)).alloc (.cells #[.int .i64 f] 3)).alloc (.cells #[.int .i64 x] 3) = W3 := ⟨_, rfl⟩
  have hz3 : W3.heap.size = d + 3 := by rw [← hW3, ← hd2]; simp
  have hl3 : Boxed W3 d 38 (.slice none 0 0) := by rw [← hW3, ← hd2]; exact ((Boxed.new w2 _ _).alloc _).alloc _
  have hb3 : Below w.heap.size w W3 := by rw [← hW3]; exact ((B2.out.alloc B2.out.size _).alloc (by simp; omega) _).alloc (by simp; omega) _
  have hx3 : Bx (d + 1) f x W3 := by
    rw [← hW3, ← hd2]
    exact ⟨by simp [go_sem], by simp [go_sem], by simp [go_sem], tab_later hw (by rw [hW3]; exact hb3)⟩
  rw [hW3, hd2]
  clear hW3 hd2 K1 K2
  have hlen := tm_len n k f x hin hx hx2 hn
  have hrest : Rest L [] f x := Or.inr ⟨n, k, hx, hin, hn, by rw [hL]; rfl⟩
  rw [hL] at hlen
  clear hL
  obtain ⟨i0, hi, hz0, hz1, hz2⟩ := info_parts infoShare
  refine law (gf := 63) (lb := #[.pointer (some ⟨d + 1, 0, none⟩), .pointer (some ⟨d + 1 + 1, 0, none⟩)]) rfl (enters_of Tryd.func63 (by kernel_rfl) rfl)
    (touched_yields L f x d (d + 1) W3 (by omega) (by omega) (by omega) hx3 hx2 hrest) (Below.refl _ _)
    (fun _ _ _ p q => fun j hj => (q j hj).trans (p j hj)) (fun W l o o' hl ho hc => fun j hj => World.putObj_heap_other (by omega)) (fun _ => rfl)
    (fun pre W => Coll w d (d + 3) 38 51 2 pre.length (cellsL pre) W) (fun _ _ _ => False)
    (Coll.bears _ _ (by omega)) (fun _ _ _ _ _ _ _ _ _ h => h) (Coll.stands _ _ (fun b hb => by subst hb; omega)) (fun _ => ⟨fun _ _ _ h _ => h, fun _ _ _ _ _ h => h⟩) (Coll.start hl3 hb3)
    (fun y => { tmps := #[.int .i64 f, .int .i64 x, undef, undef, .slice none 0 0, .int .i64 0, .pointer (some { block := d, off := 0 }), .int .i64 y.1, .int .i64 y.2, .agg #[.int .i64 1, .int .i64 3652059], .func (Fn.func 37) #[.agg #[.int .i64 1, .int .i64 3652059]] #[], .int .i64 f, .slice (some { block := w.heap.size, off := 0 }) 1 1, .bool true, .bool false, .bool false, .int .i64 f, .int .i64 (f + 1), .agg #[.int .i64 (f + 1), .int .i64 3652060], .func (Fn.func 37) #[.agg #[.int .i64 (f + 1), .int .i64 3652060]] #[], .int .i64 x, .slice (some { block := w1.heap.size, off := 0 }) 1 1, .bool true, .bool false, .bool false, .int .i64 f, .int .i64 x, .func (Fn.func 63) #[]   #[.pointer (some { block := d + 1, off := 0 }),     .pointer (some { block := d + 1 + 1, off := 0 })], .int .i64 y.1, .int .i64 y.2, undef, undef, undef, undef, undef, undef, undef], defers := [] }) ?assign ?body ?done ?stop
  case assign =>
    intro l y W K hK
    gi_wp2
    exact hK
  case body =>
    rintro l pre y W ⟨⟨v, hv, hrow⟩, hB⟩ ⟨r, hr⟩ hlt
    have hpl : pre.length + 1 ≤ L.length := by rw [hr]; simp
    have hc0 := hv.cell
    have hf0 := hv.frozen
    have HR := Lib.hid hr
    clear hr
    gi_wp2_with (gi_at_builtin; refine wpListIn_append_own _ rfl _ _ 38 rfl (d + 3) 51 i0 (.agg #[.int .i64 0, .int .i64 0]) 2 16 Tryd.underlying38 hi hz0 hz1 hz2 rfl (by decide) _ _ _ rfl (hrow.alloc _) ⟨W.heap.size, 0, none⟩ 1 1 [.int .i64 y.1, .int .i64 y.2] rfl rfl (two_new _ _ _ _) (by simp [Value.oneCell']) (by unfold maxLen; omega) (by omega) (by simp; omega) ?_; intro v' w1' hown' hgrow _; obtain ⟨g', cap', rfl⟩ := ownsRow_succ hown'; obtain ⟨hv1, hv2, hr2, hk2, hj2, hb2⟩ := push hv (by omega) (by omega) hrow hown' hgrow; have hc1 := hv1.cell; have hf1 := hv1.frozen)
    exact ⟨hk2.from _, fun j hj => hj2 j (by omega) (by omega), ⟨⟨_, hv2, by rw [cellsL_snoc]; simpa using hr2⟩, hB.trans (hb2.mono hsz)⟩⟩
  case done =>
    rintro ys W rfl ⟨⟨v, hv, hrow⟩, hB⟩ hK
    obtain ⟨g, cap, rfl⟩ := own_form hrow hlen.1
    have hc0 := hv.cell
    gi_wp2
    refine ⟨by simp, .inl ⟨_, _, rfl, run_takeDeferred hK, ?_⟩⟩
    exact ⟨_, results_tmp2 rfl _ _ _, g, cap, rfl, own_lower (ownsRow_putObj hrow _ hK rfl) (by omega), hB.grown (grownBy_putObj' _ _ _) hB.size (fun j e => by cases e; omega)⟩
  case stop =>
    rintro c pre W _ h _
    exact h.elim
end Go.Proofs.YtlmhifdilmnlnaaDoor.Pr
