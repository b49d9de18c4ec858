/- Package chart: set, of a code that is there. -/
import Derived.Test.YtialclecoamobaaChGet
import Derived.StillTailTactics
import Derived.Deep.DeepCutAuto
namespace Go.Proofs.Ytialclecoamobaa.Ch
open Go Go.RowKit Ck Go.Maps
section
variable {w : World} {c bm n : Nat} {tv : Value} {M : Int → Option Acc} {K : List Int}
def SetRes (c bm n : Nat) (tv : Value) (M : Int → Option Acc) (K : List Int) (k : Int) (x : Acc) (w : World) (e : Ending) (w' : World) : Prop :=
  e = .returned (.tuple #[]) ∧ ∃ (tv' : Value) (K' : List Int), At w' c bm tv' (n + 1) (upd M k x) K' ∧ K'.length ≤ K.length + 1 ∧ Keeps (Bs c bm tv) w w' ∧ ∀ j, Bs c bm tv' j → Bs c bm tv j ∨ w.heap.size ≤ j
set_option maxRecDepth 100000 in
set_option maxHeartbeats 1600000 in
theorem set_old (h : At w c bm tv n M K) (k : Int) (x : Acc) (hk : I64 k) (hn : n < 1000000) (hM : (M k).isSome = true) : Calls Try.prog 28 #[.pointer (some ⟨c, 0, none⟩), .int .i64 k, x.val] w (SetRes c bm n tv M K k x w) := by
  have H := Lib.hid h
  have hkey := key_of hk
  have HM := Lib.hid hM
  obtain ⟨D, h1, h2⟩ := h.mp
  have hown := Lib.hid h1
  have HA := Lib.hid h2
  obtain ⟨y, hy⟩ : ∃ y, y = (M k).getD Acc.zero := ⟨_, rfl⟩
  have HX : Hid (∀ v ps, accR v = some (D.atKey (.int .i64 k) Acc.zero.dat, ps) → v = y.val) := fun v ps hv => by
    rw [h2.at', ← hy] at hv
    exact accR_inv hv
  have HQ : Hid (Maps.has D (.int .i64 k) = true) := by show _ = _; rw [h2.has, hM]
  have c0 : w.cell? ⟨c, 0, none⟩ = some (.map (some bm)) := h.blk.cell 0
  have hlt := h.blk.lt
  clear h h1 h2 hy hM hk
  obtain ⟨ya, yb, yc, ys, yd, ye, yf⟩ := y
  obtain ⟨xa, xb, xc, xs, xd, xe, xf⟩ := x
  unfold Acc.val at HX ⊢
  simp only at HX ⊢
  go_enter Try.func28, Try.ntmps28
  go_upto_region 9 with (at_lookup; refine wpList_lookup_own_ok _ rfl _ _ TMap rfl TInt TAcc law Try.underlying48 accR (zeroA _) Acc.zero.dat [] (accR_val Acc.zero) bm n D rfl (hown.out.alloc _) _ _ rfl hkey ?_; intro v ps hv; obtain rfl := HX.out v ps hv; rw [HQ.out])
  have HB2 : Hid (Below w.heap.size w ((w.alloc (.cells #[.int .i64 xa, .int .i64 xb, .int .u8 xc, .string xs, .bool xd, .int .i64 xe, .int .i64 xf] TAcc)).alloc (.cells #[.int .i64 ya, .int .i64 yb, .int .u8 yc, .string ys, .bool yd, .int .i64 ye, .int .i64 yf] TAcc))) := ((Below.refl _ w).alloc (Nat.le_refl _) _).alloc (by simp) _
  have RX : Hid (Rw ((w.alloc (.cells #[.int .i64 xa, .int .i64 xb, .int .u8 xc, .string xs, .bool xd, .int .i64 xe, .int .i64 xf] TAcc)).alloc (.cells #[.int .i64 ya, .int .i64 yb, .int .u8 yc, .string ys, .bool yd, .int .i64 ye, .int .i64 yf] TAcc)) w.heap.size TAcc [.int .i64 xa, .int .i64 xb, .int .u8 xc, .string xs, .bool xd, .int .i64 xe, .int .i64 xf]) := (Rw.new w [.int .i64 xa, .int .i64 xb, .int .u8 xc, .string xs, .bool xd, .int .i64 xe, .int .i64 xf] TAcc).later ((Below.refl _ _).alloc (Nat.le_refl _) _)
  have H2 := Lib.hid (H.out.later HB2.out)
  have hown2 : Hid (((w.alloc (.cells #[.int .i64 xa, .int .i64 xb, .int .u8 xc, .string xs, .bool xd, .int .i64 xe, .int .i64 xf] TAcc)).alloc (.cells #[.int .i64 ya, .int .i64 yb, .int .u8 yc, .string ys, .bool yd, .int .i64 ye, .int .i64 yf] TAcc)).ownsMap Try.prog TInt accR bm n D) := (hown.out.alloc _).alloc _
  obtain ⟨D2, hD2⟩ : ∃ D2, D2 = D := ⟨_, rfl⟩
  rw [← hD2] at hown2
  clear c0 hlt
  generalize ((w.alloc (.cells #[.int .i64 xa, .int .i64 xb, .int .u8 xc, .string xs, .bool xd, .int .i64 xe, .int .i64 xf] TAcc)).alloc (.cells #[.int .i64 ya, .int .i64 yb, .int .u8 yc, .string ys, .bool yd, .int .i64 ye, .int .i64 yf] TAcc)) = W2 at HB2 RX H2 hown2 ⊢
  have d0 : W2.cell? ⟨w.heap.size, 0, none⟩ = some (.int .i64 xa) := RX.out.cell 0
  have d1 : W2.cell? ⟨w.heap.size, 1, none⟩ = some (.int .i64 xb) := RX.out.cell 1
  have d2 : W2.cell? ⟨w.heap.size, 2, none⟩ = some (.int .u8 xc) := RX.out.cell 2
  have d3 : W2.cell? ⟨w.heap.size, 3, none⟩ = some (.string xs) := RX.out.cell 3
  have d4 : W2.cell? ⟨w.heap.size, 4, none⟩ = some (.bool xd) := RX.out.cell 4
  have d5 : W2.cell? ⟨w.heap.size, 5, none⟩ = some (.int .i64 xe) := RX.out.cell 5
  have d6 : W2.cell? ⟨w.heap.size, 6, none⟩ = some (.int .i64 xf) := RX.out.cell 6
  have e0 : W2.cell? ⟨c, 0, none⟩ = some (.map (some bm)) := H2.out.blk.cell 0
  go_still_tail 6, (by kernel_rfl)
  change wpList _ _ _ _ _ W2.drew
  clear d0 d1 d2 d3 d4 d5 d6 e0
  go_wp2_with (at_mapUpdate; refine wpList_mapUpdate_in _ rfl _ _ _ TMap rfl TInt TAcc law Try.underlying48 accR bm n D2 rfl (hown2.out.drew) (by unfold maxLen; omega) _ _ _ rfl rfl hkey (Acc.dat ⟨xa, xb, xc, xs, xd, xe, xf⟩) [] rfl ?_; intro w1 hown1 hturn1)
  refine bodyPost_ret (results_none rfl _ _ _) rfl ?_
  have hg := hturn1.grown
  have HG : Keeps (Bs c bm tv) W2 w1 := ((Keeps.refl (Bs c bm tv) W2).drew).grown hg fun j hj => by cases hj; exact .inl (.inr (.inl rfl))
  obtain ⟨n1, n2, n3⟩ := H2.out.ne
  have KB : Keeps (fun j => j = bm) W2 w1 := ((Keeps.refl (fun j => j = bm) W2).drew).grown hg fun j hj => by cases hj; exact .inl rfl
  refine ⟨rfl, tv, K, ⟨H2.out.blk.keeps KB n1, ⟨_, hown1, ?_⟩, own_keeps H2.out.own KB fun j hj e => n3 (e ▸ hj), H.out.ks.old HM.out _⟩, Nat.le_succ _, (Keeps.of _ HB2.out).then HG fun j hj => .inl hj, fun j hj => .inl hj⟩
  rw [hD2]
  exact HA.out.put k ⟨xa, xb, xc, xs, xd, xe, xf⟩
end
end Go.Proofs.Ytialclecoamobaa.Ch
