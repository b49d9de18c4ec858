/- Joined: ChAt ChGet. -/
import Derived.Test.YtnblilonjpfdnaaRows
import Derived.Test.YtnblilonjpfdnaaJcA
import Derived.Test.YtnblilonjpfdnaaCkKit
section
namespace Go.Proofs.Ytnblilonjpfdnaa.Ch
open Go Go.RowKit Ck Go.Maps
abbrev TCh : TypeId := 88
abbrev TInt : TypeId := 3
abbrev TMap : TypeId := 84
abbrev TAcc : TypeId := 79
theorem law : Keyed Try.prog TInt := int_keyed Try.underlying3
theorem zeroA (w : World) : (zeroValue TAcc).run Try.prog w = .ok Acc.zero.val w := by kernel_rfl
theorem infoInt : (Try.prog.info? TInt).map (fun i => (i.zero, i.size, i.bytes)) = some (some (.int .i64 0), 1, 8) := by kernel_rfl
def I64 (k : Int) : Prop := -9223372036854775808 ≤ k ∧ k ≤ 9223372036854775807
theorem wf_of {k : Int} (h : I64 k) : (Lit.int .i64 k).wf = true := by
  unfold I64 at h
  exact WalkArith.wf_i64 h
theorem key_of {k : Int} (h : I64 k) : keyOf Try.prog TInt (.int .i64 k) = some (.int .i64 k) := keyOf_int_mk Try.underlying3 (wf_of h)
abbrev iv (k : Int) : Value := .int .i64 k
/-- A chart: its box, its map, its codes. -/
structure At (w : World) (c bm : Nat) (tv : Value) (n : Nat) (M : Int → Option Acc) (K : List Int) : Prop where
  blk : Rw w c TCh [.map (some bm), tv]
  mp : ∃ D : DataW Unit, w.ownsMap Try.prog TInt accR bm n D ∧ Ag D M
  own : w.ownsRow 0 TInt 1 tv K.length (K.map iv)
  ks : Ks M K
section
variable {w w' : World} {c bm n : Nat} {tv : Value} {M : Int → Option Acc} {K : List Int}
theorem map_keeps {T : Nat → Prop} {D : DataW Unit} (h : w.ownsMap Try.prog TInt accR bm n D) (k : Keeps T w w') (hT : ¬ T bm) : w'.ownsMap Try.prog TInt accR bm n D := by
  have hlt := h.lt
  obtain ⟨es, clock, hb, r⟩ := h
  exact ⟨es, clock, (k.block bm hlt hT).trans hb, r⟩
/-- Its blocks. -/
def Bs (c bm : Nat) (tv : Value) (j : Nat) : Prop := j = c ∨ j = bm ∨ tv.ownBlock = some j
theorem At.keeps {T : Nat → Prop} (h : At w c bm tv n M K) (k : Keeps T w w') (hT : ∀ j, Bs c bm tv j → ¬ T j) : At w' c bm tv n M K := by
  obtain ⟨D, h1, h2⟩ := h.mp
  exact ⟨h.blk.keeps k (hT c (.inl rfl)), ⟨D, map_keeps h1 k (hT bm (.inr (.inl rfl))), h2⟩, own_keeps h.own k fun j hj => hT j (.inr (.inr hj)), h.ks⟩
theorem At.later (h : At w c bm tv n M K) (k : Below w.heap.size w w') : At w' c bm tv n M K := h.keeps (Keeps.of (fun _ => False) k) fun _ _ h => h
theorem At.lt (h : At w c bm tv n M K) : ∀ j, Bs c bm tv j → j < w.heap.size := by
  obtain ⟨D, h1, h2⟩ := h.mp
  rintro j (rfl | rfl | hj)
  · exact h.blk.lt
  · exact h1.lt
  · exact (h.own.lt j hj).2
theorem At.ne (h : At w c bm tv n M K) : c ≠ bm ∧ tv.ownBlock ≠ some c ∧ tv.ownBlock ≠ some bm := by
  obtain ⟨D, ⟨es, clock, hb, _⟩, _⟩ := h.mp
  refine ⟨fun e => ?_, own_type h.own h.blk (by decide), fun e => ?_⟩
  · have h1 : w.heap[c]? = some (.cells [Value.map (some bm), tv].toArray TCh (0, 0)) := h.blk
    rw [e] at h1
    have := h1.symm.trans hb
    injection this with this
    cases this
  · rcases h.own.2 with ⟨rfl, _⟩ | ⟨g, cap, cur, rfl, _, hg, _⟩
    · cases e
    · injection e with e
      subst e
      have := hg.symm.trans hb
      injection this with this
      cases this
end
end Go.Proofs.Ytnblilonjpfdnaa.Ch
end
section
namespace Go.Proofs.Ytnblilonjpfdnaa.Ch
open Go Go.RowKit Ck Go.Maps
section
variable {w : World} {c bm n : Nat} {tv : Value} {M : Int → Option Acc} {K : List Int}
theorem map_ne (bm : Nat) (w : World) : (binOp .neq TMap (.map (some bm)) (.map none)).run Try.prog w = .ok (.bool true) w := by
  first | kernel_rfl | (simp [binOp, go_sem]; done) | rfl
theorem map_no (w : World) : (binOp .neq TMap (.map none) (.map none)).run Try.prog w = .ok (.bool false) w := by
  first | kernel_rfl | (simp [binOp, go_sem]; done) | rfl
def GetRes (M : Int → Option Acc) (k : Int) (w : World) (e : Ending) (w' : World) : Prop := e = .returned (.tuple #[((M k).getD Acc.zero).val, .bool (M k).isSome]) ∧ Below w.heap.size w w'
set_option maxRecDepth 100000 in
theorem oget_c (h : At w c bm tv n M K) (k : Int) (hk : I64 k) : Calls Try.prog 73 #[.pointer (some ⟨c, 0, none⟩), .int .i64 k] w (GetRes M k w) := by
  obtain ⟨D, h1, h2⟩ := h.mp
  have hown := Lib.hid h1
  have HA := Lib.hid h2
  have HB : Hid (Below w.heap.size w (w.alloc (.cells #[.int .i64 0, .int .i64 0, .int .u8 0, .string ⟨#[]⟩, .bool false, .int .i64 0, .int .i64 0] TAcc))) := (Below.refl _ w).alloc (Nat.le_refl _) _
  have HB2 : Hid (Below w.heap.size w w) := Below.refl _ w
  have c0 : w.cell? ⟨c, 0, none⟩ = some (.map (some bm)) := h.blk.cell 0
  have hlt := h.blk.lt
  have hkey := key_of hk
  have HC : Hid (∀ u, Below w.heap.size w u → u.cell? ⟨c, 0, none⟩ = some (.map (some bm))) := fun u hu => (h.blk.later hu).cell 0
  obtain ⟨x, hx⟩ : ∃ x, x = (M k).getD Acc.zero := ⟨_, rfl⟩
  obtain ⟨q, hq⟩ : ∃ q, q = (M k).isSome := ⟨_, rfl⟩
  have HX : Hid (∀ v ps, accR v = some (D.atKey (.int .i64 k) Acc.zero.dat, ps) → v = x.val) := fun v ps hv => by
    rw [h2.at', ← hx] at hv
    exact accR_inv hv
  have HQ : Hid (Maps.has D (.int .i64 k) = q) := by show _ = _; rw [h2.has, hq]
  unfold GetRes
  rw [← hx, ← hq]
  clear h h1 h2 hx hq
  obtain ⟨xa, xb, xc, xs, xd, xe, xf⟩ := x
  unfold Acc.val at HX ⊢
  simp only at HX ⊢
  go_enter Try.func73, Try.ntmps73
  go_wp2_with (at_lookup; refine wpList_lookup_own_ok _ rfl _ _ TMap rfl TInt TAcc law Try.underlying84 accR (zeroA _) Acc.zero.dat [] (accR_val Acc.zero) bm n D rfl (hown.out.alloc _) _ _ rfl hkey ?_; intro v ps hv; obtain rfl := HX.out v ps hv; rw [HQ.out])
  refine bodyPost_ret (v := .tuple #[.agg #[.int .i64 xa, .int .i64 xb, .int .u8 xc, .string xs, .bool xd, .int .i64 xe, .int .i64 xf], .bool q]) (by simp [results, Try.results73, go_sem]) rfl ?_
  exact ⟨rfl, ((Below.refl _ w).alloc (Nat.le_refl _) _).alloc (by simp) _⟩
set_option maxRecDepth 100000 in
theorem is_c (h : At w c bm tv n M K) : Calls Try.prog 37 #[.pointer (some ⟨c, 0, none⟩)] w fun e w' => e = .returned (.bool true) ∧ w = w' := by
  have c0 : w.cell? ⟨c, 0, none⟩ = some (.map (some bm)) := h.blk.cell 0
  have hne := map_ne bm w
  clear h
  go_enter Try.func37, Try.ntmps37
  go_wp2_with fail
  go_ret
  exact ⟨rfl, rfl⟩
set_option maxRecDepth 100000 in
theorem is_nil : ∀ w, Calls Try.prog 37 #[.pointer none] w fun e w' => e = .returned (.bool false) ∧ w = w' := by
  intro w
  go_enter Try.func37, Try.ntmps37
  go_wp2_with fail
  go_ret
  exact ⟨rfl, rfl⟩
set_option maxRecDepth 100000 in
/-- A chart that nobody made. -/
theorem is_zero (h : Rw w c TCh [.map none, .slice none 0 0]) : Calls Try.prog 37 #[.pointer (some ⟨c, 0, none⟩)] w fun e w' => e = .returned (.bool false) ∧ w = w' := by
  have c0 : w.cell? ⟨c, 0, none⟩ = some (.map none) := h.cell 0
  have hne := map_no w
  clear h
  go_enter Try.func37, Try.ntmps37
  go_wp2_with fail
  go_ret
  exact ⟨rfl, rfl⟩
set_option maxRecDepth 100000 in
theorem get_c (h : At w c bm tv n M K) (k : Int) (hk : I64 k) : Calls Try.prog 38 #[.pointer (some ⟨c, 0, none⟩), .int .i64 k] w (GetRes M k w) := by
  have HB0 : Hid (Below w.heap.size w (w.alloc (.cells #[.int .i64 0, .int .i64 0, .int .u8 0, .string ⟨#[]⟩, .bool false, .int .i64 0, .int .i64 0] TAcc))) := (Below.refl _ w).alloc (Nat.le_refl _) _
  have R0 : Hid (Rw (w.alloc (.cells #[.int .i64 0, .int .i64 0, .int .u8 0, .string ⟨#[]⟩, .bool false, .int .i64 0, .int .i64 0] TAcc)) w.heap.size TAcc [.int .i64 0, .int .i64 0, .int .u8 0, .string ⟨#[]⟩, .bool false, .int .i64 0, .int .i64 0]) := Rw.new w [.int .i64 0, .int .i64 0, .int .u8 0, .string ⟨#[]⟩, .bool false, .int .i64 0, .int .i64 0] TAcc
  have KI := Lib.hid (is_c (h.later HB0.out))
  have KG := Lib.hid (oget_c (h.later HB0.out) k hk)
  unfold GetRes at KG ⊢
  have HINF : Hid ((Try.prog.info? TAcc).map (·.size) = some 7) := by show _ = _; kernel_rfl
  obtain ⟨x, hx⟩ : ∃ x, x = (M k).getD Acc.zero := ⟨_, rfl⟩
  obtain ⟨q, hq⟩ : ∃ q, q = (M k).isSome := ⟨_, rfl⟩
  rw [← hx, ← hq] at KG ⊢
  clear h hx hq hk
  obtain ⟨xa, xb, xc, xs, xd, xe, xf⟩ := x
  unfold Acc.val at KG ⊢
  simp only at KG ⊢
  go_enter Try.func38, Try.ntmps38
  go_wp2_with fail
  generalize w.alloc (.cells #[.int .i64 0, .int .i64 0, .int .u8 0, .string ⟨#[]⟩, .bool false, .int .i64 0, .int .i64 0] TAcc) = W0 at HB0 R0 KI KG ⊢
  refine KI.out.mono ?_
  rintro e w' ⟨rfl, rfl⟩
  go_wp2_with fail
  refine KG.out.mono ?_
  rintro e u ⟨rfl, hb⟩
  have R1 := Lib.hid (R0.out.later hb)
  have HB1 : Hid (Below w.heap.size w u) := HB0.out.trans (hb.mono HB0.out.size)
  have R2 : Hid (Rw (u.setCells w.heap.size 0 #[.int .i64 xa, .int .i64 xb, .int .u8 xc, .string xs, .bool xd, .int .i64 xe, .int .i64 xf].toList) w.heap.size TAcc [.int .i64 xa, .int .i64 xb, .int .u8 xc, .string xs, .bool xd, .int .i64 xe, .int .i64 xf]) := by
    have := R1.out.setCells (cs := [.int .i64 xa, .int .i64 xb, .int .u8 xc, .string xs, .bool xd, .int .i64 xe, .int .i64 xf]) 0 (by simp)
    exact this
  have HB2 : Hid (Below w.heap.size w (u.setCells w.heap.size 0 #[.int .i64 xa, .int .i64 xb, .int .u8 xc, .string xs, .bool xd, .int .i64 xe, .int .i64 xf].toList)) := Keeps.belowT HB1.out ((Keeps.refl (fun j => j = w.heap.size) u).setCells w.heap.size 0 _ (.inl rfl)) (fun j hj => Nat.le_of_eq hj.symm) HB1.out.size
  clear hb R0 KI KG HB0
  go_wp2_with (with_reducible refine wpList_store_mid rfl TAcc _ _ rfl w.heap.size 0 #[.int .i64 xa, .int .i64 xb, .int .u8 xc, .string xs, .bool xd, .int .i64 xe, .int .i64 xf] rfl rfl ?thr ?inf ?one ?_)
  case thr => exact R1.out.there 0 7 (by simp)
  case inf => simpa using HINF.out
  case one => simp [Value.oneCell']
  generalize u.setCells w.heap.size 0 #[.int .i64 xa, .int .i64 xb, .int .u8 xc, .string xs, .bool xd, .int .i64 xe, .int .i64 xf].toList = W2 at R2 HB2 ⊢
  go_wp2_with fail
  have r0 : W2.cell? ⟨w.heap.size, 0, none⟩ = some (.int .i64 xa) := R2.out.cell 0
  have r1 : W2.cell? ⟨w.heap.size, 1, none⟩ = some (.int .i64 xb) := R2.out.cell 1
  have r2 : W2.cell? ⟨w.heap.size, 2, none⟩ = some (.int .u8 xc) := R2.out.cell 2
  have r3 : W2.cell? ⟨w.heap.size, 3, none⟩ = some (.string xs) := R2.out.cell 3
  have r4 : W2.cell? ⟨w.heap.size, 4, none⟩ = some (.bool xd) := R2.out.cell 4
  have r5 : W2.cell? ⟨w.heap.size, 5, none⟩ = some (.int .i64 xe) := R2.out.cell 5
  have r6 : W2.cell? ⟨w.heap.size, 6, none⟩ = some (.int .i64 xf) := R2.out.cell 6
  refine bodyPost_ret (v := .tuple #[.agg #[.int .i64 xa, .int .i64 xb, .int .u8 xc, .string xs, .bool xd, .int .i64 xe, .int .i64 xf], .bool q]) (by simp [results, Try.results38, go_sem, r0, r1, r2, r3, r4, r5, r6]) rfl ?_
  exact ⟨rfl, HB2.out⟩
end
end Go.Proofs.Ytnblilonjpfdnaa.Ch
end
