/- Package chart: Get. -/
import Derived.Test.YtialclecoamobaaChLeaf
namespace Go.Proofs.Ytialclecoamobaa.Ch
open Go Go.RowKit Ck Go.Maps
def A5.zero : A5 := ⟨0, 0, 0, ⟨#[]⟩, false⟩
def Acc.told (x : Acc) : A5 := ⟨x.code, x.up, x.cls, x.name, x.shut⟩
def getM (M : Int → Option Acc) (k : Int) : A5 × Int := if (M k).isSome = true then (((M k).getD Acc.zero).told, 0) else (A5.zero, 7)
section
variable {w : World} {c bm n : Nat} {tv : Value} {M : Int → Option Acc} {K : List Int}
set_option maxRecDepth 100000 in
theorem gets_nil (k : Int) (w : World) : Calls Try.prog 17 #[.pointer none, .int .i64 k] w fun e w' => e = .returned (.tuple #[A5.zero.val, .int .i64 1]) ∧ Below w.heap.size w w' := by
  have HB0 : Hid (Below w.heap.size w (w.alloc (.cells #[.int .i64 0, .int .i64 0, .int .u8 0, .string ⟨#[]⟩, .bool false] 27))) := (Below.refl _ w).alloc (Nat.le_refl _) _
  have R0 : Hid (Rw (w.alloc (.cells #[.int .i64 0, .int .i64 0, .int .u8 0, .string ⟨#[]⟩, .bool false] 27)) w.heap.size 27 [.int .i64 0, .int .i64 0, .int .u8 0, .string ⟨#[]⟩, .bool false]) := Rw.new w [.int .i64 0, .int .i64 0, .int .u8 0, .string ⟨#[]⟩, .bool false] _
  have HINF : Hid ((Try.prog.info? 27).map (·.size) = some 5) := by show _ = _; kernel_rfl
  have KI := Lib.hid is_nil
  unfold A5.val A5.zero
  simp only
  go_enter Try.func17, Try.ntmps17
  go_wp2_with fail
  generalize w.alloc (.cells #[.int .i64 0, .int .i64 0, .int .u8 0, .string ⟨#[]⟩, .bool false] 27) = W0 at HB0 R0 ⊢
  refine (KI.out _).mono ?_
  rintro e w' ⟨rfl, rfl⟩
  have R2 : Hid (Rw (W0.setCells w.heap.size 0 #[.int .i64 0, .int .i64 0, .int .u8 0, .string ⟨#[]⟩, .bool false].toList) w.heap.size 27 [.int .i64 0, .int .i64 0, .int .u8 0, .string ⟨#[]⟩, .bool false]) := by
    have := R0.out.setCells (cs := [.int .i64 0, .int .i64 0, .int .u8 0, .string ⟨#[]⟩, .bool false]) 0 (by simp)
    exact this
  have HB2 : Hid (Below w.heap.size w (W0.setCells w.heap.size 0 #[.int .i64 0, .int .i64 0, .int .u8 0, .string ⟨#[]⟩, .bool false].toList)) := Keeps.belowT HB0.out ((Keeps.refl (fun j => j = w.heap.size) _).setCells w.heap.size 0 _ (.inl rfl)) (fun j hj => Nat.le_of_eq hj.symm) HB0.out.size
  go_wp2_with (with_reducible refine wpList_store_mid rfl 27 _ _ rfl w.heap.size 0 #[.int .i64 0, .int .i64 0, .int .u8 0, .string ⟨#[]⟩, .bool false] rfl rfl ?thr ?inf ?one ?_)
  case thr => exact R0.out.there 0 5 (by simp)
  case inf => simpa using HINF.out
  case one => simp [Value.oneCell']
  generalize W0.setCells w.heap.size 0 #[.int .i64 0, .int .i64 0, .int .u8 0, .string ⟨#[]⟩, .bool false].toList = W2 at R2 HB2 ⊢
  go_wp2_with fail
  have r0 : W2.cell? ⟨w.heap.size, 0, none⟩ = some (.int .i64 0) := R2.out.cell 0
  have r1 : W2.cell? ⟨w.heap.size, 1, none⟩ = some (.int .i64 0) := R2.out.cell 1
  have r2 : W2.cell? ⟨w.heap.size, 2, none⟩ = some (.int .u8 0) := R2.out.cell 2
  have r3 : W2.cell? ⟨w.heap.size, 3, none⟩ = some (.string ⟨#[]⟩) := R2.out.cell 3
  have r4 : W2.cell? ⟨w.heap.size, 4, none⟩ = some (.bool false) := R2.out.cell 4
  refine bodyPost_ret (v := .tuple #[.agg #[.int .i64 0, .int .i64 0, .int .u8 0, .string ⟨#[]⟩, .bool false], .int .i64 1]) (by simp [results, Try.results17, go_sem, r0, r1, r2, r3, r4]) rfl ?_
  exact ⟨rfl, HB2.out⟩
set_option maxRecDepth 100000 in
theorem gets_zero (h : Rw w c TCh [.map none, .slice none 0 0]) (k : Int) : Calls Try.prog 17 #[.pointer (some ⟨c, 0, none⟩), .int .i64 k] w fun e w' => e = .returned (.tuple #[A5.zero.val, .int .i64 1]) ∧ Below w.heap.size w w' := by
  have HB0 : Hid (Below w.heap.size w (w.alloc (.cells #[.int .i64 0, .int .i64 0, .int .u8 0, .string ⟨#[]⟩, .bool false] 27))) := (Below.refl _ w).alloc (Nat.le_refl _) _
  have R0 : Hid (Rw (w.alloc (.cells #[.int .i64 0, .int .i64 0, .int .u8 0, .string ⟨#[]⟩, .bool false] 27)) w.heap.size 27 [.int .i64 0, .int .i64 0, .int .u8 0, .string ⟨#[]⟩, .bool false]) := Rw.new w [.int .i64 0, .int .i64 0, .int .u8 0, .string ⟨#[]⟩, .bool false] _
  have HINF : Hid ((Try.prog.info? 27).map (·.size) = some 5) := by show _ = _; kernel_rfl
  have KI := Lib.hid (is_zero (h.later HB0.out))
  unfold A5.val A5.zero
  simp only
  go_enter Try.func17, Try.ntmps17
  go_wp2_with fail
  generalize w.alloc (.cells #[.int .i64 0, .int .i64 0, .int .u8 0, .string ⟨#[]⟩, .bool false] 27) = W0 at HB0 R0 KI ⊢
  refine KI.out.mono ?_
  rintro e w' ⟨rfl, rfl⟩
  have R2 : Hid (Rw (W0.setCells w.heap.size 0 #[.int .i64 0, .int .i64 0, .int .u8 0, .string ⟨#[]⟩, .bool false].toList) w.heap.size 27 [.int .i64 0, .int .i64 0, .int .u8 0, .string ⟨#[]⟩, .bool false]) := by
    have := R0.out.setCells (cs := [.int .i64 0, .int .i64 0, .int .u8 0, .string ⟨#[]⟩, .bool false]) 0 (by simp)
    exact this
  have HB2 : Hid (Below w.heap.size w (W0.setCells w.heap.size 0 #[.int .i64 0, .int .i64 0, .int .u8 0, .string ⟨#[]⟩, .bool false].toList)) := Keeps.belowT HB0.out ((Keeps.refl (fun j => j = w.heap.size) _).setCells w.heap.size 0 _ (.inl rfl)) (fun j hj => Nat.le_of_eq hj.symm) HB0.out.size
  go_wp2_with (with_reducible refine wpList_store_mid rfl 27 _ _ rfl w.heap.size 0 #[.int .i64 0, .int .i64 0, .int .u8 0, .string ⟨#[]⟩, .bool false] rfl rfl ?thr ?inf ?one ?_)
  case thr => exact R0.out.there 0 5 (by simp)
  case inf => simpa using HINF.out
  case one => simp [Value.oneCell']
  generalize W0.setCells w.heap.size 0 #[.int .i64 0, .int .i64 0, .int .u8 0, .string ⟨#[]⟩, .bool false].toList = W2 at R2 HB2 ⊢
  go_wp2_with fail
  have r0 : W2.cell? ⟨w.heap.size, 0, none⟩ = some (.int .i64 0) := R2.out.cell 0
  have r1 : W2.cell? ⟨w.heap.size, 1, none⟩ = some (.int .i64 0) := R2.out.cell 1
  have r2 : W2.cell? ⟨w.heap.size, 2, none⟩ = some (.int .u8 0) := R2.out.cell 2
  have r3 : W2.cell? ⟨w.heap.size, 3, none⟩ = some (.string ⟨#[]⟩) := R2.out.cell 3
  have r4 : W2.cell? ⟨w.heap.size, 4, none⟩ = some (.bool false) := R2.out.cell 4
  refine bodyPost_ret (v := .tuple #[.agg #[.int .i64 0, .int .i64 0, .int .u8 0, .string ⟨#[]⟩, .bool false], .int .i64 1]) (by simp [results, Try.results17, go_sem, r0, r1, r2, r3, r4]) rfl ?_
  exact ⟨rfl, HB2.out⟩
set_option maxRecDepth 100000 in
theorem gets_c (h : At w c bm tv n M K) (k : Int) (hk : I64 k) : Calls Try.prog 17 #[.pointer (some ⟨c, 0, none⟩), .int .i64 k] w fun e w' => e = .returned (.tuple #[(getM M k).1.val, .int .i64 (getM M k).2]) ∧ Below w.heap.size w w' := by
  have HB0 : Hid (Below w.heap.size w (w.alloc (.cells #[.int .i64 0, .int .i64 0, .int .u8 0, .string ⟨#[]⟩, .bool false] 27))) := (Below.refl _ w).alloc (Nat.le_refl _) _
  have R0 : Hid (Rw (w.alloc (.cells #[.int .i64 0, .int .i64 0, .int .u8 0, .string ⟨#[]⟩, .bool false] 27)) w.heap.size 27 [.int .i64 0, .int .i64 0, .int .u8 0, .string ⟨#[]⟩, .bool false]) := Rw.new w [.int .i64 0, .int .i64 0, .int .u8 0, .string ⟨#[]⟩, .bool false] _
  have HINF : Hid ((Try.prog.info? 27).map (·.size) = some 5) := by show _ = _; kernel_rfl
  have KI := Lib.hid (is_c (h.later HB0.out))
  have KG := Lib.hid (get_c (h.later HB0.out) k hk)
  unfold GetRes at KG
  unfold getM
  obtain ⟨x, hx⟩ : ∃ x, x = (M k).getD Acc.zero := ⟨_, rfl⟩
  obtain ⟨q, hq⟩ : ∃ q, q = (M k).isSome := ⟨_, rfl⟩
  rw [← hx, ← hq] at KG ⊢
  obtain ⟨r, hr⟩ : ∃ r, r = (if q = true then (x.told, (0 : Int)) else (A5.zero, 7)) := ⟨_, rfl⟩
  rw [← hr]
  clear h hx hq hk
  obtain ⟨xa, xb, xc, xs, xd, xe, xf⟩ := x
  unfold Acc.val at KG
  simp only at KG
  go_enter Try.func17, Try.ntmps17
  go_wp2_with fail
  generalize w.alloc (.cells #[.int .i64 0, .int .i64 0, .int .u8 0, .string ⟨#[]⟩, .bool false] 27) = W0 at HB0 R0 KI KG ⊢
  refine KI.out.mono ?_
  rintro e w' ⟨rfl, rfl⟩
  go_wp2_with fail
  refine KG.out.mono ?_
  rintro e u ⟨rfl, hb⟩
  have R1 := Lib.hid ((R0.out.later hb).later ((Below.refl _ u).alloc (Nat.le_refl _) (.cells #[.int .i64 xa, .int .i64 xb, .int .u8 xc, .string xs, .bool xd, .int .i64 xe, .int .i64 xf] TAcc)))
  have HB1 : Hid (Below w.heap.size w (u.alloc (.cells #[.int .i64 xa, .int .i64 xb, .int .u8 xc, .string xs, .bool xd, .int .i64 xe, .int .i64 xf] TAcc))) := (HB0.out.trans (hb.mono HB0.out.size)).alloc (Nat.le_trans HB0.out.size hb.size) _
  have RX : Hid (Rw (u.alloc (.cells #[.int .i64 xa, .int .i64 xb, .int .u8 xc, .string xs, .bool xd, .int .i64 xe, .int .i64 xf] TAcc)) u.heap.size TAcc [.int .i64 xa, .int .i64 xb, .int .u8 xc, .string xs, .bool xd, .int .i64 xe, .int .i64 xf]) := Rw.new u [.int .i64 xa, .int .i64 xb, .int .u8 xc, .string xs, .bool xd, .int .i64 xe, .int .i64 xf] TAcc
  clear hb R0 KI KG HB0
  go_upto_region 4 with (fail)
  obtain ⟨bx, hbx⟩ : ∃ bx, bx = u.heap.size := ⟨_, rfl⟩
  generalize u.alloc (.cells #[.int .i64 xa, .int .i64 xb, .int .u8 xc, .string xs, .bool xd, .int .i64 xe, .int .i64 xf] TAcc) = W1 at R1 HB1 RX ⊢
  rw [← hbx] at RX ⊢
  clear hbx
  cases q with
  | false =>
    rw [if_neg (by decide)] at hr
    subst hr
    have R2 : Hid (Rw (W1.setCells w.heap.size 0 #[.int .i64 0, .int .i64 0, .int .u8 0, .string ⟨#[]⟩, .bool false].toList) w.heap.size 27 [.int .i64 0, .int .i64 0, .int .u8 0, .string ⟨#[]⟩, .bool false]) := by
      have := R1.out.setCells (cs := [.int .i64 0, .int .i64 0, .int .u8 0, .string ⟨#[]⟩, .bool false]) 0 (by simp)
      exact this
    have HB2 : Hid (Below w.heap.size w (W1.setCells w.heap.size 0 #[.int .i64 0, .int .i64 0, .int .u8 0, .string ⟨#[]⟩, .bool false].toList)) := Keeps.belowT HB1.out ((Keeps.refl (fun j => j = w.heap.size) _).setCells w.heap.size 0 _ (.inl rfl)) (fun j hj => Nat.le_of_eq hj.symm) HB1.out.size
    go_wp2_with (with_reducible refine wpList_store_mid rfl 27 _ _ rfl w.heap.size 0 #[.int .i64 0, .int .i64 0, .int .u8 0, .string ⟨#[]⟩, .bool false] rfl rfl ?thr ?inf ?one ?_)
    case thr => exact R1.out.there 0 5 (by simp)
    case inf => simpa using HINF.out
    case one => simp [Value.oneCell']
    generalize W1.setCells w.heap.size 0 #[.int .i64 0, .int .i64 0, .int .u8 0, .string ⟨#[]⟩, .bool false].toList = W2 at R2 HB2 ⊢
    go_wp2_with fail
    have r0 : W2.cell? ⟨w.heap.size, 0, none⟩ = some (.int .i64 0) := R2.out.cell 0
    have r1 : W2.cell? ⟨w.heap.size, 1, none⟩ = some (.int .i64 0) := R2.out.cell 1
    have r2 : W2.cell? ⟨w.heap.size, 2, none⟩ = some (.int .u8 0) := R2.out.cell 2
    have r3 : W2.cell? ⟨w.heap.size, 3, none⟩ = some (.string ⟨#[]⟩) := R2.out.cell 3
    have r4 : W2.cell? ⟨w.heap.size, 4, none⟩ = some (.bool false) := R2.out.cell 4
    refine bodyPost_ret (v := .tuple #[.agg #[.int .i64 0, .int .i64 0, .int .u8 0, .string ⟨#[]⟩, .bool false], .int .i64 7]) (by simp [results, Try.results17, go_sem, r0, r1, r2, r3, r4]) rfl ?_
    exact ⟨rfl, HB2.out⟩
  | true =>
    rw [if_pos rfl] at hr
    subst hr
    have s0 : W1.cell? ⟨bx, 0, none⟩ = some (.int .i64 xa) := RX.out.cell 0
    have s1 : W1.cell? ⟨bx, 1, none⟩ = some (.int .i64 xb) := RX.out.cell 1
    have s2 : W1.cell? ⟨bx, 2, none⟩ = some (.int .u8 xc) := RX.out.cell 2
    have s3 : W1.cell? ⟨bx, 3, none⟩ = some (.string xs) := RX.out.cell 3
    have s4 : W1.cell? ⟨bx, 4, none⟩ = some (.bool xd) := RX.out.cell 4
    have R2 : Hid (Rw (W1.setCells w.heap.size 0 #[.int .i64 xa, .int .i64 xb, .int .u8 xc, .string xs, .bool xd].toList) w.heap.size 27 [.int .i64 xa, .int .i64 xb, .int .u8 xc, .string xs, .bool xd]) := by
      have := R1.out.setCells (cs := [.int .i64 xa, .int .i64 xb, .int .u8 xc, .string xs, .bool xd]) 0 (by simp)
      exact this
    have HB2 : Hid (Below w.heap.size w (W1.setCells w.heap.size 0 #[.int .i64 xa, .int .i64 xb, .int .u8 xc, .string xs, .bool xd].toList)) := Keeps.belowT HB1.out ((Keeps.refl (fun j => j = w.heap.size) _).setCells w.heap.size 0 _ (.inl rfl)) (fun j hj => Nat.le_of_eq hj.symm) HB1.out.size
    go_wp2_with (with_reducible refine wpList_store_mid rfl 27 _ _ rfl w.heap.size 0 #[.int .i64 xa, .int .i64 xb, .int .u8 xc, .string xs, .bool xd] rfl rfl ?thr ?inf ?one ?_)
    case thr => exact R1.out.there 0 5 (by simp)
    case inf => simpa using HINF.out
    case one => simp [Value.oneCell']
    generalize W1.setCells w.heap.size 0 #[.int .i64 xa, .int .i64 xb, .int .u8 xc, .string xs, .bool xd].toList = W2 at R2 HB2 ⊢
    go_wp2_with fail
    have r0 : W2.cell? ⟨w.heap.size, 0, none⟩ = some (.int .i64 xa) := R2.out.cell 0
    have r1 : W2.cell? ⟨w.heap.size, 1, none⟩ = some (.int .i64 xb) := R2.out.cell 1
    have r2 : W2.cell? ⟨w.heap.size, 2, none⟩ = some (.int .u8 xc) := R2.out.cell 2
    have r3 : W2.cell? ⟨w.heap.size, 3, none⟩ = some (.string xs) := R2.out.cell 3
    have r4 : W2.cell? ⟨w.heap.size, 4, none⟩ = some (.bool xd) := R2.out.cell 4
    refine bodyPost_ret (v := .tuple #[.agg #[.int .i64 xa, .int .i64 xb, .int .u8 xc, .string xs, .bool xd], .int .i64 0]) (by simp [results, Try.results17, go_sem, r0, r1, r2, r3, r4]) rfl ?_
    exact ⟨rfl, HB2.out⟩
end
end Go.Proofs.Ytialclecoamobaa.Ch
