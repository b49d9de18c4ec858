/- Package plans: is, find. -/
import Derived.Test.YtakpoabpgdmneaaPlDup2
namespace Go.Proofs.Ytakpoabpgdmneaa.Pl
open Go Go.RowKit Ck Go.Maps
section
variable {w : World} {c bm n : Nat} {tv : Value} {V : Int → Option Pv} {K : List Int}
theorem map_ne (bm : Nat) (w : World) : (binOp .neq TMap (.map (some bm)) (.map none)).run Try.prog w = .ok (.bool true) w := by
  first | kernel_rfl | (simp [binOp, go_sem]; done) | rfl
theorem map_no (w : World) : (binOp .neq TMap (.map none) (.map none)).run Try.prog w = .ok (.bool false) w := by
  first | kernel_rfl | (simp [binOp, go_sem]; done) | rfl
set_option maxRecDepth 100000 in
theorem is_c (h : At w c bm tv n V K) : Calls Try.prog 26 #[.pointer (some ⟨c, 0, none⟩)] w fun e w' => e = .returned (.bool true) ∧ w = w' := by
  have c0 : w.cell? ⟨c, 0, none⟩ = some (.map (some bm)) := h.blk.cell 0
  have hne := map_ne bm w
  clear h
  go_enter Try.func26, Try.ntmps26
  go_wp2_with fail
  go_ret
  exact ⟨rfl, rfl⟩
set_option maxRecDepth 100000 in
theorem is_nil : ∀ w, Calls Try.prog 26 #[.pointer none] w fun e w' => e = .returned (.bool false) ∧ w = w' := by
  intro w
  go_enter Try.func26, Try.ntmps26
  go_wp2_with fail
  go_ret
  exact ⟨rfl, rfl⟩
set_option maxRecDepth 100000 in
/-- A catalog that nobody made. -/
theorem is_zero (h : Rw w c TCat [.map none, .slice none 0 0]) : Calls Try.prog 26 #[.pointer (some ⟨c, 0, none⟩)] w fun e w' => e = .returned (.bool false) ∧ w = w' := by
  have c0 : w.cell? ⟨c, 0, none⟩ = some (.map none) := h.cell 0
  have hne := map_no w
  clear h
  go_enter Try.func26, Try.ntmps26
  go_wp2_with fail
  go_ret
  exact ⟨rfl, rfl⟩
/-- A look-up in its map. -/
theorem At.look (h : At w c bm tv n V K) {k : Int} (hk : U64 k) : (Instr.lookup TMap (.map (some bm)) (.int .u64 k) false).run Try.prog w = .ok ((V k).getD Pv.zero).val w := by
  obtain ⟨D, h1, h2⟩ := h.mp
  obtain ⟨v, ps, hrun, hv⟩ := h1.lookup law Try.underlying58 (zeroPl w) (plR_val Pv.zero) (key_of hk)
  rw [h2.at'] at hv
  rw [plR_inv hv] at hrun
  exact hrun
theorem field_ret (id every ret : Int) (name : ByteArray) (x : Option Addr) (m q : Nat) (w : World) : (Instr.field TPlan (.agg #[.int .u64 id, .string name, .int .i64 every, .slice x m q, .int .i64 ret]) 4).run Try.prog w = .ok (.int .i64 ret) w := by kernel_rfl
abbrev zcells : Array Value := #[.int .u64 0, .string ⟨#[]⟩, .int .i64 0, .slice none 0 0, .int .i64 0]
/-- find's answer. -/
def findM (valid : Bool) (V : Int → Option Pv) (k : Int) : Pv × Int := if valid = true then (match V k with | none => (Pv.zero, 7) | some p => (p, 0)) else (Pv.zero, 2)
def FindRes (r : Pv × Int) (w : World) (e : Ending) (w' : World) : Prop := e = .returned (.tuple #[r.1.val, .int .i64 r.2]) ∧ Below w.heap.size w w'
/-- find, where there is no catalog. -/
theorem find_no (cv : Value) (k : Int) (valid : Bool) (his : ∀ u, Below w.heap.size w u → Calls Try.prog 26 #[cv] u fun e w' => e = .returned (.bool false) ∧ u = w') : Calls Try.prog 29 #[cv, .int .u64 k, .bool valid] w (FindRes (Pv.zero, 1) w) := by
  have HB0 : Hid (Below w.heap.size w (w.alloc (.cells zcells TPlan))) := (Below.refl _ w).alloc (Nat.le_refl _) _
  have R0 : Hid (Rw (w.alloc (.cells zcells TPlan)) w.heap.size TPlan zcells.toList) := Rw.new w zcells.toList TPlan
  have HI := Lib.hid his
  clear his
  unfold FindRes
  have HINF : Hid ((Try.prog.info? TPlan).map (·.size) = some 5) := by show _ = _; kernel_rfl
  go_enter Try.func29, Try.ntmps29
  go_wp2_with fail
  generalize w.alloc (.cells #[.int .u64 0, .string ⟨#[]⟩, .int .i64 0, .slice none 0 0, .int .i64 0] TPlan) = W0 at HB0 R0 ⊢
  refine (HI.out _ HB0.out).mono ?_
  rintro e w' ⟨rfl, rfl⟩
  have R2 : Hid (Rw (W0.setCells w.heap.size 0 zcells.toList) w.heap.size TPlan zcells.toList) := R0.out.setCells (cs := zcells.toList) 0 (by simp)
  have HB2 : Hid (Below w.heap.size w (W0.setCells w.heap.size 0 zcells.toList)) := Keeps.belowT HB0.out ((Keeps.refl (fun j => j = w.heap.size) W0).setCells w.heap.size 0 _ (.inl rfl)) (fun j hj => Nat.le_of_eq hj.symm) HB0.out.size
  go_wp2_with (with_reducible refine wpList_store_mid rfl TPlan _ _ rfl w.heap.size 0 zcells rfl rfl ?thr ?inf ?one ?_)
  case thr => exact R0.out.there 0 5 (by simp)
  case inf => simpa using HINF.out
  case one => simp [Value.oneCell']
  generalize W0.setCells w.heap.size 0 zcells.toList = W2 at R2 HB2 ⊢
  go_wp2_with fail
  have r0 : W2.cell? ⟨w.heap.size, 0, none⟩ = some (.int .u64 0) := R2.out.cell 0
  have r1 : W2.cell? ⟨w.heap.size, 1, none⟩ = some (.string ⟨#[]⟩) := R2.out.cell 1
  have r2 : W2.cell? ⟨w.heap.size, 2, none⟩ = some (.int .i64 0) := R2.out.cell 2
  have r3 : W2.cell? ⟨w.heap.size, 3, none⟩ = some (.slice none 0 0) := R2.out.cell 3
  have r4 : W2.cell? ⟨w.heap.size, 4, none⟩ = some (.int .i64 0) := R2.out.cell 4
  refine bodyPost_ret (v := .tuple #[.agg zcells, .int .i64 1]) (by simp [results, Try.results29, go_sem, r0, r1, r2, r3, r4]) rfl ?_
  exact ⟨rfl, HB2.out⟩
set_option maxRecDepth 100000 in
set_option maxHeartbeats 1600000 in
theorem find_c (h : At w c bm tv n V K) (k : Int) (hk : U64 k) (valid : Bool) : Calls Try.prog 29 #[.pointer (some ⟨c, 0, none⟩), .int .u64 k, .bool valid] w (FindRes (findM valid V k) w) := by
  have H := Lib.hid h
  have HB0 : Hid (Below w.heap.size w (w.alloc (.cells zcells TPlan))) := (Below.refl _ w).alloc (Nat.le_refl _) _
  have R0 : Hid (Rw (w.alloc (.cells zcells TPlan)) w.heap.size TPlan zcells.toList) := Rw.new w zcells.toList TPlan
  have KI := Lib.hid (is_c (h.later HB0.out))
  have H0 := Lib.hid (h.later HB0.out)
  clear h
  have HINF : Hid ((Try.prog.info? TPlan).map (·.size) = some 5) := by show _ = _; kernel_rfl
  cases valid with
  | false =>
    unfold FindRes findM
    rw [if_neg (by decide)]
    go_enter Try.func29, Try.ntmps29
    go_wp2_with fail
    generalize w.alloc (.cells #[.int .u64 0, .string ⟨#[]⟩, .int .i64 0, .slice none 0 0, .int .i64 0] TPlan) = W0 at HB0 R0 H0 KI ⊢
    refine KI.out.mono ?_
    rintro e w' ⟨rfl, rfl⟩
    have R2 : Hid (Rw (W0.setCells w.heap.size 0 zcells.toList) w.heap.size TPlan zcells.toList) := R0.out.setCells (cs := zcells.toList) 0 (by simp)
    have HB2 : Hid (Below w.heap.size w (W0.setCells w.heap.size 0 zcells.toList)) := Keeps.belowT HB0.out ((Keeps.refl (fun j => j = w.heap.size) W0).setCells w.heap.size 0 _ (.inl rfl)) (fun j hj => Nat.le_of_eq hj.symm) HB0.out.size
    go_wp2_with (with_reducible refine wpList_store_mid rfl TPlan _ _ rfl w.heap.size 0 zcells rfl rfl ?thr ?inf ?one ?_)
    case thr => exact R0.out.there 0 5 (by simp)
    case inf => simpa using HINF.out
    case one => simp [Value.oneCell']
    generalize W0.setCells w.heap.size 0 zcells.toList = W2 at R2 HB2 ⊢
    go_wp2_with fail
    have r0 : W2.cell? ⟨w.heap.size, 0, none⟩ = some (.int .u64 0) := R2.out.cell 0
    have r1 : W2.cell? ⟨w.heap.size, 1, none⟩ = some (.string ⟨#[]⟩) := R2.out.cell 1
    have r2 : W2.cell? ⟨w.heap.size, 2, none⟩ = some (.int .i64 0) := R2.out.cell 2
    have r3 : W2.cell? ⟨w.heap.size, 3, none⟩ = some (.slice none 0 0) := R2.out.cell 3
    have r4 : W2.cell? ⟨w.heap.size, 4, none⟩ = some (.int .i64 0) := R2.out.cell 4
    refine bodyPost_ret (v := .tuple #[.agg zcells, .int .i64 2]) (by simp [results, Try.results29, go_sem, r0, r1, r2, r3, r4]) rfl ?_
    exact ⟨rfl, HB2.out⟩
  | true =>
    obtain ⟨D, h1, h2⟩ := H0.out.mp
    have hown := Lib.hid h1
    have hkey := key_of hk
    obtain ⟨y, hy⟩ : ∃ y, y = (V k).getD Pv.zero := ⟨_, rfl⟩
    obtain ⟨q, hq⟩ : ∃ q, q = (V k).isSome := ⟨_, rfl⟩
    obtain ⟨r, hr⟩ : ∃ r, r = (findM true V k).2 := ⟨_, rfl⟩
    have HX : Hid (∀ v ps, plR v = some (D.atKey (.int .u64 k) Pv.zero.dat, ps) → v = y.val) := fun v ps hv => by
      rw [h2.at', ← hy] at hv
      exact plR_inv hv
    have HQ : Hid (Maps.has D (.int .u64 k) = q) := by show _ = _; rw [h2.has, hq]
    have HR : Hid ((findM true V k) = (y, r)) := by
      show _ = _
      rw [hr, hy]
      unfold findM
      rw [if_pos rfl]
      cases V k <;> rfl
    have HR0 : Hid (q = false → y = Pv.zero ∧ r = 7) := fun e => by
      rw [hq] at e
      rw [hy, hr]
      unfold findM
      rw [if_pos rfl]
      cases hv : V k with
      | none => exact ⟨rfl, rfl⟩
      | some p => rw [hv] at e; cases e
    have HR1 : Hid (q = true → r = 0) := fun e => by
      rw [hq] at e
      rw [hr]
      unfold findM
      rw [if_pos rfl]
      cases hv : V k with
      | none => rw [hv] at e; cases e
      | some p => rfl
    have HLT : Hid (c < w.heap.size) := H.out.blk.lt
    have c0 : (w.alloc (.cells zcells TPlan)).cell? ⟨c, 0, none⟩ = some (.map (some bm)) := H0.out.blk.cell 0
    rw [HR.out]
    unfold FindRes
    clear h1 h2 hy hq hr hk
    obtain ⟨⟨ya, ys, yv, yl, yr⟩, yg, yc⟩ := y
    unfold Pv.val Pn.val at HX ⊢
    simp only at HX ⊢
    go_enter Try.func29, Try.ntmps29
    go_wp2_with fail
    generalize w.alloc (.cells #[.int .u64 0, .string ⟨#[]⟩, .int .i64 0, .slice none 0 0, .int .i64 0] TPlan) = W0 at HB0 R0 H0 KI hown c0 ⊢
    refine KI.out.mono ?_
    rintro e w' ⟨rfl, rfl⟩
    go_upto_region 6 with (at_lookup; refine wpList_lookup_own_ok _ rfl _ _ TMap rfl TU TPlan law Try.underlying58 plR (zeroPl _) Pv.zero.dat [] (plR_val Pv.zero) bm n D rfl hown.out _ _ rfl hkey ?_; intro v ps hv; obtain rfl := HX.out v ps hv; rw [HQ.out])
    have YC : Hid (Rw (W0.alloc (.cells #[.int .u64 ya, .string ys, .int .i64 yv, .slice (adr yg) yl.length yc, .int .i64 yr] TPlan)) W0.heap.size TPlan [.int .u64 ya, .string ys, .int .i64 yv, .slice (adr yg) yl.length yc, .int .i64 yr]) := Rw.new W0 [.int .u64 ya, .string ys, .int .i64 yv, .slice (adr yg) yl.length yc, .int .i64 yr] TPlan
    have hb1 : Below W0.heap.size W0 (W0.alloc (.cells #[.int .u64 ya, .string ys, .int .i64 yv, .slice (adr yg) yl.length yc, .int .i64 yr] TPlan)) := (Below.refl _ _).alloc (Nat.le_refl _) _
    have R1 := Lib.hid (R0.out.later hb1)
    have HB1 : Hid (Below w.heap.size w (W0.alloc (.cells #[.int .u64 ya, .string ys, .int .i64 yv, .slice (adr yg) yl.length yc, .int .i64 yr] TPlan))) := HB0.out.trans (hb1.mono HB0.out.size)
    clear hb1 c0 hown HX HQ KI
    obtain ⟨by', hby⟩ : ∃ by', by' = W0.heap.size := ⟨_, rfl⟩
    rw [← hby] at YC ⊢
    generalize W0.alloc (.cells #[.int .u64 ya, .string ys, .int .i64 yv, .slice (adr yg) yl.length yc, .int .i64 yr] TPlan) = W1 at YC R1 HB1 ⊢
    clear hby
    cases q with
    | false =>
      obtain ⟨e1, e2⟩ := HR0.out rfl
      subst e2
      unfold Pv.zero Pn.zero at e1
      simp only [Pv.mk.injEq, Pn.mk.injEq] at e1
      obtain ⟨⟨rfl, rfl, rfl, rfl, rfl⟩, rfl, rfl⟩ := e1
      have R2 : Hid (Rw (W1.setCells w.heap.size 0 zcells.toList) w.heap.size TPlan zcells.toList) := R1.out.setCells (cs := zcells.toList) 0 (by simp)
      have HB2 : Hid (Below w.heap.size w (W1.setCells w.heap.size 0 zcells.toList)) := Keeps.belowT HB1.out ((Keeps.refl (fun j => j = w.heap.size) W1).setCells w.heap.size 0 _ (.inl rfl)) (fun j hj => Nat.le_of_eq hj.symm) HB1.out.size
      clear HR0 HR1 HR
      go_wp2_with (with_reducible refine wpList_store_mid rfl TPlan _ _ rfl w.heap.size 0 zcells rfl rfl ?thr ?inf ?one ?_)
      case thr => exact R1.out.there 0 5 (by simp)
      case inf => simpa using HINF.out
      case one => simp [Value.oneCell']
      generalize W1.setCells w.heap.size 0 zcells.toList = W2 at R2 HB2 ⊢
      go_wp2_with fail
      have r0 : W2.cell? ⟨w.heap.size, 0, none⟩ = some (.int .u64 0) := R2.out.cell 0
      have r1 : W2.cell? ⟨w.heap.size, 1, none⟩ = some (.string ⟨#[]⟩) := R2.out.cell 1
      have r2 : W2.cell? ⟨w.heap.size, 2, none⟩ = some (.int .i64 0) := R2.out.cell 2
      have r3 : W2.cell? ⟨w.heap.size, 3, none⟩ = some (.slice none 0 0) := R2.out.cell 3
      have r4 : W2.cell? ⟨w.heap.size, 4, none⟩ = some (.int .i64 0) := R2.out.cell 4
      refine bodyPost_ret (v := .tuple #[.agg zcells, .int .i64 7]) (by simp [results, Try.results29, go_sem, r0, r1, r2, r3, r4]) rfl ?_
      exact ⟨rfl, HB2.out⟩
    | true =>
      obtain rfl := HR1.out rfl
      have q0 : W1.cell? ⟨by', 0, none⟩ = some (.int .u64 ya) := YC.out.cell 0
      have q1 : W1.cell? ⟨by', 1, none⟩ = some (.string ys) := YC.out.cell 1
      have q2 : W1.cell? ⟨by', 2, none⟩ = some (.int .i64 yv) := YC.out.cell 2
      have q3 : W1.cell? ⟨by', 3, none⟩ = some (.slice (adr yg) yl.length yc) := YC.out.cell 3
      have q4 : W1.cell? ⟨by', 4, none⟩ = some (.int .i64 yr) := YC.out.cell 4
      have R2 : Hid (Rw (W1.setCells w.heap.size 0 #[.int .u64 ya, .string ys, .int .i64 yv, .slice (adr yg) yl.length yc, .int .i64 yr].toList) w.heap.size TPlan [.int .u64 ya, .string ys, .int .i64 yv, .slice (adr yg) yl.length yc, .int .i64 yr]) := by
        have := R1.out.setCells (cs := [.int .u64 ya, .string ys, .int .i64 yv, .slice (adr yg) yl.length yc, .int .i64 yr]) 0 (by simp)
        exact this
      have HB2 : Hid (Below w.heap.size w (W1.setCells w.heap.size 0 #[.int .u64 ya, .string ys, .int .i64 yv, .slice (adr yg) yl.length yc, .int .i64 yr].toList)) := Keeps.belowT HB1.out ((Keeps.refl (fun j => j = w.heap.size) W1).setCells w.heap.size 0 _ (.inl rfl)) (fun j hj => Nat.le_of_eq hj.symm) HB1.out.size
      clear HR0 HR1 HR
      go_wp2_with (with_reducible refine wpList_store_mid rfl TPlan _ _ rfl w.heap.size 0 #[.int .u64 ya, .string ys, .int .i64 yv, .slice (adr yg) yl.length yc, .int .i64 yr] rfl rfl ?thr ?inf ?one ?_)
      case thr => exact R1.out.there 0 5 (by simp)
      case inf => simpa using HINF.out
      case one => simp [Value.oneCell']
      generalize W1.setCells w.heap.size 0 #[.int .u64 ya, .string ys, .int .i64 yv, .slice (adr yg) yl.length yc, .int .i64 yr].toList = W2 at R2 HB2 ⊢
      go_wp2_with fail
      have r0 : W2.cell? ⟨w.heap.size, 0, none⟩ = some (.int .u64 ya) := R2.out.cell 0
      have r1 : W2.cell? ⟨w.heap.size, 1, none⟩ = some (.string ys) := R2.out.cell 1
      have r2 : W2.cell? ⟨w.heap.size, 2, none⟩ = some (.int .i64 yv) := R2.out.cell 2
      have r3 : W2.cell? ⟨w.heap.size, 3, none⟩ = some (.slice (adr yg) yl.length yc) := R2.out.cell 3
      have r4 : W2.cell? ⟨w.heap.size, 4, none⟩ = some (.int .i64 yr) := R2.out.cell 4
      refine bodyPost_ret (v := .tuple #[.agg #[.int .u64 ya, .string ys, .int .i64 yv, .slice (adr yg) yl.length yc, .int .i64 yr], .int .i64 0]) (by simp [results, Try.results29, go_sem, r0, r1, r2, r3, r4]) rfl ?_
      exact ⟨rfl, HB2.out⟩
end
end Go.Proofs.Ytakpoabpgdmneaa.Pl
