/- Package plans: Add. -/
import Derived.Test.YtakpoabpgdmneaaPlIns
import Derived.BigQuiet
import Derived.Deep.QuietTactic
import Derived.Deep.DeepCutAuto
namespace Go.Proofs.Ytakpoabpgdmneaa.Pl
open Go Go.RowKit Ck Go.Maps
theorem prs_some {w : World} {a : Option Addr} {cap : Nat} {L : List Pr} (h : Prs w a L) (h0 : 1 ≤ L.length) : (a = none → cap = 0) ∧ ∀ p, a = some p → p.spot = none := by
  obtain ⟨b, off, rfl, _⟩ := h 0 h0
  exact ⟨fun e => (by cases e), fun p hp => (by cases hp; rfl)⟩
def addM (M : Int → Option Pn) (x : Pn) : (Int → Option Pn) × Int := if x.okB = false then (M, 2) else if (M x.id).isSome = true then (M, 8) else (upd M x.id x, 0)
set_option maxRecDepth 100000 in
theorem add_no (cv : Value) (x : Pn) (a : Option Addr) (cap : Nat) {w : World} (his : zeroIs w cv) : Calls Try.prog 10 #[cv, x.val a cap] w fun e w' => e = .returned (.int .i64 1) ∧ Below w.heap.size w w' := by
  have HI := Lib.hid his
  clear his
  have HB0 : Hid (Below w.heap.size w (w.alloc (.cells (x.cells a cap).toArray TPlan))) := (Below.refl _ w).alloc (Nat.le_refl _) _
  unfold Pn.cells at HB0
  unfold Pn.val
  go_enter Try.func10, Try.ntmps10
  go_wp2_with fail
  refine (HI.out _ HB0.out).mono ?_
  rintro _ _ ⟨rfl, rfl⟩
  go_wp2_with fail
  go_ret
  exact ⟨rfl, HB0.out⟩
section
variable {w : World} {c bm n : Nat} {tv : Value} {V : Int → Option Pv} {K : List Int}
set_option maxRecDepth 100000 in
set_option maxHeartbeats 3200000 in
theorem add_c (h : At w c bm tv n V K) (x : Pn) (a : Option Addr) (cap : Nat) (hp : Prs w a x.ps) (hk : U64 x.id) (hn : n < 1000000) (hK9 : K.length ≤ 1000000) : Calls Try.prog 10 #[.pointer (some ⟨c, 0, none⟩), x.val a cap] w fun e w' => e = .returned (.int .i64 (addM (mdl V) x).2) ∧ ∃ K', After c bm tv n V w w' (addM (mdl V) x).1 K' ∧ K'.length ≤ K.length + 1 := by
  have H := Lib.hid h
  have HB0 : Hid (Below w.heap.size w (w.alloc (.cells (x.cells a cap).toArray TPlan))) := (Below.refl _ w).alloc (Nat.le_refl _) _
  have R0 : Hid (Rw (w.alloc (.cells (x.cells a cap).toArray TPlan)) w.heap.size TPlan (x.cells a cap)) := Rw.new w (x.cells a cap) TPlan
  have KI := Lib.hid (is_c (h.later HB0.out))
  have KC : Hid (∀ u, Below w.heap.size w u → Calls Try.prog 19 #[x.val a cap] u fun e w' => e = .returned (.int .i64 (if x.okB = true then 0 else 2)) ∧ Below u.heap.size u w') := fun u hu => check_c x a cap u (hp.later hu)
  obtain ⟨R, hR⟩ : ∃ R, R = addM (mdl V) x := ⟨_, rfl⟩
  rw [← hR]
  have HR := Lib.hid hR
  have HXE : Hid (∃ y : Pn, y = x) := ⟨x, rfl⟩
  cases hok : x.okB with
  | false =>
    have HF : Hid (R = (mdl V, 2)) := by
      show _ = _
      rw [hR]
      unfold addM
      rw [if_pos hok]
    rw [hok, if_neg (by decide)] at KC
    clear hR HR h hp hk hok HXE
    unfold Pn.cells at HB0 R0 KI
    unfold Pn.val at KC ⊢
    go_enter Try.func10, Try.ntmps10
    go_wp2_with fail
    generalize w.alloc (.cells #[.int .u64 x.id, .string x.name, .int .i64 x.every, .slice a x.ps.length cap, .int .i64 x.ret] TPlan) = W0 at HB0 R0 KI ⊢
    refine KI.out.mono ?_
    rintro _ _ ⟨rfl, rfl⟩
    have q0 : W0.cell? ⟨w.heap.size, 0, none⟩ = some (.int .u64 x.id) := R0.out.cell 0
    have q1 : W0.cell? ⟨w.heap.size, 1, none⟩ = some (.string x.name) := R0.out.cell 1
    have q2 : W0.cell? ⟨w.heap.size, 2, none⟩ = some (.int .i64 x.every) := R0.out.cell 2
    have q3 : W0.cell? ⟨w.heap.size, 3, none⟩ = some (.slice a x.ps.length cap) := R0.out.cell 3
    have q4 : W0.cell? ⟨w.heap.size, 4, none⟩ = some (.int .i64 x.ret) := R0.out.cell 4
    go_wp2_with fail
    refine (KC.out _ HB0.out).mono ?_
    rintro _ w1 ⟨rfl, hb1⟩
    clear q0 q1 q2 q3 q4
    go_wp2_with fail
    go_ret
    rw [HF.out]
    exact ⟨rfl, K, After.same H.out (HB0.out.trans (hb1.mono HB0.out.size)), Nat.le_succ _⟩
  | true =>
    have HL := okB_len hok
    have HOK := Lib.hid hok
    rw [hok, if_pos rfl] at KC
    have KD : Hid (∀ u, Below w.heap.size w u → Calls Try.prog 27 #[x.val a cap] u fun e w' => ∃ g' cap', e = .returned (.agg #[.int .u64 x.id, .string x.name, .int .i64 x.every, .slice (adr g') x.ps.length cap', .int .i64 x.ret]) ∧ w'.ownsRow u.heap.size TPrice 2 (.slice (adr g') x.ps.length cap') x.ps.length (flatP x.ps) ∧ Below u.heap.size u w') := fun u hu => (dup_p x a cap u (hp.later hu) (prs_some (cap := cap) hp HL.1).1 (prs_some (cap := cap) hp HL.1).2 (by omega)).mono fun e w' h => by
      obtain ⟨⟨px, g', cap'⟩, h1, h2, h3, h4⟩ := h
      simp only at h1
      subst h1
      exact ⟨g', cap', h2, h3, h4⟩
    have hkey := key_of hk
    have HLK : Hid (∀ (u : World) (D : DataW Unit), u.ownsMap Try.prog TU plR bm n D → Ag D V → (Instr.lookup TMap (.map (some bm)) (.int .u64 x.id) true).run Try.prog u = .ok (.tuple #[((V x.id).getD Pv.zero).val, .bool (V x.id).isSome]) u) := fun u D h1 h2 => by
      obtain ⟨v, ps, hrun, hv⟩ := h1.look_ok law Try.underlying58 (zeroPl u) (plR_val Pv.zero) hkey
      rw [h2.at'] at hv
      rw [plR_inv hv, h2.has] at hrun
      exact hrun
    have HR2 : Hid (R = if (V x.id).isSome = true then (mdl V, 8) else (upd (mdl V) x.id x, 0)) := by
      show _ = _
      rw [hR]
      unfold addM
      rw [hok, if_neg (by decide)]
      unfold mdl
      rw [Option.isSome_map]
    obtain ⟨yv, hyv⟩ : ∃ yv, yv = ((V x.id).getD Pv.zero).val := ⟨_, rfl⟩
    obtain ⟨q, hq⟩ : ∃ q, q = (V x.id).isSome := ⟨_, rfl⟩
    rw [← hyv, ← hq] at HLK
    rw [← hq] at HR2
    have HQ := Lib.hid hq
    have HYV : Hid (∃ ya ys yw yl ym yc yr, yv = .agg #[.int .u64 ya, .string ys, .int .i64 yw, .slice yl ym yc, .int .i64 yr]) := by
      rw [hyv]
      exact ⟨_, _, _, _, _, _, _, rfl⟩
    clear hyv hq hR HR h hp hok HXE
    obtain ⟨id, name, every, L, ret⟩ := x
    unfold Pn.cells at HB0 R0 KI
    unfold Pn.val at KC KD ⊢
    simp only at HB0 R0 KI KC KD hk HLK HR2 HL HQ hkey ⊢
    go_enter Try.func10, Try.ntmps10
    go_wp2_with fail
    generalize w.alloc (.cells #[.int .u64 id, .string name, .int .i64 every, .slice a L.length cap, .int .i64 ret] TPlan) = W0 at HB0 R0 KI ⊢
    have HBY : Hid (w.heap.size ≤ w.heap.size) := Nat.le_refl _
    obtain ⟨by', hby⟩ : ∃ by', by' = w.heap.size := ⟨_, rfl⟩
    rw [← hby] at R0 ⊢
    refine KI.out.mono ?_
    rintro _ _ ⟨rfl, rfl⟩
    have q0 : W0.cell? ⟨by', 0, none⟩ = some (.int .u64 id) := R0.out.cell 0
    have q1 : W0.cell? ⟨by', 1, none⟩ = some (.string name) := R0.out.cell 1
    have q2 : W0.cell? ⟨by', 2, none⟩ = some (.int .i64 every) := R0.out.cell 2
    have q3 : W0.cell? ⟨by', 3, none⟩ = some (.slice a L.length cap) := R0.out.cell 3
    have q4 : W0.cell? ⟨by', 4, none⟩ = some (.int .i64 ret) := R0.out.cell 4
    have HBY' := Lib.hid hby
    clear hby HBY
    go_wp2_with fail
    refine (KC.out _ HB0.out).mono ?_
    rintro _ w1 ⟨rfl, hb1⟩
    clear q0 q1 q2 q3 q4 KC KI
    have HB1 : Hid (Below w.heap.size w w1) := HB0.out.trans (hb1.mono HB0.out.size)
    have R1 := Lib.hid (R0.out.later hb1)
    clear hb1 HB0 R0
    go_upto_region 6 with (fail)
    obtain ⟨ya, ys, yw, yl, ym, yc, yr, rfl⟩ := HYV.out
    clear HYV
    obtain ⟨D, h1, h2⟩ := (H.out.later HB1.out).mp
    have OM1 := Lib.hid h1
    have HA := Lib.hid h2
    obtain ⟨D1, hD1⟩ : ∃ D1, D1 = D := ⟨_, rfl⟩
    rw [← hD1] at OM1 HA
    clear hD1 h1 h2
    have RC1 := Lib.hid ((H.out.later HB1.out).blk)
    have HS : Hid (∀ u, Below w1.heap.size w1 u → u.cell? ⟨c, 0, none⟩ = some (.map (some bm)) ∧ u.cell? ⟨by', 0, none⟩ = some (.int .u64 id) ∧ (Instr.lookup TMap (.map (some bm)) (.int .u64 id) true).run Try.prog u = .ok (.tuple #[.agg #[.int .u64 ya, .string ys, .int .i64 yw, .slice yl ym yc, .int .i64 yr], .bool q]) u) := fun u hu => ⟨(RC1.out.later hu).cell 0, (R1.out.later hu).cell 0, HLK.out u D1 (map_keeps OM1.out (Keeps.of (fun _ => False) hu) (fun h => h)) HA.out⟩
    refine wp_region_held_drew (S := (fun u => u.cell? ⟨c, 0, none⟩ = some (.map (some bm)) ∧ u.cell? ⟨by', 0, none⟩ = some (.int .u64 id) ∧ (Instr.lookup TMap (.map (some bm)) (.int .u64 id) true).run Try.prog u = .ok (.tuple #[.agg #[.int .u64 ya, .string ys, .int .i64 yw, .slice yl ym yc, .int .i64 yr], .bool q]) u)) (by kernel_rfl) ?_ (fun hHeld => ?_)
    · exact HS.out _ (Below.refl _ w1).drew
    refine wpAnyH_take (i := 0) (oi := { dst := some 18, op := Op.move (Operand.tmp 0), type := 25, pos := "plans.go:78", after := #[], guard := none }) (v := (.pointer (some ⟨c, 0, none⟩))) rfl (by kernel_rfl) (by kernel_rfl) (by kernel_rfl) (fun _ _ _ h => h) (Or.inl ⟨by rfl, ?_⟩) hHeld ?_
    · rintro u ⟨p0, p1, p2⟩
      go_simp <;> first | rfl | kernel_rfl
    try simp only [Act.put, List.setIfInBounds_toArray, List.set_cons_zero, List.set_cons_succ]
    refine wpAnyH_take (i := 1) (oi := { dst := some 19, op := Op.nilCheck (Operand.tmp 18), type := 0, pos := "plans.go:78", after := #[{ on := 0, ground := Ground.data }], guard := none }) (v := (.pointer (some ⟨c, 0, none⟩))) rfl (by kernel_rfl) (by kernel_rfl) (by kernel_rfl) (fun _ _ _ h => h) (Or.inl ⟨by rfl, ?_⟩) hHeld ?_
    · rintro u ⟨p0, p1, p2⟩
      go_simp <;> first | rfl | kernel_rfl
    try simp only [Act.put, List.setIfInBounds_toArray, List.set_cons_zero, List.set_cons_succ]
    refine wpAnyH_take (i := 2) (oi := { dst := some 20, op := Op.fieldAddr 61 (Operand.tmp 19) 0, type := 0, pos := "plans.go:78", after := #[{ on := 1, ground := Ground.data }], guard := none }) (v := (.pointer (some ⟨c, 0, none⟩))) rfl (by kernel_rfl) (by kernel_rfl) (by kernel_rfl) (fun _ _ _ h => h) (Or.inl ⟨by rfl, ?_⟩) hHeld ?_
    · rintro u ⟨p0, p1, p2⟩
      go_simp <;> first | rfl | kernel_rfl
    try simp only [Act.put, List.setIfInBounds_toArray, List.set_cons_zero, List.set_cons_succ]
    refine wpAnyH_take (i := 3) (oi := { dst := some 21, op := Op.load 58 (Operand.tmp 20), type := 58, pos := "plans.go:78", after := #[{ on := 2, ground := Ground.data }], guard := none }) (v := (.map (some bm))) rfl (by kernel_rfl) (by kernel_rfl) (by kernel_rfl) (fun _ _ _ h => h) (Or.inl ⟨by rfl, ?_⟩) hHeld ?_
    · rintro u ⟨p0, p1, p2⟩
      go_simp <;> first | rfl | kernel_rfl
    try simp only [Act.put, List.setIfInBounds_toArray, List.set_cons_zero, List.set_cons_succ]
    refine wpAnyH_take (i := 4) (oi := { dst := some 22, op := Op.fieldAddr 31 (Operand.tmp 3) 0, type := 0, pos := "plans.go:78", after := #[], guard := none }) (v := (.pointer (some ⟨by', 0, none⟩))) rfl (by kernel_rfl) (by kernel_rfl) (by kernel_rfl) (fun _ _ _ h => h) (Or.inl ⟨by rfl, ?_⟩) hHeld ?_
    · rintro u ⟨p0, p1, p2⟩
      go_simp <;> first | rfl | kernel_rfl
    try simp only [Act.put, List.setIfInBounds_toArray, List.set_cons_zero, List.set_cons_succ]
    refine wpAnyH_take (i := 5) (oi := { dst := some 23, op := Op.load 28 (Operand.tmp 22), type := 28, pos := "plans.go:78", after := #[{ on := 4, ground := Ground.data }], guard := none }) (v := (.int .u64 id)) rfl (by kernel_rfl) (by kernel_rfl) (by kernel_rfl) (fun _ _ _ h => h) (Or.inl ⟨by rfl, ?_⟩) hHeld ?_
    · rintro u ⟨p0, p1, p2⟩
      go_simp <;> first | rfl | kernel_rfl
    try simp only [Act.put, List.setIfInBounds_toArray, List.set_cons_zero, List.set_cons_succ]
    refine wpAnyH_take (i := 6) (oi := { dst := some 24, op := Op.lookup 58 (Operand.tmp 21) (Operand.tmp 23) true, type := 62, pos := "plans.go:78", after := #[{ on := 3, ground := Ground.data }, { on := 5, ground := Ground.data }], guard := none }) (v := (.tuple #[.agg #[.int .u64 ya, .string ys, .int .i64 yw, .slice yl ym yc, .int .i64 yr], .bool q])) rfl (by kernel_rfl) (by kernel_rfl) (by kernel_rfl) (fun _ _ _ h => h) (Or.inl ⟨by rfl, ?_⟩) hHeld ?_
    · rintro u ⟨p0, p1, p2⟩
      go_simp <;> first | rfl | kernel_rfl
    try simp only [Act.put, List.setIfInBounds_toArray, List.set_cons_zero, List.set_cons_succ]
    refine wpAnyH_take (i := 7) (oi := { dst := some 17, op := Op.move (Operand.tmp 24), type := 62, pos := "plans.go:78", after := #[{ on := 6, ground := Ground.data }], guard := none }) (v := (.tuple #[.agg #[.int .u64 ya, .string ys, .int .i64 yw, .slice yl ym yc, .int .i64 yr], .bool q])) rfl (by kernel_rfl) (by kernel_rfl) (by kernel_rfl) (fun _ _ _ h => h) (Or.inl ⟨by rfl, ?_⟩) hHeld ?_
    · rintro u ⟨p0, p1, p2⟩
      go_simp <;> first | rfl | kernel_rfl
    try simp only [Act.put, List.setIfInBounds_toArray, List.set_cons_zero, List.set_cons_succ]
    refine wpAnyH_take (i := 8) (oi := { dst := some 25, op := Op.extract (Operand.tmp 17) 0, type := 31, pos := "plans.go:78", after := #[{ on := 7, ground := Ground.data }], guard := none }) (v := (.agg #[.int .u64 ya, .string ys, .int .i64 yw, .slice yl ym yc, .int .i64 yr])) rfl (by kernel_rfl) (by kernel_rfl) (by kernel_rfl) (fun _ _ _ h => h) (Or.inl ⟨by rfl, ?_⟩) hHeld ?_
    · rintro u ⟨p0, p1, p2⟩
      go_simp <;> first | rfl | kernel_rfl
    try simp only [Act.put, List.setIfInBounds_toArray, List.set_cons_zero, List.set_cons_succ]
    refine wpAnyH_take (i := 9) (oi := { dst := some 26, op := Op.extract (Operand.tmp 17) 1, type := 4, pos := "plans.go:78", after := #[{ on := 7, ground := Ground.data }, { on := 11, ground := Ground.gcOnly Departure.lateStores }], guard := none }) (v := (.bool q)) rfl (by kernel_rfl) (by kernel_rfl) (by kernel_rfl) (fun _ _ _ h => h) (Or.inl ⟨by rfl, ?_⟩) hHeld ?_
    · rintro u ⟨p0, p1, p2⟩
      go_simp <;> first | rfl | kernel_rfl
    try simp only [Act.put, List.setIfInBounds_toArray, List.set_cons_zero, List.set_cons_succ]
    refine wpAnyH_ready (rs := [10]) (by kernel_rfl) (by simp) ?_
    refine AllReadyH.cons (o := { dst := some 6, op := Op.alloc 31, type := 0, pos := "plans.go:78", after := #[], guard := none }) rfl (fun Kq hKq => ?_) AllReadyH.nil
    go_simp
    refine hKq.out _ _ (HS.out _ (((Below.refl _ w1).drew).alloc (Nat.le_refl _) _)) (fun hHeld10 => ?_)
    clear hKq Kq
    try simp only [Act.put, List.setIfInBounds_toArray, List.set_cons_zero, List.set_cons_succ]
    refine wpAnyH_ready (rs := [11]) (by kernel_rfl) (by simp) ?_
    refine AllReadyH.cons (o := { dst := none, op := Op.store 31 (Operand.tmp 6) (Operand.tmp 25), type := 0, pos := "plans.go:78", after := #[{ on := 10, ground := Ground.data }, { on := 8, ground := Ground.data }, { on := 0, ground := Ground.phase }, { on := 1, ground := Ground.phase }, { on := 2, ground := Ground.phase }, { on := 3, ground := Ground.phase }, { on := 4, ground := Ground.phase }, { on := 5, ground := Ground.phase }, { on := 6, ground := Ground.phase }, { on := 7, ground := Ground.phase }, { on := 8, ground := Ground.phase }, { on := 9, ground := Ground.textOnly Departure.lateStores }, { on := 10, ground := Ground.phase }], guard := none }) rfl (fun Kq hKq => ?_) AllReadyH.nil
    go_simp
    refine hKq.out _ _ (HS.out _ (((Below.refl _ w1).alloc (Nat.le_refl _) _).drew)) (fun hHeld11 => ?_)
    clear hKq Kq
    try simp only [Act.put, List.setIfInBounds_toArray, List.set_cons_zero, List.set_cons_succ]
    refine wpAnyH_take (i := 12) (oi := { dst := some 7, op := Op.assign (Operand.tmp 26), type := 4, pos := "plans.go:78", after := #[{ on := 9, ground := Ground.data }, { on := 11, ground := Ground.chain }, { on := 0, ground := Ground.phase }, { on := 1, ground := Ground.phase }, { on := 2, ground := Ground.phase }, { on := 3, ground := Ground.phase }, { on := 4, ground := Ground.phase }, { on := 5, ground := Ground.phase }, { on := 6, ground := Ground.phase }, { on := 7, ground := Ground.phase }, { on := 8, ground := Ground.phase }, { on := 9, ground := Ground.phase }, { on := 10, ground := Ground.phase }, { on := 11, ground := Ground.phase }], guard := none }) (v := (.bool q)) rfl (by kernel_rfl) (by kernel_rfl) (by kernel_rfl) (fun _ _ _ h => h) (Or.inl ⟨by rfl, ?_⟩) hHeld11 ?_
    · rintro u ⟨p0, p1, p2⟩
      go_simp <;> first | rfl | kernel_rfl
    try simp only [Act.put, List.setIfInBounds_toArray, List.set_cons_zero, List.set_cons_succ]
    refine wpAnyH_done (by kernel_rfl) ?_ _
    clear hHeld hHeld10 hHeld11 HS
    have hb2 : Below w1.heap.size w1 (w1.alloc (.cells #[.int .u64 ya, .string ys, .int .i64 yw, .slice yl ym yc, .int .i64 yr] TPlan)).drew := ((Below.refl _ w1).alloc (Nat.le_refl _) _).drew
    have HB2 : Hid (Below w.heap.size w (w1.alloc (.cells #[.int .u64 ya, .string ys, .int .i64 yw, .slice yl ym yc, .int .i64 yr] TPlan)).drew) := HB1.out.trans (hb2.mono HB1.out.size)
    have R2 := Lib.hid (R1.out.later hb2)
    generalize (w1.alloc (.cells #[.int .u64 ya, .string ys, .int .i64 yw, .slice yl ym yc, .int .i64 yr] TPlan)).drew = W2 at HB2 R2 ⊢
    clear hb2 OM1 HA RC1 HLK R1 HB1
    generalize w1.heap.size = bz
    cases q with
    | true =>
      have HF : Hid (R = (mdl V, 8)) := by
        show _ = _
        rw [HR2.out, if_pos rfl]
      clear HR2
      go_wp2_with fail
      go_ret
      rw [HF.out]
      exact ⟨rfl, K, After.same H.out HB2.out, Nat.le_succ _⟩
    | false =>
      have HF : Hid (R = (upd (mdl V) id ⟨id, name, every, L, ret⟩, 0)) := by
        show _ = _
        rw [HR2.out, if_neg (by decide)]
      clear HR2
      go_upto_region 9 with (fail)
      have H2 := Lib.hid (H.out.later HB2.out)
      have RC2 := Lib.hid H2.out.blk
      obtain ⟨D, h1, h2⟩ := H2.out.mp
      have OM2 := Lib.hid h1
      have HA := Lib.hid h2
      obtain ⟨D2, hD2⟩ : ∃ D2, D2 = D := ⟨_, rfl⟩
      rw [← hD2] at OM2 HA
      clear hD2 h1 h2
      have HS : Hid (∀ u, Keeps (fun j => j = bm) W2 u → u.cell? ⟨c, 0, none⟩ = some (.map (some bm)) ∧ u.cell? ⟨by', 0, none⟩ = some (.int .u64 id) ∧ u.cell? ⟨by', 1, none⟩ = some (.string name) ∧ u.cell? ⟨by', 2, none⟩ = some (.int .i64 every) ∧ u.cell? ⟨by', 3, none⟩ = some (.slice a L.length cap) ∧ u.cell? ⟨by', 4, none⟩ = some (.int .i64 ret)) := fun u hu => by
        have n1 := H2.out.ne.1
        have n2 : by' ≠ bm := by
          have h1 := H.out.lt bm (.inr (.inl rfl))
          have h2 := HBY'.out
          omega
        have r1 := RC2.out.keeps hu n1
        have r2 := R2.out.keeps hu n2
        exact ⟨r1.cell 0, r2.cell 0, r2.cell 1, r2.cell 2, r2.cell 3, r2.cell 4⟩
      refine wp_region_held_drew (S := (fun u => u.cell? ⟨c, 0, none⟩ = some (.map (some bm)) ∧ u.cell? ⟨by', 0, none⟩ = some (.int .u64 id) ∧ u.cell? ⟨by', 1, none⟩ = some (.string name) ∧ u.cell? ⟨by', 2, none⟩ = some (.int .i64 every) ∧ u.cell? ⟨by', 3, none⟩ = some (.slice a L.length cap) ∧ u.cell? ⟨by', 4, none⟩ = some (.int .i64 ret))) (by kernel_rfl) ?_ (fun hHeld => ?_)
      · exact HS.out _ (Keeps.of _ (Below.refl _ W2).drew)
      refine wpAnyH_take (i := 0) (oi := { dst := some 28, op := Op.move (Operand.tmp 0), type := 25, pos := "plans.go:81", after := #[], guard := none }) (v := (.pointer (some ⟨c, 0, none⟩))) rfl (by kernel_rfl) (by kernel_rfl) (by kernel_rfl) (fun _ _ _ h => h) (Or.inl ⟨by rfl, ?_⟩) hHeld ?_
      · rintro u ⟨p0, p1, p2, p3, p4, p5⟩
        go_simp <;> first | rfl | kernel_rfl
      try simp only [Act.put, List.setIfInBounds_toArray, List.set_cons_zero, List.set_cons_succ]
      refine wpAnyH_take (i := 1) (oi := { dst := some 29, op := Op.nilCheck (Operand.tmp 28), type := 0, pos := "plans.go:81", after := #[{ on := 0, ground := Ground.data }], guard := none }) (v := (.pointer (some ⟨c, 0, none⟩))) rfl (by kernel_rfl) (by kernel_rfl) (by kernel_rfl) (fun _ _ _ h => h) (Or.inl ⟨by rfl, ?_⟩) hHeld ?_
      · rintro u ⟨p0, p1, p2, p3, p4, p5⟩
        go_simp <;> first | rfl | kernel_rfl
      try simp only [Act.put, List.setIfInBounds_toArray, List.set_cons_zero, List.set_cons_succ]
      refine wpAnyH_take (i := 2) (oi := { dst := some 30, op := Op.fieldAddr 61 (Operand.tmp 29) 0, type := 0, pos := "plans.go:81", after := #[{ on := 1, ground := Ground.data }], guard := none }) (v := (.pointer (some ⟨c, 0, none⟩))) rfl (by kernel_rfl) (by kernel_rfl) (by kernel_rfl) (fun _ _ _ h => h) (Or.inl ⟨by rfl, ?_⟩) hHeld ?_
      · rintro u ⟨p0, p1, p2, p3, p4, p5⟩
        go_simp <;> first | rfl | kernel_rfl
      try simp only [Act.put, List.setIfInBounds_toArray, List.set_cons_zero, List.set_cons_succ]
      refine wpAnyH_take (i := 3) (oi := { dst := some 31, op := Op.load 58 (Operand.tmp 30), type := 58, pos := "plans.go:81", after := #[{ on := 2, ground := Ground.data }], guard := none }) (v := (.map (some bm))) rfl (by kernel_rfl) (by kernel_rfl) (by kernel_rfl) (fun _ _ _ h => h) (Or.inl ⟨by rfl, ?_⟩) hHeld ?_
      · rintro u ⟨p0, p1, p2, p3, p4, p5⟩
        go_simp <;> first | rfl | kernel_rfl
      try simp only [Act.put, List.setIfInBounds_toArray, List.set_cons_zero, List.set_cons_succ]
      refine wpAnyH_take (i := 4) (oi := { dst := some 32, op := Op.fieldAddr 31 (Operand.tmp 3) 0, type := 0, pos := "plans.go:81", after := #[], guard := none }) (v := (.pointer (some ⟨by', 0, none⟩))) rfl (by kernel_rfl) (by kernel_rfl) (by kernel_rfl) (fun _ _ _ h => h) (Or.inl ⟨by rfl, ?_⟩) hHeld ?_
      · rintro u ⟨p0, p1, p2, p3, p4, p5⟩
        go_simp <;> first | rfl | kernel_rfl
      try simp only [Act.put, List.setIfInBounds_toArray, List.set_cons_zero, List.set_cons_succ]
      refine wpAnyH_take (i := 5) (oi := { dst := some 33, op := Op.load 28 (Operand.tmp 32), type := 28, pos := "plans.go:81", after := #[{ on := 4, ground := Ground.data }], guard := none }) (v := (.int .u64 id)) rfl (by kernel_rfl) (by kernel_rfl) (by kernel_rfl) (fun _ _ _ h => h) (Or.inl ⟨by rfl, ?_⟩) hHeld ?_
      · rintro u ⟨p0, p1, p2, p3, p4, p5⟩
        go_simp <;> first | rfl | kernel_rfl
      try simp only [Act.put, List.setIfInBounds_toArray, List.set_cons_zero, List.set_cons_succ]
      refine wpAnyH_take (i := 6) (oi := { dst := some 34, op := Op.load 31 (Operand.tmp 3), type := 31, pos := "plans.go:81", after := #[], guard := none }) (v := (.agg #[.int .u64 id, .string name, .int .i64 every, .slice a L.length cap, .int .i64 ret])) rfl (by kernel_rfl) (by kernel_rfl) (by kernel_rfl) (fun _ _ _ h => h) (Or.inl ⟨by rfl, ?_⟩) hHeld ?_
      · rintro u ⟨p0, p1, p2, p3, p4, p5⟩
        go_simp <;> first | rfl | kernel_rfl
      try simp only [Act.put, List.setIfInBounds_toArray, List.set_cons_zero, List.set_cons_succ]
      refine wpAnyH_ready (rs := [7]) (by kernel_rfl) (by simp) ?_
      refine AllReadyH.cons (o := { dst := some 35, op := Op.call { callee := Callee.value (Operand.func 27), args := #[Operand.tmp 34], argTypes := #[31] }, type := 31, pos := "plans.go:81", after := #[{ on := 6, ground := Ground.data }], guard := none }) rfl (fun Kq hKq => ?_) AllReadyH.nil
      go_simp
      refine (KD.out _ HB2.out.drew).mono ?_
      rintro e u3 ⟨g', cap', rfl, ho, hb3⟩
      have BU : Below W2.heap.size W2 u3 := ((Below.refl _ W2).drew).trans hb3
      have HO3 : Hid (u3.ownsRow W2.heap.size TPrice 2 (.slice (adr g') L.length cap') L.length (flatP L)) := ho
      have HRD : Hid (plR (.agg #[.int .u64 id, .string name, .int .i64 every, .slice (adr g') L.length cap', .int .i64 ret]) = some (Pv.dat ⟨⟨id, name, every, L, ret⟩, g', cap'⟩, [])) := plR_val ⟨⟨id, name, every, L, ret⟩, g', cap'⟩
      clear ho hb3
      obtain ⟨ad, had⟩ : ∃ ad, ad = adr g' := ⟨_, rfl⟩
      have HAD := Lib.hid had
      rw [← had] at HO3 HRD ⊢
      clear had
      go_wp2_with fail
      refine hKq.out _ _ (HS.out _ (Keeps.of _ BU)) (fun hHeld7 => ?_)
      clear hKq Kq
      try simp only [Act.put, List.setIfInBounds_toArray, List.set_cons_zero, List.set_cons_succ]
      refine wpAnyH_ready (rs := [8]) (by kernel_rfl) (by simp) ?_
      refine AllReadyH.cons (o := { dst := none, op := Op.mapUpdate 58 (Operand.tmp 31) (Operand.tmp 33) (Operand.tmp 35), type := 0, pos := "plans.go:81", after := #[{ on := 3, ground := Ground.data }, { on := 5, ground := Ground.data }, { on := 7, ground := Ground.data }, { on := 7, ground := Ground.chain }, { on := 0, ground := Ground.phase }, { on := 1, ground := Ground.phase }, { on := 2, ground := Ground.phase }, { on := 3, ground := Ground.phase }, { on := 4, ground := Ground.phase }, { on := 5, ground := Ground.phase }, { on := 6, ground := Ground.phase }, { on := 7, ground := Ground.phase }], guard := none }) rfl (fun Kq hKq => ?_) AllReadyH.nil
      obtain ⟨w4, hrun, own4, turn4⟩ := (map_keeps OM2.out (Keeps.of (fun _ => False) BU) (fun h => h)).store law Try.underlying58 (by unfold maxLen; omega) hkey HRD.out
      have KG4 : Hid (Keeps (fun j => j = bm) W2 w4) := (Keeps.of _ BU).grown turn4.grown fun j hj => by cases hj; exact .inl rfl
      have KB4 : Hid (Keeps (fun j => j = bm) u3 w4) := (Keeps.refl _ u3).grown turn4.grown fun j hj => by cases hj; exact .inl rfl
      have OM4 := Lib.hid own4
      clear own4 turn4
      go_simp
      refine hKq.out _ _ (HS.out _ KG4.out) (fun hHeld8 => ?_)
      clear hKq Kq
      try simp only [Act.put, List.setIfInBounds_toArray, List.set_cons_zero, List.set_cons_succ]
      refine wpAnyH_done (by kernel_rfl) ?_ _
      have NE2 := H2.out.ne
      have RC4 := Lib.hid (RC2.out.keeps KG4.out NE2.1)
      have RB4 := Lib.hid (R2.out.keeps KG4.out (show ¬ by' = bm from by
        have h1 := H.out.lt bm (.inr (.inl rfl))
        have h2 := HBY'.out
        omega))
      have OI4 := Lib.hid (own_keeps H2.out.own KG4.out fun j hj e => NE2.2.2 (e ▸ hj))
      have HLT : Hid (c < w.heap.size ∧ bm < w.heap.size ∧ w.heap.size ≤ W2.heap.size) := ⟨H.out.blk.lt, H.out.lt bm (.inr (.inl rfl)), HB2.out.size⟩
      have HLB : Hid (by' < W2.heap.size) := R2.out.lt
      have HOL : Hid (∀ j, (Value.slice ad L.length cap').ownBlock = some j → W2.heap.size ≤ j) := fun j hj => (HO3.out.lt j hj).1
      have OP4 := Lib.hid (own_keeps HO3.out KB4.out fun j hj e => by
        have h1 := HOL.out j hj
        have h2 := HLT.out
        omega)
      have KW4 : Hid (Keeps (fun j => j = bm) w w4) := (Keeps.of (fun j => j = bm) HB2.out).then KG4.out fun j hj => .inl hj
      have HNK : Hid (∀ j (hj : j < K.length), K[j] ≠ id) := fun j hj e => by
        have := (H.out.ks.mem id).1 (e ▸ List.getElem_mem hj)
        rw [← HQ.out] at this
        cases this
      have HUP := Lib.hid H.out.ks.up
      have HK := Lib.hid hk
      obtain ⟨ta, tc, rfl⟩ := own_form OI4.out
      clear hHeld hHeld7 hHeld8 HS BU hrun H2 RC2 OM2 KG4 KB4 HO3 NE2 R2 HB2 KD hk
      go_upto_region 10 with (fail)
      go_cut [8] (fun s8 wx => s8 = .int .i64 (K.length : Int) ∧ w4 = wx)
      case first =>
        have e1 : w4.cell? ⟨c, 1, none⟩ = some (.slice ta K.length tc) := RC4.out.cell 1
        go_wp2_with fail
        go_meet
        exact ⟨rfl, rfl⟩
      obtain ⟨rfl, rfl⟩ := hcut
      rename_i hKK
      apply hKK
      refine wp_seq_k (fun K2 hK2 => ?_)
      go_cut [8] (fun s8 wx => ∃ pa : Nat, s8 = .int .i64 (pa : Int) ∧ pa ≤ K.length ∧ Hid ((∀ j (h : j < K.length), j < pa → K[j] < id) ∧ ∀ j (h : j < K.length), pa ≤ j → id < K[j]) ∧ Hid (Below w4.heap.size w4 wx))
      case rest =>
        obtain ⟨pa, rfl, ha, HAA, HW5⟩ := hcut
        apply hK2

        go_upto_region 13 with (fail)
        have MD : Hid (Mid w wc c bm (n + 1) by' W2.heap.size (.slice ta K.length tc) (D2.put (.int .u64 id) (Pv.dat ⟨⟨id, name, every, L, ret⟩, g', cap'⟩)) [.int .u64 id, .string name, .int .i64 every, .slice a L.length cap, .int .i64 ret] (.slice ad L.length cap') L.length (flatP L) (.slice ta K.length tc)) := (Mid.mk RC4.out RB4.out OM4.out OP4.out (KW4.out.mono fun j hj => .inl (.inr (.inl hj)))).later HW5.out
        have OI5 := Lib.hid (own_later OI4.out HW5.out)
        clear RC4 RB4 OM4 OP4 KW4 OI4 HW5
        go_cut [8] (fun s8 wx => s8 = .int .i64 (pa : Int) ∧ ∃ (g cap5 : Nat) (cur : List Value), cur.length = cap5 ∧ Hid (K.length + 1 ≤ cap5 ∧ cap5 ≤ maxLen ∧ cur.take (K.length + 1) = (K ++ [id]).map uv) ∧ Hid (Rw wx g TU cur) ∧ Hid (Mid w wx c bm (n + 1) by' W2.heap.size (.slice ta K.length tc) (D2.put (.int .u64 id) (Pv.dat ⟨⟨id, name, every, L, ret⟩, g', cap'⟩)) [.int .u64 id, .string name, .int .i64 every, .slice a L.length cap, .int .i64 ret] (.slice ad L.length cap') L.length (flatP L) (.slice (some ⟨g, 0, none⟩) (K.length + 1) cap5)) ∧ Hid ((Value.slice ta K.length tc).ownBlock = some g ∨ w.heap.size ≤ g))
        case first =>
          obtain ⟨i0, hi0, hz0, hz1, hz2⟩ := info_parts infoU
          have e1 : wc.cell? ⟨c, 1, none⟩ = some (.slice ta K.length tc) := MD.out.rc.cell 1
          have HS : Hid (∀ u, Below wc.heap.size wc u → u.cell? ⟨by', 0, none⟩ = some (.int .u64 id)) := fun u hu => (MD.out.rb.later hu).cell 0
          refine wp_region_held_drew (S := (fun u => u.cell? ⟨by', 0, none⟩ = some (.int .u64 id))) (by kernel_rfl) ?_ (fun hHeld => ?_)
          · exact HS.out _ (Below.refl _ wc).drew
          refine wpAnyH_take (i := 0) (oi := { dst := some 58, op := Op.move (Operand.tmp 0), type := 25, pos := "plans.go:86", after := #[], guard := none }) (v := (.pointer (some ⟨c, 0, none⟩))) rfl (by kernel_rfl) (by kernel_rfl) (by kernel_rfl) (fun _ _ _ h => h) (Or.inl ⟨by rfl, ?_⟩) hHeld ?_
          · rintro u p0
            go_simp <;> first | rfl | kernel_rfl
          try simp only [Act.put, List.setIfInBounds_toArray, List.set_cons_zero, List.set_cons_succ]
          refine wpAnyH_take (i := 1) (oi := { dst := some 59, op := Op.move (Operand.tmp 0), type := 25, pos := "plans.go:86", after := #[], guard := none }) (v := (.pointer (some ⟨c, 0, none⟩))) rfl (by kernel_rfl) (by kernel_rfl) (by kernel_rfl) (fun _ _ _ h => h) (Or.inl ⟨by rfl, ?_⟩) hHeld ?_
          · rintro u p0
            go_simp <;> first | rfl | kernel_rfl
          try simp only [Act.put, List.setIfInBounds_toArray, List.set_cons_zero, List.set_cons_succ]
          refine wpAnyH_take (i := 2) (oi := { dst := some 60, op := Op.nilCheck (Operand.tmp 59), type := 0, pos := "plans.go:86", after := #[{ on := 1, ground := Ground.data }], guard := none }) (v := (.pointer (some ⟨c, 0, none⟩))) rfl (by kernel_rfl) (by kernel_rfl) (by kernel_rfl) (fun _ _ _ h => h) (Or.inl ⟨by rfl, ?_⟩) hHeld ?_
          · rintro u p0
            go_simp <;> first | rfl | kernel_rfl
          try simp only [Act.put, List.setIfInBounds_toArray, List.set_cons_zero, List.set_cons_succ]
          refine wpAnyH_take (i := 3) (oi := { dst := some 61, op := Op.fieldAddr 61 (Operand.tmp 60) 1, type := 0, pos := "plans.go:86", after := #[{ on := 2, ground := Ground.data }], guard := none }) (v := (.pointer (some ⟨c, 1, none⟩))) rfl (by kernel_rfl) (by kernel_rfl) (by kernel_rfl) (fun _ _ _ h => h) (Or.inl ⟨by rfl, ?_⟩) hHeld ?_
          · rintro u p0
            go_simp <;> first | rfl | kernel_rfl
          try simp only [Act.put, List.setIfInBounds_toArray, List.set_cons_zero, List.set_cons_succ]
          refine wpAnyH_take (i := 5) (oi := { dst := some 63, op := Op.fieldAddr 31 (Operand.tmp 3) 0, type := 0, pos := "plans.go:86", after := #[], guard := none }) (v := (.pointer (some ⟨by', 0, none⟩))) rfl (by kernel_rfl) (by kernel_rfl) (by kernel_rfl) (fun _ _ _ h => h) (Or.inl ⟨by rfl, ?_⟩) hHeld ?_
          · rintro u p0
            go_simp <;> first | rfl | kernel_rfl
          try simp only [Act.put, List.setIfInBounds_toArray, List.set_cons_zero, List.set_cons_succ]
          refine wpAnyH_take (i := 6) (oi := { dst := some 64, op := Op.load 28 (Operand.tmp 63), type := 28, pos := "plans.go:86", after := #[{ on := 5, ground := Ground.data }], guard := none }) (v := (.int .u64 id)) rfl (by kernel_rfl) (by kernel_rfl) (by kernel_rfl) (fun _ _ _ h => h) (Or.inl ⟨by rfl, ?_⟩) hHeld ?_
          · rintro u p0
            go_simp <;> first | rfl | kernel_rfl
          try simp only [Act.put, List.setIfInBounds_toArray, List.set_cons_zero, List.set_cons_succ]
          refine wpAnyH_ready (rs := [4, 7]) (by kernel_rfl) (by simp) ?_
          refine AllReadyH.cons (o := { dst := some 62, op := Op.load 59 (Operand.tmp 61), type := 59, pos := "plans.go:86", after := #[{ on := 3, ground := Ground.data }], guard := none }) rfl (fun Kq hKq => ?_) (AllReadyH.cons (o := { dst := some 65, op := Op.buildSlice 59 1 #[(0, Operand.tmp 64)], type := 59, pos := "plans.go:86", after := #[{ on := 6, ground := Ground.data }], guard := none }) rfl (fun Kq hKq => ?_) AllReadyH.nil)
          · go_simp
            refine hKq.out _ _ (HS.out _ (Below.refl _ wc).drew) (fun hHeld4 => ?_)
            clear hKq Kq
            try simp only [Act.put, List.setIfInBounds_toArray, List.set_cons_zero, List.set_cons_succ]
            refine wpAnyH_ready (rs := [7]) (by kernel_rfl) (by simp) ?_
            refine AllReadyH.cons (o := { dst := some 65, op := Op.buildSlice 59 1 #[(0, Operand.tmp 64)], type := 59, pos := "plans.go:86", after := #[{ on := 6, ground := Ground.data }], guard := none }) rfl (fun Kq hKq => ?_) AllReadyH.nil
            go_simp
            refine hKq.out _ _ (HS.out _ (((Below.refl _ wc).alloc (Nat.le_refl _) _).drew)) (fun hHeld7 => ?_)
            clear hKq Kq
            try simp only [Act.put, List.setIfInBounds_toArray, List.set_cons_zero, List.set_cons_succ]
            clear e1
            refine wpAnyH_ready (rs := [8]) (by kernel_rfl) (by simp) ?_
            refine AllReadyH.cons (o := { dst := some 66, op := Op.call { callee := Callee.builtin Builtin.append, args := #[Operand.tmp 62, Operand.tmp 65], argTypes := #[59, 59] }, type := 59, pos := "plans.go:86", after := #[{ on := 4, ground := Ground.data }, { on := 7, ground := Ground.data }], guard := none }) rfl (fun Kq hKq => ?_) AllReadyH.nil
            obtain ⟨v', w6, hrun, hown6, hgrow, _, hat⟩ := run_append_own_at (P := Try.prog) (w := ((wc.alloc (.cells #[.int .u64 id] TU)).drew)) 0 TUs TUs TU i0 (.int .u64 0) 1 8 Try.underlying59 hi0 hz0 hz1 hz2 rfl (by decide) _ K.length (K.map uv) (own_later OI5.out (((Below.refl _ wc).alloc (Nat.le_refl _) _).drew)) ⟨wc.heap.size, 0, none⟩ 1 1 [uv id] rfl (cell_one_new _ _ _) (by simp [Value.oneCell']) (by unfold maxLen; omega) (by omega) (Nat.zero_le _)
            have hm6 := (MD.out.later (((Below.refl _ wc).alloc (Nat.le_refl _) _).drew)).row (own_later OI5.out (((Below.refl _ wc).alloc (Nat.le_refl _) _).drew)) (fun j hj => .inl hj) ((Keeps.refl (fun j => (Value.slice ta K.length tc).ownBlock = some j) _).grown hgrow fun j hj => .inl hj)
            obtain ⟨g, cap5, cur, rfl, hcl, hc3, hrg, hmid, hng⟩ := MD.out.append OI5.out (((Below.refl _ wc).alloc (Nat.le_refl _) _).drew) hown6 hgrow hat
            refine step_append rfl _ _ TUs rfl _ _ _ _ _ rfl rfl hrun ?_
            refine hKq.out _ _ (hm6.rb.cell 0) (fun hHeld8 => ?_)
            clear hKq Kq
            try simp only [Act.put, List.setIfInBounds_toArray, List.set_cons_zero, List.set_cons_succ]
            refine wpAnyH_take (i := 9) (oi := { dst := some 67, op := Op.nilCheck (Operand.tmp 58), type := 0, pos := "plans.go:86", after := #[{ on := 0, ground := Ground.data }, { on := 0, ground := Ground.phase }, { on := 1, ground := Ground.phase }, { on := 2, ground := Ground.phase }, { on := 3, ground := Ground.phase }, { on := 4, ground := Ground.phase }, { on := 5, ground := Ground.phase }, { on := 6, ground := Ground.phase }, { on := 7, ground := Ground.phase }, { on := 8, ground := Ground.phase }], guard := none }) (v := (.pointer (some ⟨c, 0, none⟩))) rfl (by kernel_rfl) (by kernel_rfl) (by kernel_rfl) (fun _ _ _ h => h) (Or.inl ⟨by rfl, ?_⟩) hHeld8 ?_
            · rintro u p0
              go_simp <;> first | rfl | kernel_rfl
            try simp only [Act.put, List.setIfInBounds_toArray, List.set_cons_zero, List.set_cons_succ]
            refine wpAnyH_take (i := 10) (oi := { dst := some 68, op := Op.fieldAddr 61 (Operand.tmp 67) 1, type := 0, pos := "plans.go:86", after := #[{ on := 9, ground := Ground.data }, { on := 0, ground := Ground.phase }, { on := 1, ground := Ground.phase }, { on := 2, ground := Ground.phase }, { on := 3, ground := Ground.phase }, { on := 4, ground := Ground.phase }, { on := 5, ground := Ground.phase }, { on := 6, ground := Ground.phase }, { on := 7, ground := Ground.phase }, { on := 8, ground := Ground.phase }], guard := none }) (v := (.pointer (some ⟨c, 1, none⟩))) rfl (by kernel_rfl) (by kernel_rfl) (by kernel_rfl) (fun _ _ _ h => h) (Or.inl ⟨by rfl, ?_⟩) hHeld8 ?_
            · rintro u p0
              go_simp <;> first | rfl | kernel_rfl
            try simp only [Act.put, List.setIfInBounds_toArray, List.set_cons_zero, List.set_cons_succ]
            refine wpAnyH_ready (rs := [11]) (by kernel_rfl) (by simp) ?_
            refine AllReadyH.cons (o := { dst := none, op := Op.store 59 (Operand.tmp 68) (Operand.tmp 66), type := 0, pos := "plans.go:86", after := #[{ on := 10, ground := Ground.data }, { on := 8, ground := Ground.data }, { on := 8, ground := Ground.chain }, { on := 0, ground := Ground.phase }, { on := 1, ground := Ground.phase }, { on := 2, ground := Ground.phase }, { on := 3, ground := Ground.phase }, { on := 4, ground := Ground.phase }, { on := 5, ground := Ground.phase }, { on := 6, ground := Ground.phase }, { on := 7, ground := Ground.phase }, { on := 8, ground := Ground.phase }], guard := none }) rfl (fun Kq hKq => ?_) AllReadyH.nil
            have e6 : w6.cell? ⟨c, 1, none⟩ = some (.slice ta K.length tc) := hm6.rc.cell 1
            have f6 : w6.frozen? ⟨c, 1, none⟩ = false := hm6.rc.frozen 1
            go_simp
            refine hKq.out _ _ (hmid.rb.cell 0) (fun hHeld11 => ?_)
            clear hKq Kq
            try simp only [Act.put, List.setIfInBounds_toArray, List.set_cons_zero, List.set_cons_succ]
            refine wpAnyH_done (by kernel_rfl) ?_ _
            go_wp2_with fail
            go_meet
            exact ⟨rfl, g, cap5, cur, hcl, hc3, hrg, hmid, hng⟩
          · go_simp
            refine hKq.out _ _ (HS.out _ (((Below.refl _ wc).alloc (Nat.le_refl _) _).drew)) (fun hHeld7 => ?_)
            clear hKq Kq
            try simp only [Act.put, List.setIfInBounds_toArray, List.set_cons_zero, List.set_cons_succ]
            refine wpAnyH_ready (rs := [4]) (by kernel_rfl) (by simp) ?_
            refine AllReadyH.cons (o := { dst := some 62, op := Op.load 59 (Operand.tmp 61), type := 59, pos := "plans.go:86", after := #[{ on := 3, ground := Ground.data }], guard := none }) rfl (fun Kq hKq => ?_) AllReadyH.nil
            have e2 : ((wc.alloc (.cells #[.int .u64 id] TU)).drew).cell? ⟨c, 1, none⟩ = some (.slice ta K.length tc) := (MD.out.later (((Below.refl _ wc).alloc (Nat.le_refl _) _).drew)).rc.cell 1
            go_simp
            refine hKq.out _ _ (HS.out _ (((Below.refl _ wc).alloc (Nat.le_refl _) _).drew)) (fun hHeld4 => ?_)
            clear hKq Kq
            try simp only [Act.put, List.setIfInBounds_toArray, List.set_cons_zero, List.set_cons_succ]
            clear e1 e2
            refine wpAnyH_ready (rs := [8]) (by kernel_rfl) (by simp) ?_
            refine AllReadyH.cons (o := { dst := some 66, op := Op.call { callee := Callee.builtin Builtin.append, args := #[Operand.tmp 62, Operand.tmp 65], argTypes := #[59, 59] }, type := 59, pos := "plans.go:86", after := #[{ on := 4, ground := Ground.data }, { on := 7, ground := Ground.data }], guard := none }) rfl (fun Kq hKq => ?_) AllReadyH.nil
            obtain ⟨v', w6, hrun, hown6, hgrow, _, hat⟩ := run_append_own_at (P := Try.prog) (w := ((wc.alloc (.cells #[.int .u64 id] TU)).drew)) 0 TUs TUs TU i0 (.int .u64 0) 1 8 Try.underlying59 hi0 hz0 hz1 hz2 rfl (by decide) _ K.length (K.map uv) (own_later OI5.out (((Below.refl _ wc).alloc (Nat.le_refl _) _).drew)) ⟨wc.heap.size, 0, none⟩ 1 1 [uv id] rfl (cell_one_new _ _ _) (by simp [Value.oneCell']) (by unfold maxLen; omega) (by omega) (Nat.zero_le _)
            have hm6 := (MD.out.later (((Below.refl _ wc).alloc (Nat.le_refl _) _).drew)).row (own_later OI5.out (((Below.refl _ wc).alloc (Nat.le_refl _) _).drew)) (fun j hj => .inl hj) ((Keeps.refl (fun j => (Value.slice ta K.length tc).ownBlock = some j) _).grown hgrow fun j hj => .inl hj)
            obtain ⟨g, cap5, cur, rfl, hcl, hc3, hrg, hmid, hng⟩ := MD.out.append OI5.out (((Below.refl _ wc).alloc (Nat.le_refl _) _).drew) hown6 hgrow hat
            refine step_append rfl _ _ TUs rfl _ _ _ _ _ rfl rfl hrun ?_
            refine hKq.out _ _ (hm6.rb.cell 0) (fun hHeld8 => ?_)
            clear hKq Kq
            try simp only [Act.put, List.setIfInBounds_toArray, List.set_cons_zero, List.set_cons_succ]
            refine wpAnyH_take (i := 9) (oi := { dst := some 67, op := Op.nilCheck (Operand.tmp 58), type := 0, pos := "plans.go:86", after := #[{ on := 0, ground := Ground.data }, { on := 0, ground := Ground.phase }, { on := 1, ground := Ground.phase }, { on := 2, ground := Ground.phase }, { on := 3, ground := Ground.phase }, { on := 4, ground := Ground.phase }, { on := 5, ground := Ground.phase }, { on := 6, ground := Ground.phase }, { on := 7, ground := Ground.phase }, { on := 8, ground := Ground.phase }], guard := none }) (v := (.pointer (some ⟨c, 0, none⟩))) rfl (by kernel_rfl) (by kernel_rfl) (by kernel_rfl) (fun _ _ _ h => h) (Or.inl ⟨by rfl, ?_⟩) hHeld8 ?_
            · rintro u p0
              go_simp <;> first | rfl | kernel_rfl
            try simp only [Act.put, List.setIfInBounds_toArray, List.set_cons_zero, List.set_cons_succ]
            refine wpAnyH_take (i := 10) (oi := { dst := some 68, op := Op.fieldAddr 61 (Operand.tmp 67) 1, type := 0, pos := "plans.go:86", after := #[{ on := 9, ground := Ground.data }, { on := 0, ground := Ground.phase }, { on := 1, ground := Ground.phase }, { on := 2, ground := Ground.phase }, { on := 3, ground := Ground.phase }, { on := 4, ground := Ground.phase }, { on := 5, ground := Ground.phase }, { on := 6, ground := Ground.phase }, { on := 7, ground := Ground.phase }, { on := 8, ground := Ground.phase }], guard := none }) (v := (.pointer (some ⟨c, 1, none⟩))) rfl (by kernel_rfl) (by kernel_rfl) (by kernel_rfl) (fun _ _ _ h => h) (Or.inl ⟨by rfl, ?_⟩) hHeld8 ?_
            · rintro u p0
              go_simp <;> first | rfl | kernel_rfl
            try simp only [Act.put, List.setIfInBounds_toArray, List.set_cons_zero, List.set_cons_succ]
            refine wpAnyH_ready (rs := [11]) (by kernel_rfl) (by simp) ?_
            refine AllReadyH.cons (o := { dst := none, op := Op.store 59 (Operand.tmp 68) (Operand.tmp 66), type := 0, pos := "plans.go:86", after := #[{ on := 10, ground := Ground.data }, { on := 8, ground := Ground.data }, { on := 8, ground := Ground.chain }, { on := 0, ground := Ground.phase }, { on := 1, ground := Ground.phase }, { on := 2, ground := Ground.phase }, { on := 3, ground := Ground.phase }, { on := 4, ground := Ground.phase }, { on := 5, ground := Ground.phase }, { on := 6, ground := Ground.phase }, { on := 7, ground := Ground.phase }, { on := 8, ground := Ground.phase }], guard := none }) rfl (fun Kq hKq => ?_) AllReadyH.nil
            have e6 : w6.cell? ⟨c, 1, none⟩ = some (.slice ta K.length tc) := hm6.rc.cell 1
            have f6 : w6.frozen? ⟨c, 1, none⟩ = false := hm6.rc.frozen 1
            go_simp
            refine hKq.out _ _ (hmid.rb.cell 0) (fun hHeld11 => ?_)
            clear hKq Kq
            try simp only [Act.put, List.setIfInBounds_toArray, List.set_cons_zero, List.set_cons_succ]
            refine wpAnyH_done (by kernel_rfl) ?_ _
            go_wp2_with fail
            go_meet
            exact ⟨rfl, g, cap5, cur, hcl, hc3, hrg, hmid, hng⟩
        obtain ⟨rfl, g, cap5, cur, hcl, HC3, RG, MD6, HNG⟩ := hcut
        rename_i hK6
        apply hK6
        obtain ⟨W6, rfl⟩ : ∃ W6, W6 = wc := ⟨_, rfl⟩
        go_upto_region 14 with (fail)
        obtain ⟨ca, rfl⟩ : ∃ ca : Array Value, cur = ca.toList := ⟨cur.toArray, by simp⟩
        obtain ⟨hN, hcap, htk⟩ := HC3.out
        have hcs : ca.size = cap5 := by simpa using hcl
        have HTK := Lib.hid htk
        have HSZ := Lib.hid hcs
        clear htk HC3 hcl hcs
        have HGC : Hid (g ≠ c ∧ g ≠ by') := ⟨rw_ne RG.out MD6.out.rc (by decide), rw_ne RG.out MD6.out.rb (by decide)⟩
        have HNW : Hid (w.heap.size ≤ W6.heap.size) := MD6.out.kw.size
        go_cut [8] (fun s8 wx => s8 = .int .i64 (pa : Int) ∧ ∃ L5 : List Value, L5.length = cap5 ∧ Hid (Rw wx g TU L5) ∧ Hid ((L5.set pa (uv id)).take (K.length + 1) = (ins K pa id).map uv) ∧ Hid (Keeps (fun j => j = g) W6 wx))
        case first =>
          have q1 : W6.cell? ⟨c, 1, none⟩ = some (.slice (some ⟨g, 0, none⟩) (K.length + 1) cap5) := MD6.out.rc.cell 1
          have hs1 := fun u => slice_ints g (K.length + 1) cap5 (pa + 1) (by omega) hN u
          have hs2 := fun u => slice_ints g (K.length + 1) cap5 pa (by omega) hN u
          rw [show ((pa + 1 : Nat) : Int) = (pa : Int) + 1 by omega] at hs1
          have hw : IntKind.i64.wrap ((pa : Int) + 1) = (pa : Int) + 1 := IntWalk.i64_in _ ⟨by omega, by omega⟩
          by_cases hlt : pa < K.length
          · rw [if_neg (by omega)] at hs1 hs2
            have HGG : Hid (W6.drew.heap[g]? = some (.cells ca TU (0, 0))) := by
              have : W6.heap[g]? = some (.cells ca.toList.toArray TU (0, 0)) := RG.out
              show W6.heap[g]? = _
              rw [this]
            have HLEN : Hid (((K.drop pa).map uv).length = Nat.min (K.length + 1 - pa) (K.length - pa)) := by
              show _ = _
              rw [List.length_map, List.length_drop]
              show _ = min _ _
              omega
            have HLEN2 : Hid (((K.drop pa).map uv).length = Nat.min (K.length + 1 - pa) (K.length + 1 - (pa + 1))) := by
              show _ = _
              rw [List.length_map, List.length_drop]
              show _ = min _ _
              omega
            have HSRC : Hid (∀ (j : Nat) (v : Value), ((K.drop pa).map uv)[j]? = some v → W6.drew.cell? ((⟨g, pa, none⟩ : Addr).add j) = some v) := fun j v hv => by
              have hj : j < K.length - pa := by
                have := (List.getElem?_eq_some_iff.1 hv).1
                simpa using this
              rw [Go.WideShapes.add_plain]
              show W6.cell? ⟨g, pa + j, none⟩ = some v
              rw [RG.out.cell, ← hv]
              have e : ca.toList[pa + j]? = ((K ++ [id]).map uv)[pa + j]? := by rw [← HTK.out, List.getElem?_take_of_lt (by omega)]
              rw [e, List.getElem?_map, List.getElem?_map, List.getElem?_drop, List.getElem?_append_left (by omega)]
            have HFIT : Hid (pa + 1 + ((K.drop pa).map uv).length ≤ ca.size) := by
              show _ ≤ _
              rw [List.length_map, List.length_drop, HSZ.out]
              omega
            have HONE : Hid (∀ v ∈ (K.drop pa).map uv, v.oneCell' = true) := fun v hv => by
              obtain ⟨q, _, rfl⟩ := List.mem_map.1 hv
              rfl
            have HFIN : Hid (∃ L5 : List Value, L5.length = cap5 ∧ Hid (Rw (W6.drew.setRow g (ca.toList.take (pa + 1) ++ ((K.drop pa).map uv ++ ca.toList.drop (pa + 1 + ((K.drop pa).map uv).length))).toArray) g TU L5) ∧ Hid ((L5.set pa (uv id)).take (K.length + 1) = (ins K pa id).map uv) ∧ Hid (Keeps (fun j => j = g) W6 (W6.drew.setRow g (ca.toList.take (pa + 1) ++ ((K.drop pa).map uv ++ ca.toList.drop (pa + 1 + ((K.drop pa).map uv).length))).toArray))) := by
              refine ⟨splice ca.toList (pa + 1) ((K.drop pa).map uv), ?_, setRow_heap W6.drew g ca _ TU (0, 0) HGG.out, ins_take ha (by simp [HSZ.out]; omega) HTK.out, ?_⟩
              · rw [length_splice _ _ _ (by have := HFIT.out; simpa using this)]
                simp [HSZ.out]
              · exact (Keeps.refl (fun j => j = g) W6).drew.then (S := fun j => j = g) ⟨rfl, rfl, rfl, by simp [World.setRow], fun q hq hne => setRow_other _ _ _ _ hne⟩ fun j hj => .inl hj
            clear hlt
            go_still_tail 13, (by kernel_rfl)
            change wpList _ _ _ _ _ W6.drew
            refine wpList_copy_own rfl _ _ TUs TUs rfl TU Try.underlying59 (by kernel_rfl) g (pa + 1) _ _ ⟨g, pa, none⟩ _ _ rfl rfl ca TU HGG.out ((K.drop pa).map uv) (by first | exact HLEN.out | exact HLEN2.out) HSRC.out HFIT.out HONE.out ?_
            go_wp2_with fail
            go_meet
            exact ⟨rfl, HFIN.out⟩
          · obtain rfl : pa = K.length := by omega
            rw [if_neg (by omega)] at hs2
            obtain ⟨dp, hdp⟩ : ∃ dp, dp = (if cap5 = K.length + 1 then some (⟨g, 0, none⟩ : Addr) else some ⟨g, K.length + 1, none⟩) := ⟨_, rfl⟩
            rw [← hdp] at hs1
            have HFIN : Hid (∃ L5 : List Value, L5.length = cap5 ∧ Hid (Rw W6.drew g TU L5) ∧ Hid ((L5.set K.length (uv id)).take (K.length + 1) = (ins K K.length id).map uv) ∧ Hid (Keeps (fun j => j = g) W6 W6.drew)) := by
              refine ⟨ca.toList, by simp [HSZ.out], RG.out, ?_, (Keeps.refl (fun j => j = g) W6).drew⟩
              have := ins_take (a := K.length) (Nat.le_refl _) (by simp [HSZ.out]; omega) HTK.out
              rw [List.drop_length, List.map_nil, splice_nil] at this
              exact this
            clear hdp hlt
            go_still_tail 13, (by kernel_rfl)
            change wpList _ _ _ _ _ W6.drew
            refine wpList_copy_nothing rfl _ _ TUs TUs rfl TU Try.underlying59 (by kernel_rfl) _ _ _ _ _ _ rfl rfl (by first | rfl | simp | omega) ?_
            go_wp2_with fail
            go_meet
            exact ⟨rfl, HFIN.out⟩
        obtain ⟨rfl, L5, hL5, RG5, HT5, KG5⟩ := hcut
        rename_i hK7
        apply hK7
        have KGV : Hid (Keeps (fun j => (Value.slice (some ⟨g, 0, none⟩) (K.length + 1) cap5).ownBlock = some j) W6 wc) := KG5.out.mono fun j hj => .inl (by rw [hj]; rfl)
        have HOW6 : Hid (W6.ownsRow 0 TU 1 (.slice (some ⟨g, 0, none⟩) (K.length + 1) cap5) (K.length + 1) ((K ++ [id]).map uv)) := ⟨by simp, .inr ⟨g, cap5, ca, rfl, Nat.zero_le _, by have : W6.heap[g]? = some (.cells ca.toList.toArray TU (0, 0)) := RG.out; rw [this], hN, hcap, by rw [HSZ.out, Nat.mul_one], by rw [Nat.mul_one]; exact HTK.out⟩⟩
        have MD7 := Lib.hid (MD6.out.row HOW6.out (fun j hj => by injection hj with hj; rw [← hj]; exact HNG.out) KGV.out)
        clear MD6 HOW6
        have q1 : wc.cell? ⟨c, 1, none⟩ = some (.slice (some ⟨g, 0, none⟩) (K.length + 1) cap5) := MD7.out.rc.cell 1
        have q2 : wc.cell? ⟨g, pa, none⟩ = some (L5[pa]'(by omega)) := by rw [RG5.out.cell]; simp
        have q3 := RG5.out.frozen pa
        have b0 : wc.cell? ⟨by', 0, none⟩ = some (.int .u64 id) := MD7.out.rb.cell 0
        have a1 : (0 : Int) ≤ (pa : Int) := by omega
        have a2 : (pa : Int) < (K.length : Int) + 1 := by omega
        go_upto_region 15 with (fail)
        go_still_tail 7, (by kernel_rfl)
        change wpList _ _ _ _ _ wc.drew
        have q2d : wc.drew.cell? ⟨g, pa, none⟩ = some (L5[pa]'(by omega)) := q2
        have q3d : wc.drew.frozen? ⟨g, pa, none⟩ = false := q3
        clear q2 q3 q1 b0
        go_wp2_with fail
        go_ret
        rw [HF.out]
        refine ⟨rfl, ins K pa id, ?_, Nat.le_of_eq (ins_len K pa id)⟩
        have kz : Keeps (fun j => (Value.slice (some ⟨g, 0, none⟩) (K.length + 1) cap5).ownBlock = some j) wc (wc.setCell ⟨g, pa, none⟩ (.int .u64 id)).drew := ((Keeps.refl (fun j => (Value.slice (some ⟨g, 0, none⟩) (K.length + 1) cap5).ownBlock = some j) wc).setCell g pa _ (.inl rfl)).drew
        have RG8 : Rw (wc.setCell ⟨g, pa, none⟩ (.int .u64 id)).drew g TU (L5.set pa (uv id)) := RG5.out.setCell pa _
        have HOW : (wc.setCell ⟨g, pa, none⟩ (.int .u64 id)).drew.ownsRow 0 TU 1 (.slice (some ⟨g, 0, none⟩) (K.length + 1) cap5) (K.length + 1) ((ins K pa id).map uv) := ⟨by rw [List.length_map, ins_len, Nat.mul_one], .inr ⟨g, cap5, (L5.set pa (uv id)).toArray, rfl, Nat.zero_le _, RG8, hN, hcap, by simp [hL5], by rw [Nat.mul_one]; simpa using HT5.out⟩⟩
        have HOL7 : wc.ownsRow 0 TU 1 (.slice (some ⟨g, 0, none⟩) (K.length + 1) cap5) (K.length + 1) ((L5.take (K.length + 1))) := ⟨by simp [hL5]; omega, .inr ⟨g, cap5, L5.toArray, rfl, Nat.zero_le _, RG5.out, hN, hcap, by simp [hL5], by rw [Nat.mul_one]⟩⟩
        have MD8 := MD7.out.row HOL7 (fun j hj => by injection hj with hj; rw [← hj]; exact HNG.out) kz
        rw [HAD.out] at MD8
        exact after_add H.out (p := ⟨⟨id, name, every, L, ret⟩, g', cap'⟩) MD8 (HA.out.put id ⟨⟨id, name, every, L, ret⟩, g', cap'⟩) HOW (fun j hj => Nat.le_trans HLT.out.2.2 (HOL.out j (by rw [HAD.out]; exact own_sl (p := ⟨⟨id, name, every, L, ret⟩, g', cap'⟩) hj))) (fun j hj => by injection hj with hj; rw [← hj]; exact HNG.out) HOK.out HK.out
          (H.out.ks.new _ (fun q hq => by
            obtain ⟨j, hj, rfl⟩ := List.getElem_of_mem hq
            rw [List.length_take] at hj
            rw [List.getElem_take]
            exact HAA.out.1 j (by omega) (by omega)) (fun q hq => by
            obtain ⟨j, hj, rfl⟩ := List.getElem_of_mem hq
            rw [List.length_drop] at hj
            rw [List.getElem_drop]
            exact HAA.out.2 (pa + j) (by omega) (by omega)))
      go_wp2_with fail
      go_loopg [8] K.length (fun kx s8 wr => ∃ i : Nat, s8 = .int .i64 (i : Int) ∧ i ≤ K.length ∧ Hid (∀ j (h : j < K.length), i ≤ j → id < K[j]) ∧ Hid (Below w4.heap.size w4 wr) ∧ i ≤ kx)
      case atStart => exact ⟨K.length, rfl, Nat.le_refl _, fun j h hj => absurd hj (by omega), Below.refl _ _, Nat.le_refl _⟩
      case round =>
        obtain ⟨i, rfl, hi, HJ, HW, hkx⟩ := hrel
        by_cases hp : 0 < i
        · obtain ⟨m, rfl⟩ : ∃ m, i = m + 1 := ⟨i - 1, by omega⟩
          have hm : m < K.length := by omega
          obtain ⟨g, gcap, ev, hc⟩ := own_at (own_later OI4.out HW.out) hm
          obtain ⟨rfl, rfl⟩ : ta = some ⟨g, 0, none⟩ ∧ tc = gcap := by simpa using ev
          have hw1 : IntKind.i64.wrap (((m + 1 : Nat) : Int) - 1) = (m : Int) := by rw [show ((m + 1 : Nat) : Int) - 1 = (m : Int) by omega]; exact IntWalk.i64_in _ ⟨by omega, by omega⟩
          obtain ⟨z, hz⟩ : ∃ z, z = K[m] := ⟨_, rfl⟩
          rw [← hz] at hc
          have HZ := Lib.hid hz
          have i0' : (0 : Int) < ((m + 1 : Nat) : Int) := by omega
          have m0 : (0 : Int) ≤ (m : Int) := by omega
          have m1 : (m : Int) < (K.length : Int) := by omega
          have e1 : wr.cell? ⟨c, 1, none⟩ = some (.slice (some ⟨g, 0, none⟩) K.length tc) := (RC4.out.later HW.out).cell 1
          have b0 : wr.cell? ⟨by', 0, none⟩ = some (.int .u64 id) := (RB4.out.later HW.out).cell 0
          clear hz ev hp
          by_cases hgt : id < z
          · have HJ2 : Hid (∀ j (h : j < K.length), m ≤ j → id < K[j]) := fun j h hj => by
              by_cases e : m + 1 ≤ j
              · exact HJ.out j h e
              · obtain rfl : j = m := by omega
                rw [← HZ.out]; exact hgt
            go_wp2_with fail
            go_quiet (fail)
            go_wp2_with fail
            go_roundg m
            case measure => omega
            case rel => exact ⟨m, rfl, by omega, HJ2, below_drewN HW.out _, Nat.le_refl _⟩
          · have HF : Hid ((∀ j (h : j < K.length), j < m + 1 → K[j] < id) ∧ ∀ j (h : j < K.length), m + 1 ≤ j → id < K[j]) := by
              refine ⟨fun j h hj => ?_, HJ.out⟩
              have hzk : z < id := by
                have := HNK.out m hm
                rw [← HZ.out] at this
                omega
              by_cases e : j = m
              · subst e; rw [← HZ.out]; exact hzk
              · have := up_le HUP.out (show j < m by omega) hm
                rw [← HZ.out] at this
                omega
            go_wp2_with fail
            go_quiet (fail)
            go_wp2_with fail
            go_meet
            exact ⟨m + 1, rfl, hi, HF, below_drewN HW.out _⟩
        · obtain rfl : i = 0 := by omega
          have HF : Hid ((∀ j (h : j < K.length), j < 0 → K[j] < id) ∧ ∀ j (h : j < K.length), 0 ≤ j → id < K[j]) := ⟨fun j _ hj => absurd hj (by omega), HJ.out⟩
          clear hp
          go_wp2_with fail
          go_quiet (fail)
          go_wp2_with fail
          go_meet
          exact ⟨0, rfl, Nat.zero_le _, HF, below_drewN HW.out _⟩
end
end Go.Proofs.Ytakpoabpgdmneaa.Pl
