/- Package quittancelaw04: torn sheaves: the walk. -/
import Derived.Test.YtbmlnodimcalgaaDoorSfTorn1
import Derived.Deep.DeepCutAuto
import Derived.StillTailTactics
import Derived.Outline
namespace Go.Proofs.YtbmlnodimcalgaaDoor.Shf
open Go.RowKit Tal Rf Cm
/-- What holds between two writings. -/
structure Tw (w : World) (g : Nat) (L : List Ovr) (i : Nat) (v : Value) (W : List Sf.Wr) (B : List (List UInt8)) (wr : World) : Prop where
  le : i ≤ L.length
  wl : W.length ≤ i
  i40 : i ≤ 40
  was : Was wr (g + 1) v W
  row : RowAt wr g (B.map sv)
  good : Sf.Good W B
  bd : ∀ y ∈ W, y.f ≤ 12 ∧ y.leaves.length ≤ 12
  b : Below w.heap.size w wr
/-- What holds within a writing: the first k leaves are under way. -/
structure In3 (w : World) (g X gb : Nat) (v : Value) (W : List Sf.Wr) (B : List (List UInt8)) (y : Sf.Wr) (x : Ovr) (k : Nat) (N : Nat → Nat) (Bk : List (List UInt8)) (wh : Bool) (wr : World) : Prop where
  row : RowAt wr g (Bk.map sv)
  un : Sf.Under B y N k Bk
  n64 : ∀ j, N j ≤ 64
  all : wh = true → ∀ j, j < k → N j = 64
  x4 : Ov4 wr X 0 x
  ss : Strs wr (some ⟨gb, 0, none⟩) (bas y.leaves)
  was : Was wr (g + 1) v W
  b : Below w.heap.size w wr
theorem under_step {W : List Sf.Wr} {A B : List (List UInt8)} {y : Sf.Wr} {N : Nat → Nat} {k fr ln : Nat} (n : Nat) (hfr : y.f = fr) (hln : y.leaves.length = ln) (hk : k < ln) (hfit : fr + ln ≤ 12) (hA : Sf.Good W A) (hy : y.Ok) (h : Sf.Under A y N k B) :
    ∃ E1 E2 : List UInt8, y.leaves[k]? = some E1 ∧ B[fr + k]? = some E2 ∧ E1.length = 64 ∧ E2.length = 64 ∧ Sf.Under A y (fun j => if j = k then n else N j) (k + 1) (B.set (fr + k) (Lf.torn E1 E2 n)) := by
  subst hfr hln
  obtain ⟨hB, e, hu⟩ := Sf.under_succ h n hk (by rw [hA.len]; omega)
  refine ⟨y.leaves[k], B[y.f + k], by simp [hk], by simp [hB], (Sf.sheaf_leaf hy.2.1 (show y.leaves[k] ∈ Sf.sheaf y.st y.s from List.getElem_mem hk)).1, ?_, hu⟩
  rw [e]
  exact (hA.sec _ (by rw [hA.len]; omega)).1
theorem strs_at {w : World} {g k : Nat} {S : List (List UInt8)} {E : List UInt8} (h : Strs w (some ⟨g, 0, none⟩) (bas S)) (e : S[k]? = some E) : w.cell? ⟨g, k, none⟩ = some (.string ⟨E.toArray⟩) := by
  obtain ⟨hk, rfl⟩ := List.getElem?_eq_some_iff.1 e
  obtain ⟨b, off, h1, _, h3⟩ := h k (by rw [bas_len]; exact hk)
  obtain ⟨rfl, rfl⟩ : g = b ∧ 0 = off := by simpa using h1
  rw [Nat.zero_add] at h3
  rw [h3]
  simp [bas]
theorem row_at2 {w : World} {g k : Nat} {B : List (List UInt8)} {E : List UInt8} (h : RowAt w g (B.map sv)) (e : B[k]? = some E) : w.cell? ⟨g, k, none⟩ = some (.string ⟨E.toArray⟩) ∧ w.frozen? ⟨g, k, none⟩ = false := by
  obtain ⟨hk, rfl⟩ := List.getElem?_eq_some_iff.1 e
  exact row_at h k hk
theorem In3.drew {w : World} {g X gb : Nat} {v : Value} {W : List Sf.Wr} {B : List (List UInt8)} {y : Sf.Wr} {x : Ovr} {k : Nat} {N : Nat → Nat} {Bk : List (List UInt8)} {wh : Bool} {wr : World} (h : In3 w g X gb v W B y x k N Bk wh wr) : In3 w g X gb v W B y x k N Bk wh wr.drew :=
  have hb : Below wr.heap.size wr wr.drew := (Below.refl _ _).drew
  ⟨h.row.drew, h.un, h.n64, h.all, h.x4.later hb, h.ss.later hb, h.was.later hb, h.b.drew⟩
theorem strs_set {w : World} {b g i : Nat} {L : List ByteArray} (h : Strs w (some ⟨b, 0, none⟩) L) (v : Value) (hne : b ≠ g) : Strs (w.setCell ⟨g, i, none⟩ v) (some ⟨b, 0, none⟩) L := by
  intro j hj
  obtain ⟨b', off, h1, h2, h3⟩ := h j hj
  refine ⟨b', off, h1, by simpa [World.setCell] using h2, ?_⟩
  have hb : b' = b := by have := Option.some.inj h1; injection this with q; exact q.symm
  exact (World.cell?_setCell_other _ _ _ _ (by intro e; injection e with e; omega)).trans h3
theorem In3.step {w : World} {g X gb fr : Nat} {v : Value} {W : List Sf.Wr} {B : List (List UInt8)} {y : Sf.Wr} {x : Ovr} {k : Nat} {N N' : Nat → Nat} {Bk : List (List UInt8)} {wh wh' : Bool} {wr : World} {T : List UInt8} (h : In3 w g X gb v W B y x k N Bk wh wr)
    (hun : Sf.Under B y N' (k + 1) (Bk.set (fr + k) T)) (hN : ∀ j, N' j ≤ 64) (hall : wh' = true → ∀ j, j < k + 1 → N' j = 64) (hgX : g < X) (hgb : g < gb) (hw : w.heap.size ≤ g) : In3 w g X gb v W B y x (k + 1) N' (Bk.set (fr + k) T) wh' (wr.setCell ⟨g, fr + k, none⟩ (.string ⟨T.toArray⟩)) :=
  ⟨row_set h.row _ _, hun, hN, hall, h.x4.set _ (by omega), strs_set h.ss _ (by omega), own_set' h.was (by omega) _, h.b.setCell hw _⟩
/-- What holds while what was written is looked at. -/
structure Mid (w : World) (g : Nat) (y : Sf.Wr) (W : List Sf.Wr) (B : List (List UInt8)) (v : Value) (wr : World) : Prop where
  row : RowAt wr g (B.map sv)
  was : wr.ownsRow (g + 1) 46 4 v (W.length + 1) (wrs (W ++ [y]))
  b : Below w.heap.size w wr
theorem Mid.later {w : World} {g : Nat} {y : Sf.Wr} {W : List Sf.Wr} {B : List (List UInt8)} {v : Value} {wr w' : World} (h : Mid w g y W B v wr) (hb : Below wr.heap.size wr w') : Mid w g y W B v w' :=
  ⟨h.row.later hb, Rf.own_later h.was hb, then_below h.b hb⟩
theorem Mid.tw {w : World} {g i : Nat} {L : List Ovr} {y : Sf.Wr} {W : List Sf.Wr} {B B0 : List (List UInt8)} {v v0 : Value} {wr w0 : World} (h : Mid w g y W B v wr) (h0 : Tw w g L i v0 W B0 w0) (hi : i < L.length) (h40 : i < 40) (hg : Sf.Good (W ++ [y]) B) (hbd : ∀ z ∈ W ++ [y], z.f ≤ 12 ∧ z.leaves.length ≤ 12) : Tw w g L (i + 1) v (W ++ [y]) B wr :=
  ⟨hi, by rw [List.length_append]; have := h0.wl; simp; omega, h40, by unfold Was; rw [List.length_append]; exact h.was, h.row, hg, hbd, h.b⟩
theorem Ov4.block {w w' : World} {g o : Nat} {x : Ovr} (h : Ov4 w g o x) (hb : w'.heap[g]? = w.heap[g]?) : Ov4 w' g o x := by
  have hc : ∀ j, w'.cell? ⟨g, j, none⟩ = w.cell? ⟨g, j, none⟩ := fun j => World.cell?_of_block (a := ⟨g, j, none⟩) hb
  exact ⟨World.block_lt_of_cell? w' ⟨g, o, none⟩ ((hc _).trans h.c0), (hc _).trans h.c0, (hc _).trans h.c1, (hc _).trans h.c2, (hc _).trans h.c3⟩
theorem sector {W : List Sf.Wr} {B : List (List UInt8)} {k : Nat} (h : Sf.Good W B) (hk : k < 12) : ∃ E, B[k]? = some E ∧ E.length = 64 ∧ Lf.footOf E ≤ Lf.headOf E := by
  have hk' : k < B.length := by rw [h.len]; exact hk
  exact ⟨B[k], by simp [hk'], (h.sec k hk').1, (h.sec k hk').2⟩
theorem ends_e (E : List UInt8) (w : World) (h : E.length = 64) : Calls Tryd.prog 19 #[.string ⟨E.toArray⟩] w fun e w' => e = .returned (.tuple #[.int .u64 (Lf.headOf E), .int .u64 (Lf.footOf E)]) ∧ Below w.heap.size w w' := by
  have h1 := Le.ends_c ⟨E.toArray⟩ w
  unfold Le.EndsRes at h1
  have e : (ByteArray.mk E.toArray).data.toList = E := rfl
  rw [e, (Le.ends_is E h).1, (Le.ends_is E h).2] at h1
  exact h1
theorem get_none {w : World} {g cap : Nat} {B : List (List UInt8)} (k : Nat) (hl : B.length = 12) (hr : RowAt w g (B.map sv)) (hc : 12 - k ≤ cap) (ho : Sf.pget (B.drop k) = none) :
    Calls Tryd.prog 14 #[.slice (some ⟨g, k, none⟩) (12 - k) cap] w fun e w' => e = .returned (.tuple #[.int .u64 0, .string ⟨#[]⟩, .int .i64 0, .bool false]) ∧ Below w.heap.size w w' :=
  (sget_at none w _ cap (bas (B.drop k)) (strs_drop hr k) (by rw [bas_len, List.length_drop]; omega) (by rw [bas_len, List.length_drop]; omega) (12 - k) (by rw [bas_len, List.length_drop]; omega) (by rw [lists_bas]; exact ho)).mono fun _ _ h => ⟨h.2.1 rfl, h.2.2⟩
theorem get_some {w : World} {g cap : Nat} {B : List (List UInt8)} {n m : Nat} {s : List UInt8} (k : Nat) (hl : B.length = 12) (hr : RowAt w g (B.map sv)) (hc : 12 - k ≤ cap) (ho : Sf.pget (B.drop k) = some (n, s, m)) :
    Calls Tryd.prog 14 #[.slice (some ⟨g, k, none⟩) (12 - k) cap] w fun e w' => e = .returned (.tuple #[.int .u64 (n : Nat), .string ⟨s.toArray⟩, .int .i64 (m : Nat), .bool true]) ∧ Below w.heap.size w w' :=
  (sget_at (some (n, s, m)) w _ cap (bas (B.drop k)) (strs_drop hr k) (by rw [bas_len, List.length_drop]; omega) (by rw [bas_len, List.length_drop]; omega) (12 - k) (by rw [bas_len, List.length_drop]; omega) (by rw [lists_bas]; exact ho)).mono fun _ _ h => ⟨h.1 _ _ _ rfl, h.2.2⟩
theorem get_any {w : World} {g cap : Nat} {B : List (List UInt8)} {st ln : Nat} {S : ByteArray} (k : Nat) (hl : B.length = 12) (hr : RowAt w g (B.map sv)) (hc : 12 - k ≤ cap) (wh : Bool) (hw : wh = true → Sf.pget (B.drop k) = some (st, S.data.toList, ln)) :
    Calls Tryd.prog 14 #[.slice (some ⟨g, k, none⟩) (12 - k) cap] w fun e w' => ∃ (n : Nat) (s : ByteArray) (m : Nat) (b : Bool), e = .returned (.tuple #[.int .u64 n, .string s, .int .i64 m, .bool b]) ∧ (wh = true → n = st ∧ s = S ∧ m = ln ∧ b = true) ∧ Below w.heap.size w w' := by
  cases ho : Sf.pget (B.drop k) with
  | none => exact (get_none k hl hr hc ho).mono fun _ _ h => ⟨0, ⟨#[]⟩, 0, false, h.1, (fun h' => by rw [hw h'] at ho; cases ho), h.2⟩
  | some z =>
    obtain ⟨n, s, m⟩ := z
    refine (get_some k hl hr hc ho).mono fun _ _ h => ⟨n, ⟨s.toArray⟩, m, true, h.1, fun h' => ?_, h.2⟩
    rw [hw h'] at ho
    simp at ho
    obtain ⟨rfl, h2, rfl⟩ := ho
    exact ⟨rfl, by subst h2; exact str_id S, rfl, rfl⟩
theorem one_at (W : List Sf.Wr) (y : Sf.Wr) (w : World) (g cap k n m : Nat) (s : List UInt8) (hW : WrAt w g (W ++ [y])) (hk : k ≤ 12) (hm : m ≤ 12) (hlen : W.length ≤ 900) (hy : ∀ z ∈ W ++ [y], z.f ≤ 12 ∧ z.leaves.length ≤ 12) (hex : ∃ z ∈ W ++ [y], Fits1 k n m s z) :
    Calls Tryd.prog 18 #[.slice (some ⟨g, 0, none⟩) (W.length + 1) cap, .int .i64 (k : Int), .int .u64 (n : Int), .string ⟨s.toArray⟩, .int .i64 (m : Int)] w fun e w' => e = .returned (.bool true) ∧ Below w.heap.size w w' := by
  have h := one_c (W ++ [y]) w g cap k n m s hW hk hm (by rw [List.length_append]; simp; omega) hy hex
  rw [List.length_append] at h
  exact h
theorem ret_head {w w1 : World} (h : Below w.heap.size w w1) : Calls Tryd.prog 7 #[] w1 fun e w' => e = .returned (.bool true) ∧ Below w.heap.size w w' :=
  (head_c w1).mono fun _ _ ⟨h1, h2⟩ => ⟨h1, then_below h h2⟩
set_option maxRecDepth 100000 in
set_option maxHeartbeats 12800000 in
theorem torn_c (L : List Ovr) (a : Option Addr) (cap : Nat) (w : World) (hL : OvsT w a L) (hok : ∀ x ∈ L, OvrOk x) (hl : L.length ≤ 9223372036854775807) :
    Calls Tryd.prog 6 #[.slice a L.length cap] w fun e w' => e = .returned (.bool true) ∧ Below w.heap.size w w' := by
  have HL := Lib.hid hL
  have HK := Lib.hid hok
  have m12 := makes
  have m64 := make64
  have c64 := con64
  obtain ⟨g, hg⟩ : ∃ g, w.heap.size = g := ⟨_, rfl⟩
  have HGW := Lib.hid hg
  have hR0 := mks_row w
  have hB0 := below_mks w
  obtain ⟨W0, hW0⟩ : ∃ W0, mks w = W0 := ⟨_, rfl⟩
  rw [hW0] at hR0 hB0
  have m12w : (Instr.makeSlice 24 (.int .i64 12) (.int .i64 12)).run Tryd.prog w = .ok (.slice (some ⟨g, 0, none⟩) 12 12) W0 := by rw [← hW0, ← hg]; exact makes w
  rw [hg] at hR0
  have R0 := Lib.hid hR0
  have B0 := Lib.hid hB0
  clear hL hok m12 hg hR0 hB0 hW0
  go_enter Tryd.func6, Tryd.ntmps6
  go_wp2_with fail
  clear m12w
  go_loopw [4] (fun s4 wr => ∃ (k : Nat) (B : List (List UInt8)), k ≤ 12 ∧ s4 = .int .i64 k ∧ B.length = 12 ∧ (∀ j, j < k → B[j]? = some z64) ∧ RowAt wr g (B.map sv) ∧ Below w.heap.size w wr) (fun s4 _ => 12 - (intOf s4).toNat)
  case atStart => exact ⟨0, _, by omega, rfl, by simp, fun j h => by omega, R0.out, B0.out⟩
  case round =>
    obtain ⟨k, B, hk, rfl, hBl, hall, hrow, hB⟩ := hrel
    have HB := Lib.hid hB
    have HROW := Lib.hid hrow
    have HALL := Lib.hid hall
    have HBL := Lib.hid hBl
    clear hB hrow hall
    by_cases hlt : k < 12
    · have hlt' : (k : Int) < 12 := by omega
      have hk0 : (0 : Int) ≤ (k : Int) := by omega
      have hrw := HROW.out.later (below_mk64 wr)
      obtain ⟨u0, d0, f0⟩ : ∃ u, (mk64 wr).cell? ⟨g, k, none⟩ = some u ∧ (mk64 wr).frozen? ⟨g, k, none⟩ = false := ⟨_, row_at hrw k (by omega)⟩
      have HR1 := Lib.hid (row_set hrw k z64)
      have HB1 := Lib.hid ((then_below HB.out (below_mk64 wr)).setCell (p := ⟨g, k, none⟩) (by rw [HGW.out]; exact Nat.le_refl _) (.string ⟨z64.toArray⟩))
      have HA1 := Lib.hid (show ∀ j, j < k + 1 → (B.set k z64)[j]? = some z64 by
        intro j hj
        rw [List.getElem?_set]
        by_cases h : k = j
        · rw [if_pos h, if_pos (by omega)]
        · rw [if_neg h]; exact HALL.out j (by omega))
      clear hBl hrw
      go_wp2_with fail
      exact ⟨⟨k + 1, B.set k z64, by omega, by simp, by rw [List.length_set]; exact HBL.out, HA1.out, HR1.out, HB1.out⟩, by simp [intOf]; omega⟩
    · have hk12 : ¬ (k : Int) < 12 := by omega
      have hBz : B = List.replicate 12 z64 := by
        refine List.ext_getElem? fun j => ?_
        by_cases h : j < 12
        · rw [HALL.out j (by omega), List.getElem?_replicate_of_lt h]
        · rw [List.getElem?_eq_none (by omega), List.getElem?_eq_none (by simp; omega)]
      subst hBz
      have HT0 := Lib.hid (show Tw w g L 0 (.slice none 0 0) [] (List.replicate 12 z64) wr from ⟨Nat.zero_le _, Nat.le_refl _, by omega, World.ownsRow_nil _ _ _ _, HROW.out, Sf.good_zero, by simp, HB.out⟩)
      clear m64 c64 hBl HROW HALL HB HBL hlt hk
      go_wp2_with fail
      go_loopw [5, 6] (fun s5 s6 wr => ∃ (i : Nat) (v : Value) (W : List Sf.Wr) (B : List (List UInt8)), s6 = .int .i64 i ∧ v = s5 ∧ Tw w g L i v W B wr) (fun _ s6 _ => 40 - (intOf s6).toNat)
      case atStart => exact ⟨0, _, _, _, rfl, rfl, HT0.out⟩
      case round =>
        obtain ⟨i, v, W, B, rfl, rfl, hT⟩ := hrel
        have HT := Lib.hid hT
        have hle := hT.le
        clear hT HT0
        by_cases hgo : i < L.length ∧ i < 40
        · obtain ⟨hlt, h40⟩ := hgo
          have hlt' : (i : Int) < (L.length : Int) := by omega
          have h40' : (i : Int) < 40 := by omega
          have hi0 : (0 : Int) ≤ (i : Int) := by omega
          obtain ⟨bb, off, rfl, hx4, hin⟩ := HL.out i hlt
          obtain ⟨hf, hm, hsz, hnl, hn9⟩ := HK.out L[i] (List.getElem_mem hlt)
          have X1 := hx4.later HT.out.b
          obtain ⟨x, hx⟩ : ∃ x, L[i] = x := ⟨_, rfl⟩
          rw [hx] at hf hm hsz hnl hn9 X1 hin
          obtain ⟨xlt, x0, x1, x2, x3⟩ := X1
          have HIN := Lib.hid hin
          have HN9 := Lib.hid hn9
          have HSZ := Lib.hid hsz
          have HNL := Lib.hid hnl
          obtain ⟨W1, hW1⟩ : ∃ W1, wr.alloc (.cells #[.int .u8 (x.f : Int), .int .u16 (x.m : Int), .string x.S, .slice x.a x.N.length x.cap] 44) = W1 := ⟨_, rfl⟩
          have hb1 : Below wr.heap.size wr W1 := by rw [← hW1]; exact (Below.refl _ _).alloc (Nat.le_refl _) _
          obtain ⟨X, hX⟩ : ∃ X, wr.heap.size = X := ⟨_, rfl⟩
          have hgX : g < X := by rw [← hX]; exact HT.out.row.lt
          have hX1 : Ov4 W1 X 0 x := by
            rw [← hW1, ← hX]
            refine ⟨by simp, ?_, ?_, ?_, ?_⟩ <;> simp [go_sem]
          have HX1 := Lib.hid hX1
          have HB1 := Lib.hid (then_below HT.out.b hb1)
          have HR1 := Lib.hid (HT.out.row.later hb1)
          have HW1 := Lib.hid (HT.out.was.later hb1)
          have HXX := Lib.hid hX
          have hwg : w.heap.size ≤ g := by rw [HGW.out]; exact Nat.le_refl _
          have KT := Lib.hid (fun w' hs => top_at w' (some ⟨g, 0, none⟩) 12 B 12 (Sf.top B) hs (by rw [HT.out.good.len]; omega) HT.out.good.len rfl)
          obtain ⟨tp, htp⟩ : ∃ tp, Sf.top B = tp := ⟨_, rfl⟩
          have HTP := Lib.hid htp
          rw [htp] at KT
          clear hx4 hin hsz hnl hn9 hb1 hX1 hx htp
          go_wp2_with fail
          clear hX hW1 xlt x0 x1 x2 x3
          refine (KT.out _ (strs_row HR1.out)).mono ?_
          rintro e w2 ⟨rfl, b2⟩
          have HX2 := Lib.hid (HX1.out.later b2)
          have HB2 := Lib.hid (then_below HB1.out b2)
          have HR2 := Lib.hid (HR1.out.later b2)
          have HW2 := Lib.hid (HW1.out.later b2)
          clear b2 KT HX1 HB1 HR1 HW1
          obtain ⟨xlt, x0, x1, x2, x3⟩ := HX2.out
          by_cases htb : 9223372036854775808 ≤ tp
          · have hh : (9223372036854775808 : Int) ≤ (tp : Int) := by omega
            go_wp2_with fail
            refine (ret_head HB2.out).mono ?_
            rintro e w3 ⟨rfl, b3⟩
            go_wp2_with fail
            go_ret
            exact ⟨rfl, b3⟩
          have hh : ¬ (9223372036854775808 : Int) ≤ (tp : Int) := by omega
          by_cases hS : 400 < x.S.size
          · have hS2 : (400 : Int) < (x.S.size : Int) := by omega
            go_wp2_with fail
            refine (ret_head HB2.out).mono ?_
            rintro e w3 ⟨rfl, b3⟩
            go_wp2_with fail
            go_ret
            exact ⟨rfl, b3⟩
          have hS2 : (x.S.size : Int) ≤ 400 := by omega
          have HTB := Lib.hid htb
          have htl : (tp : Int) ≤ 9223372036854775807 := by omega
          have hd : decide ((400 : Int) < (x.S.size : Int)) = false := decide_eq_false (by omega)
          have HL9 := Lib.hid hl
          clear htb hl
          iterate 70 (first | go_step | go_simp)
          obtain ⟨st, hst⟩ : ∃ st : Nat, st = tp + 1 + x.m := ⟨_, rfl⟩
          have hst2 : ((tp : Int) + 1 + (x.m : Int)) = (st : Int) := by omega
          have HST0 := Lib.hid (show st ≠ 0 by omega)
          have HST3 := Lib.hid (show st < 18446744073709551616 by have := HTB.out; omega)
          have HST4 := Lib.hid (show tp < st by omega)
          rw [hst2]
          clear hst hst2 htl hh hd
          have hsl : x.S.data.toList.length ≤ 400 := by rw [Le.sz_list]; omega
          obtain ⟨y, hy⟩ : ∃ y : Sf.Wr, y = ⟨x.f % 12, st, x.S.data.toList⟩ := ⟨_, rfl⟩
          have hyf : x.f % 12 = y.f := by rw [hy]
          have HYST := Lib.hid (show y.st = st by rw [hy])
          have HYS := Lib.hid (show y.s = x.S.data.toList by rw [hy])
          have HYOK := Lib.hid (show y.Ok by rw [hy]; exact ⟨HST0.out, HST3.out, hsl⟩)
          have KP := Lib.hid (fun w => (show Calls Tryd.prog 8 #[.int .u64 st, .string x.S] w (fun e w' => ∃ g cap, e = .returned (.tuple #[.slice (some ⟨g, 0, none⟩) y.leaves.length cap, .int .i64 0]) ∧ w'.ownsRow w.heap.size 9 1 (.slice (some ⟨g, 0, none⟩) y.leaves.length cap) y.leaves.length (y.leaves.map sv) ∧ Below w.heap.size w w') by rw [hy]; exact put_ok st x.S w HST0.out HST3.out (by omega)))
          have hln : y.leaves.length ≤ 100 := by
            rw [hy]
            show (Sf.sheaf st x.S.data.toList).length ≤ 100
            rw [Sf.sheaf_len]
            unfold Sf.many
            have := (Ta.num_len x.S.data.toList.length (by omega)).1
            omega
          have hlp : 1 ≤ y.leaves.length := by
            rw [hy]
            show 1 ≤ (Sf.sheaf st x.S.data.toList).length
            rw [Sf.sheaf_len]
            exact Sf.many_pos _
          obtain ⟨ln, hlnn⟩ : ∃ ln, y.leaves.length = ln := ⟨_, rfl⟩
          have HLN := Lib.hid hlnn
          rw [hlnn] at KP hln hlp
          obtain ⟨fr, hfr⟩ : ∃ fr, y.f = fr := ⟨_, rfl⟩
          have HFR := Lib.hid hfr
          rw [hfr] at hyf
          have hfm : (x.f : Int) % 12 = (fr : Int) := by omega
          have hfr12 : fr < 12 := by omega
          have hf0 : (0 : Int) ≤ (x.f : Int) := by omega
          have hf9 : (x.f : Int) ≤ 255 := by omega
          clear hy hsl hlnn hfr hyf
          go_wp2_with fail
          refine (KP.out _).mono ?_
          rintro e w3 ⟨gb, gc, rfl, ob, b3⟩
          have hgb : g < gb := by
            have h1 : w2.heap.size ≤ gb := Tal.own_ge ob rfl
            have h2 := HR2.out.lt
            omega
          have hgc := own_cap ob
          have HS3 := Lib.hid (strs_own (S := y.leaves) (by rw [HLN.out]; exact ob))
          have HX3 := Lib.hid (HX2.out.later b3)
          have HB3 := Lib.hid (then_below HB2.out b3)
          have HR3 := Lib.hid (HR2.out.later b3)
          have HW3 := Lib.hid (HW2.out.later b3)
          clear ob b3 KP xlt x0 x1 x2 x3 HX2 HB2 HR2 HW2
          obtain ⟨xlt, x0, x1, x2, x3⟩ := HX3.out
          by_cases hfit : 12 < fr + ln
          · have hfit2 : (12 : Int) < (fr : Int) + (ln : Int) := by omega
            have HT3 := Lib.hid (show Tw w g L (i + 1) v W B w3 from ⟨by omega, by have := HT.out.wl; omega, by omega, HW3.out, HR3.out, HT.out.good, HT.out.bd, HB3.out⟩)
            clear hfit
            go_wp2_with fail
            exact ⟨⟨i + 1, v, W, B, by simp, rfl, HT3.out⟩, by simp [intOf]; omega⟩
          have hfit2 : (fr : Int) + (ln : Int) ≤ 12 := by omega
          go_wp2_with fail
          have HFM := Lib.hid hfm
          clear hfm
          go_loopw [13, 14, 15] (fun s13 s14 _ wr => ∃ (k : Nat) (N : Nat → Nat) (Bk : List (List UInt8)) (wh : Bool), k ≤ ln ∧ s14 = .int .i64 k ∧ s13 = .bool wh ∧ In3 w g X gb v W B y x k N Bk wh wr) (fun _ s14 _ _ => ln - (intOf s14).toNat)
          case atStart => exact ⟨0, fun _ => 0, B, true, by omega, rfl, rfl, HR3.out, Sf.under_zero _ _ _, fun _ => by omega, fun _ j hj => by omega, HX3.out, HS3.out, HW3.out, HB3.out⟩
          case round =>
            obtain ⟨k, N, Bk, wh, hk, rfl, rfl, hI⟩ := hrel
            have HI := Lib.hid hI
            clear hI HR3 HX3 HS3 HW3 HB3
            clear xlt x0 x1 x2 x3
            obtain ⟨xlt, x0, x1, x2, x3⟩ := HI.out.x4
            by_cases hkl : k < ln
            · have hkl' : (k : Int) < (ln : Int) := by omega
              have hk0 : (0 : Int) ≤ (k : Int) := by omega
              go_upto_region 24 with (fail)
              go_cut [15] (fun s15 wx => s15 = .int .i64 64 ∧ wr = wx)
              case first =>
                go_wp2_with fail
                go_meet
                exact ⟨rfl, rfl⟩
              obtain ⟨rfl, rfl⟩ := hcut
              rename_i hK
              apply hK
              refine wp_seq_k (fun K2 hK2 => ?_)
              go_cut [15] (fun s15 wx => (∃ n : Nat, n ≤ 64 ∧ s15 = .int .i64 n) ∧ wr = wx)
              case first =>
                by_cases hnl0 : x.N.length = 0
                · have hz : ¬ (0 : Int) < (x.N.length : Int) := by omega
                  clear hnl0
                  go_wp2_with fail
                  go_meet
                  exact ⟨⟨64, by omega, rfl⟩, rfl⟩
                have hz : (0 : Int) < (x.N.length : Int) := by omega
                obtain ⟨pl, hpl⟩ : ∃ pl : Nat, x.N.length = pl + 1 := ⟨x.N.length - 1, by omega⟩
                have hpi : (x.N.length : Int) - 1 = (pl : Int) := by omega
                have hnl9 := HNL.out
                obtain ⟨j, hj, hjj⟩ : ∃ j, j < x.N.length ∧ ((k ≤ pl ∧ j = k) ∨ (pl < k ∧ j = pl)) := by
                  by_cases h : k ≤ pl
                  · exact ⟨k, by omega, .inl ⟨h, rfl⟩⟩
                  · exact ⟨pl, by omega, .inr ⟨by omega, rfl⟩⟩
                obtain ⟨ab, ao, ha, hab, hac⟩ := (HIN.out.later HI.out.b) j hj
                have hb9 := HN9.out x.N[j] (List.getElem_mem hj)
                obtain ⟨V, hV⟩ : ∃ V, x.N[j] = V := ⟨_, rfl⟩
                rw [hV] at hac hb9
                rw [ha] at x3
                have hji : (j : Int) < (x.N.length : Int) := by omega
                have hj0 : (0 : Int) ≤ (j : Int) := by omega
                have hcs : V < 0 ∨ (0 ≤ V ∧ V ≤ 64) ∨ 64 < V := by omega
                clear hV ha hj hnl0 hpl
                rcases hjj with ⟨hm, rfl⟩ | ⟨hm, rfl⟩
                · have hmn : min (j : Int) (pl : Int) = (j : Int) := by omega
                  clear hm
                  rcases hcs with h1 | ⟨h1, h2⟩ | h1
                  · have hmx : max V 0 = 0 := by omega
                    go_wp2_with fail
                    go_meet
                    exact ⟨⟨0, by omega, rfl⟩, rfl⟩
                  · obtain ⟨n, rfl⟩ : ∃ n : Nat, V = n := ⟨V.toNat, by omega⟩
                    have hmx : max (n : Int) 0 = (n : Int) := by omega
                    have hmi : min (n : Int) 64 = (n : Int) := by omega
                    go_wp2_with fail
                    go_meet
                    exact ⟨⟨n, by omega, rfl⟩, rfl⟩
                  · have h0 : 0 ≤ V := by omega
                    have hmx : max V 0 = V := by omega
                    have hmi : min V 64 = 64 := by omega
                    go_wp2_with fail
                    go_meet
                    exact ⟨⟨64, by omega, rfl⟩, rfl⟩
                · have hmn : min (k : Int) (j : Int) = (j : Int) := by omega
                  clear hm
                  rcases hcs with h1 | ⟨h1, h2⟩ | h1
                  · have hmx : max V 0 = 0 := by omega
                    go_wp2_with fail
                    go_meet
                    exact ⟨⟨0, by omega, rfl⟩, rfl⟩
                  · obtain ⟨n, rfl⟩ : ∃ n : Nat, V = n := ⟨V.toNat, by omega⟩
                    have hmx : max (n : Int) 0 = (n : Int) := by omega
                    have hmi : min (n : Int) 64 = (n : Int) := by omega
                    go_wp2_with fail
                    go_meet
                    exact ⟨⟨n, by omega, rfl⟩, rfl⟩
                  · have h0 : 0 ≤ V := by omega
                    have hmx : max V 0 = V := by omega
                    have hmi : min V 64 = 64 := by omega
                    go_wp2_with fail
                    go_meet
                    exact ⟨⟨64, by omega, rfl⟩, rfl⟩
              case rest =>
                obtain ⟨⟨n, hn64, rfl⟩, rfl⟩ := hcut
                apply hK2
                obtain ⟨E1, E2, e1, e2, l1, l2, hun⟩ := under_step n HFR.out HLN.out hkl (by omega) HT.out.good HYOK.out HI.out.un
                have c1 := strs_at HI.out.ss e1
                obtain ⟨c2, f2⟩ := row_at2 HI.out.row e2
                have HTS := Lib.hid (torn_str ⟨E1.toArray⟩ ⟨E2.toArray⟩ n)
                have s1 : (⟨E1.toArray⟩ : ByteArray).size = 64 := l1
                have s2 : (⟨E2.toArray⟩ : ByteArray).size = 64 := l2
                obtain ⟨F1, hF1⟩ : ∃ F1 : ByteArray, (⟨E1.toArray⟩ : ByteArray) = F1 := ⟨_, rfl⟩
                obtain ⟨F2, hF2⟩ : ∃ F2 : ByteArray, (⟨E2.toArray⟩ : ByteArray) = F2 := ⟨_, rfl⟩
                rw [hF1] at c1 HTS s1
                rw [hF2] at c2 HTS s2
                have HUN := Lib.hid hun
                have HE2 := Lib.hid e2
                have HF1 := Lib.hid hF1
                have HF2 := Lib.hid hF2
                have z1 : ((F1.size : Int) != 64) = false := by rw [s1]; rfl
                have z2 : (n : Int) ≤ (F1.size : Int) := by omega
                have z3 : (n : Int) ≤ (F2.size : Int) := by omega
                have z4 : (0 : Int) ≤ (n : Int) := by omega
                have z5 : F1.size ≤ 64 := by omega
                have z6 : F2.size ≤ 64 := by omega
                have y1 : (F1.extract 0 n).size ≤ 64 := by rw [ByteArray.size_extract]; omega
                have y2 : (F2.extract n F2.size).size ≤ 64 := by rw [ByteArray.size_extract]; omega
                have w1 : IntKind.i64.wrap ((x.f : Int) % 12 + (k : Int)) = (fr : Int) + (k : Int) := by rw [HFM.out]; exact IntWalk.i64_in _ (by omega)
                have w2 : (0 : Int) ≤ (fr : Int) + (k : Int) := by omega
                have w3' : (fr : Int) + (k : Int) < 12 := by omega
                have w4 : ((fr : Int) + (k : Int)).toNat = fr + k := by omega
                clear hun hF1 hF2 s1 s2 e1 e2 l1 l2
                go_wp2_with fail
                have y5 : ¬ (9223372036854775807 < min n F1.size + (F2.size - n)) := by omega
                go_still_tail 20, (by kernel_rfl)
                clear y5
                change wpList _ _ _ _ _ wr.drew
                have HI5 := Lib.hid HI.out.drew
                clear HI xlt x0 x1 x2 x3 c1 c2 f2
                generalize wr.drew = w5 at HI5 ⊢
                obtain ⟨c2, f2⟩ := row_at2 HI5.out.row HE2.out
                have HFIN := Lib.hid (fun (wh' : Bool) (hwh : wh' = true → wh = true ∧ n = 64) => (show In3 w g X gb v W B y x (k + 1) (fun j => if j = k then n else N j) (Bk.set (fr + k) (Lf.torn E1 E2 n)) wh' (w5.setCell ⟨g, fr + k, none⟩ (.string (F1.extract 0 n ++ F2.extract n F2.size))) by
                  rw [HTS.out, ← HF1.out, ← HF2.out]
                  refine HI5.out.step HUN.out ?_ ?_ hgX hgb hwg
                  · intro j
                    show (if j = k then n else N j) ≤ 64
                    by_cases h : j = k
                    · rw [if_pos h]; exact hn64
                    · rw [if_neg h]; exact HI5.out.n64 j
                  · intro h j hj
                    obtain ⟨h1, h2⟩ := hwh h
                    show (if j = k then n else N j) = 64
                    by_cases h' : j = k
                    · rw [if_pos h']; exact h2
                    · rw [if_neg h']; exact HI5.out.all h1 j (by omega)))
                clear HUN HI5 HTS HF1 HF2 HE2
                rcases Bool.eq_false_or_eq_true wh with hwh | hwh
                · by_cases hn6 : n = 64
                  · have HG := Lib.hid (HFIN.out true (fun _ => ⟨hwh, hn6⟩))
                    have hnn : ((n : Int) == 64) = true := beq_iff_eq.2 (by omega)
                    clear HFIN hn6
                    go_wp2_with fail
                    exact ⟨⟨k + 1, _, _, true, by omega, by simp, rfl, HG.out⟩, by simp [intOf]; omega⟩
                  · have HG := Lib.hid (HFIN.out false (fun h => by cases h))
                    have hnn : ((n : Int) == 64) = false := beq_eq_false_iff_ne.2 (by omega)
                    clear HFIN hn6
                    go_wp2_with fail
                    exact ⟨⟨k + 1, _, _, false, by omega, by simp, rfl, HG.out⟩, by simp [intOf]; omega⟩
                · have HG := Lib.hid (HFIN.out false (fun h => by cases h))
                  clear HFIN
                  go_wp2_with fail
                  exact ⟨⟨k + 1, _, _, false, by omega, by simp, rfl, HG.out⟩, by simp [intOf]; omega⟩
            · have hkl' : (ln : Int) ≤ (k : Int) := by omega
              have hk2 : k = ln := by omega
              have hun := HI.out.un
              rw [hk2, ← HLN.out] at hun
              have HGOOD := Lib.hid (Sf.good_step HT.out.good HYOK.out (by rw [HTP.out, HYST.out]; exact HST4.out) HI.out.n64 hun)
              have HWH := Lib.hid (fun (h : wh = true) => (show Sf.pget (Bk.drop fr) = some (st, x.S.data.toList, ln) by
                have := Sf.whole_is HYOK.out (fun p hp => (HT.out.good.sec p hp).1) (by rw [HT.out.good.len, HFR.out, HLN.out]; omega) (fun j hj => HI.out.all h j (by rw [HLN.out] at hj; omega)) hun
                rw [HFR.out, HYST.out, HYS.out, HLN.out] at this
                exact this))
              have HBD := Lib.hid (show ∀ z ∈ W ++ [y], z.f ≤ 12 ∧ z.leaves.length ≤ 12 by
                intro z hz
                rcases List.mem_append.1 hz with h | h
                · exact HT.out.bd z h
                · rw [List.mem_singleton.1 h, HFR.out, HLN.out]; omega)
              have HVX := Lib.hid (fun kk (h : v.ownBlock = some kk) => (show kk < X by have := (HT.out.was.lt kk h).2; rw [HXX.out] at this; exact this))
              have hWl := HT.out.wl
              have hfm := HFM.out
              have HWC := Lib.hid (show wrC y = [.int .i64 (fr : Int), .int .i64 (ln : Int), .int .u64 (st : Int), .string x.S] by
                unfold wrC
                rw [HFR.out, HLN.out, HYST.out, HYS.out, str_id])
              have hgs : g + 1 ≤ wr.heap.size := HI.out.row.lt
              have HII := Lib.hid HI.out
              have HWAS := Lib.hid (show wr.ownsRow (g + 1) 46 4 v W.length (wrs W) from HI.out.was)
              clear hun hk2 hkl hk
              obtain ⟨i0, hi, hz0, hz1, hz2⟩ := info_parts infoDone
              go_wp2_with (at_builtin; refine wpList_append_own _ rfl _ _ 40 rfl (g + 1) 46 i0 (.agg #[.int .i64 0, .int .i64 0, .int .u64 0, .string ⟨#[]⟩]) 4 40 Tryd.underlying40 hi hz0 hz1 hz2 rfl (by decide) _ _ _ rfl (HWAS.out.alloc _) ⟨wr.heap.size, 0, none⟩ 1 1 [.int .i64 (fr : Int), .int .i64 (ln : Int), .int .u64 (st : Int), .string x.S] rfl rfl (four_new _ _ _ _ _ _) (by simp [Value.oneCell']) (by unfold maxLen; omega) (by omega) (by simp; omega) ?_)
              intro v2 w5 hown5 hg5 _
              have hb5 : Below (g + 1) wr w5 := ((Below.refl (g + 1) wr).alloc hgs _).grown hg5 (by simp; omega) (fun kk hkk => Tal.own_ge HWAS.out hkk)
              have hX5 : Ov4 w5 X 0 x := HII.out.x4.block ((hg5.block X (by simp; have := HII.out.x4.lt; omega) (fun e => by have := HVX.out X e.symm; omega)).trans (Below.heap_alloc _ _ _ (by have := HII.out.x4.lt; omega)))
              obtain ⟨g2, c2, rfl⟩ := own_form hown5 (by omega)
              have HWS5 := Lib.hid (show w5.ownsRow (g + 1) 46 4 (.slice (some ⟨g2, 0, none⟩) (W.length + 1) c2) (W.length + 1) (wrs (W ++ [y])) by rw [wrs_snoc, HWC.out]; exact hown5)
              have HR5 := Lib.hid (HII.out.row.under hb5 (by omega))
              have HB5 := Lib.hid (HII.out.b.trans (hb5.mono (by omega)))
              have HX5 := Lib.hid hX5
              clear hown5 hg5 hb5 hX5 HI HII HWAS xlt x0 x1 x2 x3
              have KG5 := Lib.hid (get_any (w := w5) (g := g) (cap := 12 - fr) fr HGOOD.out.len HR5.out (by omega) wh HWH.out)
              go_wp2_with fail
              refine KG5.out.mono ?_
              rintro e w6 ⟨n6, s6, m6, b6, rfl, h6, bl6⟩
              have HR6 := Lib.hid (HR5.out.later bl6)
              have HWS6 := Lib.hid (Rf.own_later HWS5.out bl6)
              have HB6 := Lib.hid (then_below HB5.out bl6)
              have HX6 := Lib.hid (HX5.out.later bl6)
              clear bl6 KG5 HX5 HR5 HWS5 HB5
              obtain ⟨xlt, x0, x1, x2, x3⟩ := HX6.out
              rcases Bool.eq_false_or_eq_true wh with hwh | hwh
              · obtain ⟨p1, p2, p3, p4⟩ := h6 hwh
                rw [p1, p2, p3, p4]
                clear h6 p1 p2 p3 p4
                go_wp2_with fail
                clear hwh xlt x0 x1 x2 x3
                have HM := Lib.hid (show Mid w g y W Bk (.slice (some ⟨g2, 0, none⟩) (W.length + 1) c2) w6 from ⟨HR6.out, HWS6.out, HB6.out⟩)
                clear HR6 HWS6 HB6
                go_loopw [20] (fun s20 w7 => ∃ k4 : Nat, k4 ≤ 12 ∧ s20 = .int .i64 k4 ∧ Mid w g y W Bk (.slice (some ⟨g2, 0, none⟩) (W.length + 1) c2) w7) (fun s20 _ => 12 - (intOf s20).toNat)
                case atStart => exact ⟨0, by omega, rfl, HM.out⟩
                case round =>
                  obtain ⟨k4, hk4, rfl, hMM⟩ := hrel
                  have HMM := Lib.hid hMM
                  clear hMM HM
                  by_cases hk12 : k4 < 12
                  · have ka : (k4 : Int) < 12 := by omega
                    have kb : (0 : Int) ≤ (k4 : Int) := by omega
                    have kc : (k4 : Int) ≤ 12 := by omega
                    obtain ⟨E, hE, hE64, hEl⟩ := sector HGOOD.out hk12
                    have HE := Lib.hid hE
                    have KE := Lib.hid (fun w => ends_e E w hE64)
                    have hEl' : ¬ (Lf.headOf E : Int) < (Lf.footOf E : Int) := by omega
                    obtain ⟨eh, heh⟩ : ∃ eh, Lf.headOf E = eh := ⟨_, rfl⟩
                    obtain ⟨ef, hef⟩ : ∃ ef, Lf.footOf E = ef := ⟨_, rfl⟩
                    rw [heh, hef] at KE hEl'
                    obtain ⟨E1, hE1⟩ : ∃ E1 : ByteArray, (⟨E.toArray⟩ : ByteArray) = E1 := ⟨_, rfl⟩
                    have HE1 := Lib.hid hE1
                    rw [hE1] at KE
                    clear hE hE64 hEl heh hef hE1
                    cases ho : Sf.pget (Bk.drop k4) with
                    | none =>
                      have KG := Lib.hid (fun w' hr => get_none (w := w') (g := g) (cap := 12 - k4) k4 HGOOD.out.len hr (by omega) ho)
                      clear ho
                      go_wp2_with fail
                      refine (KG.out _ HMM.out.row).mono ?_
                      rintro e w8 ⟨rfl, b8⟩
                      have HM8 := Lib.hid (HMM.out.later b8)
                      clear b8
                      obtain ⟨ce, _⟩ := row_at2 HM8.out.row HE.out
                      rw [HE1.out] at ce
                      go_wp2_with fail
                      refine (KE.out _).mono ?_
                      rintro e w9 ⟨rfl, b9⟩
                      have HM9 := Lib.hid (HM8.out.later b9)
                      clear b9 ce
                      go_wp2_with fail
                      exact ⟨⟨k4 + 1, by omega, by simp, HM9.out⟩, by simp [intOf]; omega⟩
                    | some z =>
                      obtain ⟨n4, s4, m4⟩ := z
                      have KG := Lib.hid (fun w' hr => get_some (w := w') (g := g) (cap := 12 - k4) k4 HGOOD.out.len hr (by omega) ho)
                      have hone := Sf.one_is HGOOD.out hk12 ho
                      have hm4 : m4 ≤ 12 := by have h1 := (Sf.is_of_pget ho).le; rw [List.length_drop] at h1; have h2 := HGOOD.out.len; omega
                      have KO := Lib.hid (fun w' hw => one_at W y w' g2 c2 k4 n4 m4 s4 hw (by omega) hm4 (by omega) HBD.out hone)
                      clear ho hone hm4
                      go_wp2_with fail
                      refine (KG.out _ HMM.out.row).mono ?_
                      rintro e w8 ⟨rfl, b8⟩
                      have HM8 := Lib.hid (HMM.out.later b8)
                      clear b8
                      go_wp2_with fail
                      refine (KO.out _ (wrAt_own HM8.out.was)).mono ?_
                      rintro e w9 ⟨rfl, b9⟩
                      have HM9 := Lib.hid (HM8.out.later b9)
                      clear b9
                      obtain ⟨ce, _⟩ := row_at2 HM9.out.row HE.out
                      rw [HE1.out] at ce
                      go_wp2_with fail
                      refine (KE.out _).mono ?_
                      rintro e w10 ⟨rfl, b10⟩
                      have HM10 := Lib.hid (HM9.out.later b10)
                      clear b10 ce
                      go_wp2_with fail
                      exact ⟨⟨k4 + 1, by omega, by simp, HM10.out⟩, by simp [intOf]; omega⟩
                  · have ka : ¬ (k4 : Int) < 12 := by omega
                    have HT9 := Lib.hid (show Tw w g L (i + 1) (.slice (some ⟨g2, 0, none⟩) (W.length + 1) c2) (W ++ [y]) Bk _ from HMM.out.tw HT.out (by omega) (by omega) HGOOD.out HBD.out)
                    clear HMM hk12
                    go_wp2_with fail
                    exact ⟨⟨i + 1, _, _, _, by simp, rfl, HT9.out⟩, by simp [intOf]; omega⟩
              · clear h6
                go_wp2_with fail
                clear hwh xlt x0 x1 x2 x3
                have HM := Lib.hid (show Mid w g y W Bk (.slice (some ⟨g2, 0, none⟩) (W.length + 1) c2) w6 from ⟨HR6.out, HWS6.out, HB6.out⟩)
                clear HR6 HWS6 HB6
                go_loopw [20] (fun s20 w7 => ∃ k4 : Nat, k4 ≤ 12 ∧ s20 = .int .i64 k4 ∧ Mid w g y W Bk (.slice (some ⟨g2, 0, none⟩) (W.length + 1) c2) w7) (fun s20 _ => 12 - (intOf s20).toNat)
                case atStart => exact ⟨0, by omega, rfl, HM.out⟩
                case round =>
                  obtain ⟨k4, hk4, rfl, hMM⟩ := hrel
                  have HMM := Lib.hid hMM
                  clear hMM HM
                  by_cases hk12 : k4 < 12
                  · have ka : (k4 : Int) < 12 := by omega
                    have kb : (0 : Int) ≤ (k4 : Int) := by omega
                    have kc : (k4 : Int) ≤ 12 := by omega
                    obtain ⟨E, hE, hE64, hEl⟩ := sector HGOOD.out hk12
                    have HE := Lib.hid hE
                    have KE := Lib.hid (fun w => ends_e E w hE64)
                    have hEl' : ¬ (Lf.headOf E : Int) < (Lf.footOf E : Int) := by omega
                    obtain ⟨eh, heh⟩ : ∃ eh, Lf.headOf E = eh := ⟨_, rfl⟩
                    obtain ⟨ef, hef⟩ : ∃ ef, Lf.footOf E = ef := ⟨_, rfl⟩
                    rw [heh, hef] at KE hEl'
                    obtain ⟨E1, hE1⟩ : ∃ E1 : ByteArray, (⟨E.toArray⟩ : ByteArray) = E1 := ⟨_, rfl⟩
                    have HE1 := Lib.hid hE1
                    rw [hE1] at KE
                    clear hE hE64 hEl heh hef hE1
                    cases ho : Sf.pget (Bk.drop k4) with
                    | none =>
                      have KG := Lib.hid (fun w' hr => get_none (w := w') (g := g) (cap := 12 - k4) k4 HGOOD.out.len hr (by omega) ho)
                      clear ho
                      go_wp2_with fail
                      refine (KG.out _ HMM.out.row).mono ?_
                      rintro e w8 ⟨rfl, b8⟩
                      have HM8 := Lib.hid (HMM.out.later b8)
                      clear b8
                      obtain ⟨ce, _⟩ := row_at2 HM8.out.row HE.out
                      rw [HE1.out] at ce
                      go_wp2_with fail
                      refine (KE.out _).mono ?_
                      rintro e w9 ⟨rfl, b9⟩
                      have HM9 := Lib.hid (HM8.out.later b9)
                      clear b9 ce
                      go_wp2_with fail
                      exact ⟨⟨k4 + 1, by omega, by simp, HM9.out⟩, by simp [intOf]; omega⟩
                    | some z =>
                      obtain ⟨n4, s4, m4⟩ := z
                      have KG := Lib.hid (fun w' hr => get_some (w := w') (g := g) (cap := 12 - k4) k4 HGOOD.out.len hr (by omega) ho)
                      have hone := Sf.one_is HGOOD.out hk12 ho
                      have hm4 : m4 ≤ 12 := by have h1 := (Sf.is_of_pget ho).le; rw [List.length_drop] at h1; have h2 := HGOOD.out.len; omega
                      have KO := Lib.hid (fun w' hw => one_at W y w' g2 c2 k4 n4 m4 s4 hw (by omega) hm4 (by omega) HBD.out hone)
                      clear ho hone hm4
                      go_wp2_with fail
                      refine (KG.out _ HMM.out.row).mono ?_
                      rintro e w8 ⟨rfl, b8⟩
                      have HM8 := Lib.hid (HMM.out.later b8)
                      clear b8
                      go_wp2_with fail
                      refine (KO.out _ (wrAt_own HM8.out.was)).mono ?_
                      rintro e w9 ⟨rfl, b9⟩
                      have HM9 := Lib.hid (HM8.out.later b9)
                      clear b9
                      obtain ⟨ce, _⟩ := row_at2 HM9.out.row HE.out
                      rw [HE1.out] at ce
                      go_wp2_with fail
                      refine (KE.out _).mono ?_
                      rintro e w10 ⟨rfl, b10⟩
                      have HM10 := Lib.hid (HM9.out.later b10)
                      clear b10 ce
                      go_wp2_with fail
                      exact ⟨⟨k4 + 1, by omega, by simp, HM10.out⟩, by simp [intOf]; omega⟩
                  · have ka : ¬ (k4 : Int) < 12 := by omega
                    have HT9 := Lib.hid (show Tw w g L (i + 1) (.slice (some ⟨g2, 0, none⟩) (W.length + 1) c2) (W ++ [y]) Bk _ from HMM.out.tw HT.out (by omega) (by omega) HGOOD.out HBD.out)
                    clear HMM hk12
                    go_wp2_with fail
                    exact ⟨⟨i + 1, _, _, _, by simp, rfl, HT9.out⟩, by simp [intOf]; omega⟩
        · have HB := Lib.hid HT.out.b
          by_cases hil : i < L.length
          · have q1 : (i : Int) < (L.length : Int) := by omega
            have q2 : ¬ (i : Int) < 40 := by omega
            clear hgo hil
            go_wp2_with fail
            refine (ret_head HB.out).mono ?_
            rintro e w3 ⟨rfl, b3⟩
            go_wp2_with fail
            go_ret
            exact ⟨rfl, b3⟩
          · have q1 : ¬ (i : Int) < (L.length : Int) := by omega
            clear hgo hil
            go_wp2_with fail
            refine (ret_head HB.out).mono ?_
            rintro e w3 ⟨rfl, b3⟩
            go_wp2_with fail
            go_ret
            exact ⟨rfl, b3⟩
end Go.Proofs.YtbmlnodimcalgaaDoor.Shf
