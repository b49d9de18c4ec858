/- Package quittanceref05: Put, New, Begins. -/
import Derived.Test.YtnfjgmdpokpbbaaDoorRkRef
namespace Go.Proofs.YtnfjgmdpokpbbaaDoor.Rk
open Go Go.RowKit Dv Rf Shf
open Tal (Strs bas)
theorem slice_to (a : Option Addr) (n cap e : Nat) (he : e ≤ n) (hc : n ≤ cap) (h0 : a = none → cap = 0) :
    ∃ a' c', (∀ u, (Instr.sliceAt 32 (.slice a n cap) none (some (.int .i64 (e : Int))) none).run Tryd.prog u = .ok (.slice a' e c') u) ∧ (a' = none → c' = 0) ∧ ∀ (L : List ByteArray) (w : World), L.length = n → Strs w a L → Strs w a' (L.take e) := by
  refine ⟨if cap = 0 then a else a.map (·.add (0 * 1)), cap, fun u => ?_, fun h => ?_, fun L w hl h j hj => ?_⟩
  · rw [run_sliceAt_slice _ _ _ _ _ _ und_strs, run_slice_h _ _ _ _ _ und_strs .i64 (e : Int) (by omega) (by omega)]
    rw [sz_str]
    simp [Result.andThen, sliced]
  · split at h
    · assumption
    · cases a with
      | none => exact h0 rfl
      | some ad => simp at h
  · have hj' : j < L.length := by simp at hj; omega
    obtain ⟨b, off, rfl, hb, hc'⟩ := h j hj'
    rw [if_neg (by omega)]
    exact ⟨b, off, by simp [Addr.add], hb, by rw [List.getElem_take]; exact hc'⟩
theorem slice_from0 (a : Option Addr) (n cap e : Nat) (he : e ≤ n) (hc : n ≤ cap) (h0 : a = none → cap = 0) :
    ∃ a', (∀ u, (Instr.sliceAt 32 (.slice a n cap) (some (.int .i64 (e : Int))) none none).run Tryd.prog u = .ok (.slice a' (n - e) (cap - e)) u) ∧ (a' = none → cap - e = 0) ∧ ∀ (L : List ByteArray) (w : World), L.length = n → Strs w a L → Strs w a' (L.drop e) := by
  refine ⟨if cap = e then a else a.map (·.add (e * 1)), fun u => ?_, fun h => ?_, fun L w hl h j hj => ?_⟩
  · rw [run_sliceAt_slice _ _ _ _ _ _ und_strs, run_slice_l _ _ _ _ _ und_strs .i64 (e : Int) (by omega) (by omega)]
    rw [sz_str]
    simp [Result.andThen, sliced]
  · split at h
    · omega
    · cases a with
      | none => have := h0 rfl; omega
      | some ad => simp at h
  · have hj' : e + j < L.length := by simp at hj; omega
    obtain ⟨b, off, rfl, hb, hc'⟩ := h (e + j) hj'
    rw [if_neg (by omega)]
    exact ⟨b, off + e, by simp [Addr.add], hb, by rw [show off + e + j = off + (e + j) by omega, List.getElem_drop]; exact hc'⟩
/-- A put, by definition. -/
def rputM (L : List Sec) (p n : Nat) (t : List UInt8) : List Sec × Int :=
  if n ≤ Sf.top L then (L, 2) else if 98304 < t.length then (L, 3) else if L.length < p + Sf.many t.length then (L, 6) else (placed L p (Sf.sheaf n t), 0)
/-- What a put by definition hands out. -/
def RpRes (v : Value) (L : List Sec) (M : List Sec × Int) (w : World) (e : Ending) (w' : World) : Prop :=
  Below w.heap.size w w' ∧ ((M.2 ≠ 0 ∧ M.1 = L ∧ e = .returned (.tuple #[v, .int .i64 M.2])) ∨ (M.2 = 0 ∧ ∃ v', e = .returned (.tuple #[v', .int .i64 0]) ∧ Ow w.heap.size w' v' M.1))
theorem strs_ow {w : World} {base : Nat} {v : Value} {n : Nat} {X : List ByteArray} {S : List Sec} (h : w.ownsRow base TStr 1 v n (X.map Value.string)) (hX : X = bas S) : Ow base w v S := by
  subst hX
  have hn : n = S.length := by have := h.1; simpa [bas] using this.symm
  subst hn
  unfold Ow
  rw [← bas_cells]
  exact h
theorem map_bas (S : List Sec) : S.map sv = (bas S).map Value.string := (bas_cells S).symm
set_option maxRecDepth 100000 in
set_option maxHeartbeats 4000000 in
theorem rput_c (w : World) (v : Value) (base : Nat) (L : List Sec) (hO : Ow base w v L) (hl : L.length ≤ 1000) (hl1 : 1 ≤ L.length) (p n : Nat) (hp : p ≤ L.length) (hn9 : n < 18446744073709551616) (t : ByteArray) (ht9 : t.size ≤ 9223372036854775807) :
    Calls Tryd.prog 14 #[v, .int .i64 (p : Int), .int .u64 (n : Int), .string t] w (RpRes v L (rputM L p n t.data.toList) w) := by
  have HM : Hid (rputM L p n t.data.toList = if n ≤ Sf.top L then (L, 2) else if 98304 < t.data.toList.length then (L, 3) else if L.length < p + Sf.many t.data.toList.length then (L, 6) else (placed L p (Sf.sheaf n t.data.toList), 0)) := rfl
  obtain ⟨A, cap, rfl, hcap, hS, hA0, hAb⟩ := hO.form
  have KT : Hid (Calls Tryd.prog 12 #[.slice A L.length cap] w fun e w' => e = .returned (.int .u64 (Sf.top L : Int)) ∧ Below w.heap.size w w') := by
    have := rtop_c w A cap (bas L) hS (by rw [bas_len]; omega)
    rw [bas_len, show (bas L).map (fun s => s.data.toList) = L from lists_bas L] at this
    exact this
  have hp0 : (0 : Int) ≤ (p : Int) := by omega
  have hp1 : (p : Int) ≤ (L.length : Int) := by omega
  have HSS := Lib.hid hS
  have HA0 := Lib.hid hA0
  obtain ⟨tp, htp⟩ : ∃ tp, tp = Sf.top L := ⟨_, rfl⟩
  rw [← htp] at KT HM
  clear hS hA0 hAb hO htp
  by_cases hlow : n ≤ tp
  · have q1 : (n : Int) ≤ (tp : Int) := by omega
    have HW := Lib.hid hlow
    clear hlow
    go_enter Tryd.func14, Tryd.ntmps14
    go_wp2_with fail
    refine KT.out.mono ?_
    rintro e w1 ⟨rfl, hb⟩
    have HB := Lib.hid hb
    clear hb
    go_wp2_with fail
    go_ret2
    rw [HM.out, if_pos HW.out]
    exact ⟨HB.out, .inl ⟨(by show (2 : Int) ≠ 0; decide), rfl, rfl⟩⟩
  · have q1 : (tp : Int) < (n : Int) := by omega
    have q1' : ¬ (n : Int) ≤ (tp : Int) := by omega
    have HW := Lib.hid hlow
    have hn0 : n ≠ 0 := by omega
    clear hlow
    by_cases hlong : 98304 < t.size
    · have KP := Lib.hid (fun w => rput_no n t w hn9 ht9 3 (.inr ⟨hn0, hlong, rfl⟩))
      have HLG : Hid (98304 < t.data.toList.length) := by show _ < _; simpa using hlong
      clear hlong hn0
      go_enter Tryd.func14, Tryd.ntmps14
      go_wp2_with fail
      refine KT.out.mono ?_
      rintro e w1 ⟨rfl, hb⟩
      have HB := Lib.hid hb
      clear hb
      go_wp2_with fail
      refine (KP.out _).mono ?_
      rintro e w2 ⟨rfl, rfl⟩
      go_wp2_with fail
      go_ret2
      rw [HM.out, if_neg HW.out, if_pos HLG.out]
      exact ⟨HB.out, .inl ⟨(by show (3 : Int) ≠ 0; decide), rfl, rfl⟩⟩
    · have KP := Lib.hid (fun w => rput_ok n t w hn0 hn9 (by omega))
      have HLG : Hid (¬ 98304 < t.data.toList.length) := by show ¬ _ < _; simpa using hlong
      have hsl := Sf.sheaf_len n t.data.toList
      have hmp := Sf.many_pos t.data.toList.length
      have hm9 : (Sf.sheaf n t.data.toList).length ≤ 3000 := by
        have := Sf.chunks_len _ (Sf.text t.data.toList) (Nat.le_refl _) (Sf.text_pos _)
        have h2 : (Sf.text t.data.toList).length ≤ 98404 := by
          have := (Ta.num_len t.data.toList.length (by simp; omega)).1
          unfold Sf.text; rw [List.length_append]; simp at *; omega
        unfold Sf.sheaf; rw [List.length_map, this]; omega
      obtain ⟨B, hB⟩ : ∃ B, Sf.sheaf n t.data.toList = B := ⟨_, rfl⟩
      have HPB : Hid (∀ e u w', PutOk n t.data.toList u e w' → ∃ b cap, e = .returned (.tuple #[.slice (some ⟨b, 0, none⟩) B.length cap, .int .i64 0]) ∧ w'.ownsRow u.heap.size TStr 1 (.slice (some ⟨b, 0, none⟩) B.length cap) B.length (B.map sv) ∧ Below u.heap.size u w') := by
        subst hB
        exact fun e u w' h => h
      rw [hB] at hsl HM hm9
      rw [← hsl] at HM
      have hb1 : 1 ≤ B.length := by omega
      clear hlong hB hsl hmp hn0
      by_cases hfull : L.length < p + B.length
      · have q4 : (L.length : Int) - (p : Int) < (B.length : Int) := by omega
        have HF := Lib.hid hfull
        clear hfull
        go_enter Tryd.func14, Tryd.ntmps14
        go_wp2_with fail
        refine KT.out.mono ?_
        rintro e w1 ⟨rfl, hb⟩
        have HB := Lib.hid hb
        clear hb
        go_wp2_with fail
        refine (KP.out _).mono ?_
        rintro e w2 he
        obtain ⟨b, cb, rfl, hown, hb⟩ := HPB.out _ _ _ he
        have HB2 : Hid (Below w.heap.size w w2) := HB.out.trans (hb.mono HB.out.size)
        clear hb hown he
        go_wp2_with fail
        go_ret2
        rw [HM.out, if_neg HW.out, if_neg HLG.out, if_pos HF.out]
        exact ⟨HB2.out, .inl ⟨(by show (6 : Int) ≠ 0; decide), rfl, rfl⟩⟩
      · have q4 : (B.length : Int) ≤ (L.length : Int) - (p : Int) := by omega
        have q5 : (p : Int) + (B.length : Int) ≤ (L.length : Int) := by omega
        have HF := Lib.hid hfull
        have hpB : p + B.length ≤ L.length := by omega
        obtain ⟨a1, c1, hs1, h10, hst1⟩ := slice_to A L.length cap p hp hcap HA0.out
        obtain ⟨a2, hs2, h20, hst2⟩ := slice_from0 A L.length cap (p + B.length) hpB hcap HA0.out
        have hs2' : ∀ u, (Instr.sliceAt 32 (.slice A L.length cap) (some (.int .i64 ((p : Int) + (B.length : Int)))) none none).run Tryd.prog u = .ok (.slice a2 (L.length - (p + B.length)) (cap - (p + B.length))) u := fun u => by
          have := hs2 u
          rw [show ((p + B.length : Nat) : Int) = (p : Int) + (B.length : Int) by omega] at this
          exact this
        have HS1 := Lib.hid hs1
        have HS2 := Lib.hid hs2'
        have H10 := Lib.hid h10
        have H20 := Lib.hid h20
        have HST1 := Lib.hid hst1
        have HST2 := Lib.hid hst2
        clear hfull hs1 hs2 hs2' h10 h20 hst1 hst2
        go_enter Tryd.func14, Tryd.ntmps14
        go_wp2_with fail
        refine KT.out.mono ?_
        rintro e w1 ⟨rfl, hb⟩
        have HB := Lib.hid hb
        clear hb
        go_wp2_with fail
        refine (KP.out _).mono ?_
        rintro e w2 he
        obtain ⟨b, cb, rfl, hown, hb⟩ := HPB.out _ _ _ he
        have HB2 : Hid (Below w.heap.size w w2) := HB.out.trans (hb.mono HB.out.size)
        have HSB := Lib.hid (strs_own hown)
        clear hb hown he HB
        have HAL := Lib.hid ((Below.refl w2.heap.size w2).alloc (Nat.le_refl _) (.cells #[] TStr))
        have HZ := Lib.hid (own_zero w2 TStr w2.heap.size 1 (Nat.le_refl _))
        obtain ⟨X1, hX1⟩ : ∃ X1, X1 = (bas L).take p := ⟨_, rfl⟩
        obtain ⟨X3, hX3⟩ : ∃ X3, X3 = (bas L).drop (p + B.length) := ⟨_, rfl⟩
        have HT1 : Hid (Strs (w2.alloc (.cells #[] TStr)) a1 X1) := hX1 ▸ (HST1.out (bas L) w2 (bas_len L) (HSS.out.later HB2.out)).later HAL.out
        have hx1 : X1.length = p := by rw [hX1]; simp [bas]; omega
        have HX1 := Lib.hid hx1
        have HX1E := Lib.hid hX1
        have HX3E := Lib.hid hX3
        clear hx1 hX1 hX3
        have hsa := HS1.out (w2.alloc (.cells #[] TStr))
        go_wp2_with (at_builtin; refine wpList_append_strs rfl _ _ rfl w2.heap.size _ _ _ rfl HZ.out a1 X1 c1 (by rw [HX1.out]; rfl) HT1.out H10.out (by rw [HX1.out]; omega) HAL.out.size ?_)
        intro v3 w3 o3 g3
        have B3a := HAL.out.grown g3 HAL.out.size (fun k hk => (HZ.out.lt k hk).1)
        have B3 := Lib.hid B3a
        rw [HX1.out] at o3
        obtain ⟨a3, c3, rfl⟩ := own_slice o3
        have O3 := Lib.hid o3
        have HT2 : Hid (Strs w3 (some ⟨b, 0, none⟩) (bas B)) := HSB.out.later B3a
        have hx2 := bas_len B
        have HX2 := Lib.hid hx2
        clear o3 g3 B3a hsa hx2
        go_wp2_with (at_builtin; refine wpList_append_strs rfl _ _ rfl w2.heap.size _ _ _ rfl O3.out (some ⟨b, 0, none⟩) (bas B) cb (by rw [HX2.out]; rfl) HT2.out (fun h => by cases h) (by rw [HX2.out]; omega) B3.out.size ?_)
        intro v4 w4 o4 g4
        have B4a := B3.out.grown g4 B3.out.size (fun k hk => (O3.out.lt k hk).1)
        have B4 := Lib.hid B4a
        rw [HX2.out] at o4
        obtain ⟨a4, c4, rfl⟩ := own_slice o4
        have O4 := Lib.hid o4
        have HT3 : Hid (Strs w4 a2 X3) := HX3E.out ▸ (HST2.out (bas L) w2 (bas_len L) (HSS.out.later HB2.out)).later B4a
        have hx3 : X3.length = L.length - (p + B.length) := by rw [HX3E.out]; simp [bas]
        have HX3 := Lib.hid hx3
        clear o4 g4 B4a hx3
        have hsb := HS2.out w4
        go_wp2_with (at_builtin; refine wpList_append_strs rfl _ _ rfl w2.heap.size _ _ _ rfl O4.out a2 X3 (cap - (p + B.length)) (by rw [HX3.out]; rfl) HT3.out H20.out (by rw [HX3.out]; omega) B4.out.size ?_)
        intro v5 w5 o5 g5
        have B5a := B4.out.grown g5 B4.out.size (fun k hk => (O4.out.lt k hk).1)
        have B5 := Lib.hid B5a
        rw [HX3.out] at o5
        obtain ⟨a5, c5, rfl⟩ := own_slice o5
        have O5 := Lib.hid o5
        clear o5 g5 B5a hsb
        go_wp2_with fail
        go_ret2
        rw [HM.out, if_neg HW.out, if_neg HLG.out, if_neg HF.out]
        refine ⟨HB2.out.trans (B5.out.mono HB2.out.size), .inr ⟨rfl, _, rfl, ?_⟩⟩
        have h6 := O5.out
        have e1 : X1.map Value.string ++ ((bas B).map Value.string ++ X3.map Value.string) = (bas (placed L p B)).map Value.string := by
          rw [HX1E.out, HX3E.out]
          unfold placed bas
          simp
        rw [e1] at h6
        exact (strs_ow h6 rfl).lower HB2.out.size
/-- n new bytes. -/
def mkn (n : Nat) (u : World) : World := u.alloc (.cells (madeCells #[.int .u8 0] n) 5)
theorem infou8 : (Tryd.prog.info? 5).map (fun i => (i.zero, i.size, i.bytes)) = some (some (.int .u8 0), 1, 1) := by kernel_rfl
theorem maken (n : Nat) (hn : n ≤ 1000) (u : World) : (Instr.makeSlice 52 (.int .i64 (n : Int)) (.int .i64 (n : Int))).run Tryd.prog u = .ok (.slice (some ⟨u.heap.size, 0, none⟩) n n) (mkn n u) := by
  obtain ⟨i0, hi, hz0, hz1, hz2⟩ := info_parts infou8
  have := run_make (P := Tryd.prog) u 52 5 i0 (.int .u8 0) Tryd.underlying52 hi hz0 .i64 .i64 n n (by omega) (by omega) (by rw [hz2]; omega) (by omega)
  rw [hz1] at this
  simpa [mkn, Value.cells] using this
theorem mkn_row (n : Nat) (u : World) : Cm.RowAt (mkn n u) u.heap.size ((List.replicate n (0 : UInt8)).map Le.bv) := by
  have h := Cm.row_new u (List.replicate n (.int .u8 0)) 5
  have e : (List.replicate n (Value.int .u8 0)).toArray = madeCells #[.int .u8 0] n := by
    unfold madeCells
    apply Array.ext'
    simp
    refine List.ext_getElem (by simp) fun j h1 h2 => ?_
    simp [Nat.mod_one]
  rw [e] at h
  have e2 : (List.replicate n (0 : UInt8)).map Le.bv = List.replicate n (.int .u8 0) := by rw [List.map_replicate]; rfl
  rw [e2]
  exact h
theorem conn (n : Nat) (u : World) : (convert 52 9 (.slice (some ⟨u.heap.size, 0, none⟩) n n)).run Tryd.prog (mkn n u) = .ok (.string ⟨(List.replicate n (0 : UInt8)).toArray⟩) (mkn n u) := by
  have h := Le.row_str (cap := n) (mkn_row n u)
  rwa [List.length_replicate] at h
theorem below_mkn (n : Nat) (u : World) : Below u.heap.size u (mkn n u) := (Below.refl _ u).alloc (Nat.le_refl _) _
theorem size_mkn (n : Nat) (u : World) : (mkn n u).heap.size = u.heap.size + 1 := by simp [mkn]
def zs : Sec := List.replicate 64 0
set_option maxRecDepth 100000 in
set_option maxHeartbeats 1600000 in
theorem rnew_c (n : Nat) (hn : n ≤ 1000) (w : World) : Calls Tryd.prog 10 #[.int .i64 (n : Int)] w fun e w' => ∃ v, e = .returned v ∧ Ow w.heap.size w' v (List.replicate n zs) ∧ Below w.heap.size w w' := by
  obtain ⟨i0, hi, hz0, hz1, hz2⟩ := info_parts infoStr
  have hmk : ∀ u, (Instr.makeSlice 52 (.int .i64 64) (.int .i64 64)).run Tryd.prog u = .ok (.slice (some ⟨u.heap.size, 0, none⟩) 64 64) (mkn 64 u) := fun u => maken 64 (by omega) u
  have hcv := fun u => conn 64 u
  go_enter Tryd.func10, Tryd.ntmps10
  go_wp2_with fail
  go_loopg [3, 4] n (fun kx s3 s4 wr => ∃ k : Nat, k ≤ n ∧ s4 = .int .i64 (k : Int) ∧ Hid (wr.ownsRow w.heap.size TStr 1 s3 k (List.replicate k (sv zs))) ∧ Hid (Below w.heap.size w wr) ∧ n ≤ k + kx)
  case atStart => exact ⟨0, Nat.zero_le _, rfl, World.ownsRow_nil _ _ _ _, Below.refl _ _, by omega⟩
  case round =>
    obtain ⟨k, hk, rfl, HO, HB, hkx⟩ := hrel
    by_cases hlt : k < n
    · have HO2 := Lib.hid (own_later HO.out (below_mkn 64 wr))
      have hs := HB.out.size
      have hz := size_mkn 64 wr
      have HZ := Lib.hid hz
      have hb2 := below_mkn 64 wr
      have HB2 : Hid (Below w.heap.size w (mkn 64 wr)) := HB.out.trans (hb2.mono hs)
      clear hz hb2
      go_wp2_with (at_builtin; refine wpList_append_own_at _ rfl _ _ 32 rfl w.heap.size TStr i0 (.string ⟨#[]⟩) 1 16 Tryd.underlying32 hi hz0 hz1 hz2 rfl (by decide) _ _ _ rfl (HO2.out.alloc _) ⟨(mkn 64 wr).heap.size, 0, none⟩ 1 1 [sv zs] rfl rfl (one_new' _ _ _) (by simp [Value.oneCell', sv]) (by unfold maxLen; omega) (by omega) (by simp; rw [HZ.out]; omega) ?_)
      intro v' w3 hown hgrow hnil hat
      obtain ⟨a3, c3, rfl⟩ := own_slice hown
      have HO3 := Lib.hid hown
      have HB3 : Hid (Below w.heap.size w w3) := (HB2.out.alloc (by rw [HZ.out]; omega) _).grown hgrow (by simp; rw [HZ.out]; omega) (fun j hj => (HO2.out.lt j hj).1)
      clear hown hgrow hnil hat
      go_wp2_with fail
      go_roundg (n - (k + 1))
      case measure => omega
      case rel => exact ⟨k + 1, by omega, by simp, by have := HO3.out; rwa [← List.replicate_succ'] at this, HB3, by omega⟩
    · obtain rfl : k = n := by omega
      obtain ⟨a3, c3, rfl⟩ := own_slice HO.out
      go_wp2_with fail
      go_ret
      exact ⟨_, rfl, by unfold Ow; rw [List.length_replicate, List.map_replicate]; exact HO.out, HB.out⟩
set_option maxRecDepth 100000 in
set_option maxHeartbeats 3200000 in
/-- What begins with some texts, and goes on with the first ones of some others. -/
theorem begins_c (w : World) (bl bh bm : Nat) (vl vh vm : Value) (H M : List Sec) (j : Nat) (hj : j ≤ M.length) (hl : H.length + M.length ≤ 100000) (ol : Ow bl w vl (H ++ M.take j)) (oh : Ow bh w vh H) (om : Ow bm w vm M) :
    Calls Tryd.prog 26 #[vl, vh, vm] w fun e w' => e = .returned (.bool true) ∧ Below w.heap.size w w' := by
  obtain ⟨L, hL⟩ : ∃ L, L = H ++ M.take j := ⟨_, rfl⟩
  have hll : L.length = H.length + j := by rw [hL]; simp; omega
  rw [← hL] at ol
  obtain ⟨al, cl, rfl, hcl, hsl, hl0, _⟩ := ol.form
  obtain ⟨ah, ch, rfl, hch, hsh, hh0, _⟩ := oh.form
  obtain ⟨am, cm, rfl, hcm, hsm, hm0, _⟩ := om.form
  have q1 : (H.length : Int) ≤ (L.length : Int) := by omega
  have q2 : (L.length : Int) ≤ (H.length : Int) + (M.length : Int) := by omega
  have q3 : (H.length : Int) + (M.length : Int) ≤ 100000 := by omega
  have d1 : decide (L.length < H.length) = false := decide_eq_false (by omega)
  have d2 : decide ((H.length : Int) + (M.length : Int) < (L.length : Int)) = false := decide_eq_false (by omega)
  have HSL := Lib.hid hsl
  have HSH := Lib.hid hsh
  have HSM := Lib.hid hsm
  have HH0 := Lib.hid hh0
  have HM0 := Lib.hid hm0
  have HLL := Lib.hid hll
  have HLE := Lib.hid hL
  clear ol oh om hsl hsh hsm hl0 hh0 hm0 hll hL
  have HAL := Lib.hid ((Below.refl w.heap.size w).alloc (Nat.le_refl _) (.cells #[] TStr))
  have HZ := Lib.hid (own_zero w TStr w.heap.size 1 (Nat.le_refl _))
  go_enter Tryd.func26, Tryd.ntmps26
  obtain ⟨X1, hX1⟩ : ∃ X1, X1 = bas H := ⟨_, rfl⟩
  obtain ⟨X2, hX2⟩ : ∃ X2, X2 = bas M := ⟨_, rfl⟩
  have hx1 : X1.length = H.length := by rw [hX1]; exact bas_len H
  have hx2 : X2.length = M.length := by rw [hX2]; exact bas_len M
  have HX1 := Lib.hid hx1
  have HX2 := Lib.hid hx2
  have HE1 := Lib.hid hX1
  have HE2 := Lib.hid hX2
  have HT1 : Hid (Strs (w.alloc (.cells #[] TStr)) ah X1) := hX1 ▸ HSH.out.later HAL.out
  clear hx1 hx2 hX1 hX2
  go_wp2_with (at_builtin; refine wpList_append_strs rfl _ _ rfl w.heap.size _ _ _ rfl HZ.out ah X1 ch (by rw [HX1.out]; rfl) HT1.out HH0.out (by rw [HX1.out]; omega) HAL.out.size ?_)
  intro v3 w3 o3 g3
  have B3a := HAL.out.grown g3 HAL.out.size (fun k hk => (HZ.out.lt k hk).1)
  have B3 := Lib.hid B3a
  rw [HX1.out] at o3
  obtain ⟨a3, c3, rfl⟩ := own_slice o3
  have O3 := Lib.hid o3
  have HT2 : Hid (Strs w3 am X2) := HE2.out ▸ HSM.out.later B3a
  clear o3 g3 B3a
  go_wp2_with (at_builtin; refine wpList_append_strs rfl _ _ rfl w.heap.size _ _ _ rfl O3.out am X2 cm (by rw [HX2.out]; rfl) HT2.out HM0.out (by rw [HX2.out]; omega) B3.out.size ?_)
  intro v4 w4 o4 g4
  have B4a := B3.out.grown g4 B3.out.size (fun k hk => (O3.out.lt k hk).1)
  have B4 := Lib.hid B4a
  rw [HX2.out] at o4
  obtain ⟨a4, c4, rfl⟩ := own_slice o4
  have o5 : Ow w.heap.size w4 (.slice a4 (H.length + M.length) c4) (H ++ M) := strs_ow (X := X1 ++ X2) (by rw [List.map_append]; simpa using o4) (by rw [HE1.out, HE2.out]; simp [bas])
  obtain ⟨a5, c5, e5, hc5, hs5, h50, _⟩ := o5.form
  have hlen : (H ++ M).length = H.length + M.length := by simp
  rw [hlen] at e5 hc5
  cases e5
  obtain ⟨a6, c6, hsl6, _, hst6⟩ := slice_to a4 (H.length + M.length) c4 L.length (by rw [HLL.out]; omega) hc5 h50
  have hs7 := hst6 (bas (H ++ M)) w4 (by rw [bas_len, hlen]) hs5
  have e7 : (bas (H ++ M)).take L.length = bas L := by
    rw [HLL.out, HLE.out]
    unfold bas
    rw [← List.map_take, List.take_append, List.take_of_length_le (by omega)]
    simp
  rw [e7] at hs7
  have HS7 := Lib.hid hs7
  have HSL4 := Lib.hid (HSL.out.later B4a)
  have hsl7 := hsl6 w4
  have KS : Hid (Calls Tryd.prog 28 #[.slice al L.length cl, .slice a6 L.length c6] w4 fun e w' => e = .returned (.bool true) ∧ Below w4.heap.size w4 w') := same_yes w4 al a6 L.length cl c6 (bas L) (bas L) HSL4.out HS7.out (bas_len L) (bas_len L) (by rw [HLL.out]; omega) rfl
  clear o4 g4 B4a o5 hc5 hs5 h50 hlen hsl6 hst6 hs7 e7
  go_wp2_with fail
  refine KS.out.mono ?_
  rintro e w5 ⟨rfl, hb⟩
  have HB5 : Hid (Below w.heap.size w w5) := B4.out.trans (hb.mono B4.out.size)
  clear hb
  go_wp2_with fail
  go_ret
  exact ⟨rfl, HB5.out⟩
end Go.Proofs.YtnfjgmdpokpbbaaDoor.Rk
