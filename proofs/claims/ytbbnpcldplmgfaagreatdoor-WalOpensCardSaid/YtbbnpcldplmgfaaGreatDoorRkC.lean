/- Joined: RkRef RkRef2. -/
import Derived.Test.YtbbnpcldplmgfaaGreatDoorRkPut
import Derived.Test.YtbbnpcldplmgfaaGreatDoorSfRPut
import Derived.Laws.AppendOwnNone
section
namespace Go.Proofs.YtbbnpcldplmgfaaGreatDoor.Rk
open Go Go.RowKit Dv Rf Shf
open Tal (Strs bas)
theorem wpList_append_strs {ops : Array Oper} {rest : List Oper} {o : Oper} {a : Act} {Q : Exit → Act → World → Prop} {w : World} (hgd : o.guard = none) (s x : Operand)
    (ho : o.op = .call { callee := .builtin .append, args := #[s, x], argTypes := #[32, 32] })
    (base : Nat) (v : Value) (n : Nat) (xs : List Value) (hs : a.eval s = v) (hown : w.ownsRow base 9 1 v n xs)
    (A : Option Addr) (L : List ByteArray) (cap : Nat) (hx : a.eval x = .slice A L.length cap) (hL : Strs w A L) (h0 : A = none → cap = 0) (hl : n + L.length ≤ 1000000) (hbase : base ≤ w.heap.size)
    (h : ∀ v' w', w'.ownsRow base 9 1 v' (n + L.length) (xs ++ L.map Value.string) → w.grownBy w' v.ownBlock → wpList Tryz.prog ops Q rest (a.put o.dst v') w') : wpList Tryz.prog ops Q (o :: rest) a w := by
  obtain ⟨i0, hi, hz0, hz1, hz2⟩ := info_parts Rk.infoStr
  cases A with
  | none =>
    cases L with
    | nil =>
      obtain rfl := h0 rfl
      exact wpList_append_own_none hgd s x 32 ho base 9 i0 1 Tryz.underlying32 hi v n xs hs hown hx (h v w (by simpa using hown) (World.grownBy.refl w _))
    | cons y t =>
      obtain ⟨_, _, h1, _⟩ := hL 0 (by simp)
      cases h1
  | some ad =>
    refine wpList_append_own w hgd s x 32 ho base 9 i0 (.string ⟨#[]⟩) 1 16 Tryz.underlying32 hi hz0 hz1 hz2 rfl (by decide) v n xs hs hown ad L.length cap (L.map Value.string) hx (by simp) ?_ ?_ (by unfold maxLen; omega) (by omega) hbase (fun v' w' h1 h2 _ => h v' w' h1 h2)
    · intro j u hu
      have hj : j < L.length := by
        rcases Nat.lt_or_ge j L.length with h' | h'
        · exact h'
        · simp [List.getElem?_eq_none h'] at hu
      obtain ⟨b, off, h1, _, h3⟩ := hL j hj
      obtain rfl := Option.some.inj h1
      have hu' : Value.string L[j] = u := by simpa [hj] using hu
      rw [Go.WideShapes.add_plain, h3, hu']
    · intro u hu
      obtain ⟨y, _, rfl⟩ := List.mem_map.1 hu
      rfl
theorem own_zero (W : World) (t base size : Nat) (hb : base ≤ W.heap.size) : (W.alloc (.cells #[] t)).ownsRow base t size (.slice (some ⟨W.heap.size, 0, none⟩) 0 0) 0 [] :=
  ⟨by simp, .inr ⟨W.heap.size, 0, #[], rfl, hb, World.alloc_heap_new W _, Nat.le_refl _, by unfold maxLen; omega, by simp, by simp⟩⟩
/-- A row of strings of one's own. -/
def Ow (base : Nat) (w : World) (v : Value) (L : List Sec) : Prop := w.ownsRow base TStr 1 v L.length (L.map sv)
theorem bas_len (S : List Sec) : (bas S).length = S.length := by simp [bas]
section
variable {b b' : Nat} {w w' : World} {v : Value} {L : List Sec}
theorem Ow.later (h : Ow b w v L) (k : Below w.heap.size w w') : Ow b w' v L := own_later h k
theorem Ow.lower (h : Ow b w v L) (hb : b' ≤ b) : Ow b' w v L := own_lower h hb
theorem Ow.keeps {T : Nat → Prop} (h : Ow b w v L) (k : Keeps T w w') (hT : ∀ j, v.ownBlock = some j → ¬ T j) : Ow b w' v L := own_keeps h k hT
theorem Ow.form (h : Ow b w v L) : ∃ A cap, v = .slice A L.length cap ∧ L.length ≤ cap ∧ Strs w A (bas L) ∧ (A = none → cap = 0) ∧ ∀ g off, A = some ⟨g, off, none⟩ → off = 0 ∧ v.ownBlock = some g := by
  rcases id h.2 with ⟨rfl, h0⟩ | ⟨g, cap, cur, rfl, hg, hb, hn, _⟩
  · have hL : L = [] := by simpa using h0
    subst hL
    exact ⟨none, 0, rfl, Nat.le_refl _, fun j hj => absurd hj (by simp [bas]), fun _ => rfl, fun g off e => by cases e⟩
  · exact ⟨some ⟨g, 0, none⟩, cap, rfl, hn, strs_own h, fun e => (by cases e), fun g' off e => by cases e; exact ⟨rfl, rfl⟩⟩
end
def RtRes (L : List Sec) (w : World) (e : Ending) (w' : World) : Prop := ∃ v s, e = .returned (.tuple #[v, .int .u64 (s.first : Int), .int .i64 (s.e : Int)]) ∧ Loaded L s ∧ Ow w.heap.size w' v s.T ∧ Below w.heap.size w w'
set_option maxRecDepth 100000 in
set_option maxHeartbeats 3200000 in
theorem rtexts_c (w : World) (a : Option Addr) (cap : Nat) (L : List ByteArray) (hL : Strs w a L) (hl : L.length ≤ 1000) (hcap : L.length ≤ cap) :
    Calls Tryz.prog 37 #[.slice a L.length cap] w (RtRes (lists L) w) := by
  obtain ⟨i0, hi, hz0, hz1, hz2⟩ := info_parts infoStr
  have HL := Lib.hid hL
  have HLL := Lib.hid (lists_len L)
  obtain ⟨G, hG⟩ : ∃ G, lists L = G := ⟨_, rfl⟩
  have HG := Lib.hid hG
  rw [hG] at HLL ⊢
  clear hL hG
  go_enter Tryz.func37, Tryz.ntmps37
  go_wp2_with fail
  go_loopg [5, 6, 7, 8] L.length (fun kx s5 s6 s7 s8 wr => ∃ (s : Ld), s6 = .int .u64 (s.first : Int) ∧ s7 = .int .u64 (s.last : Int) ∧ s8 = .int .i64 (s.e : Int) ∧ Hid (Reads G s) ∧ Hid (Ow w.heap.size wr s5 s.T) ∧ Hid (Below w.heap.size w wr) ∧ L.length ≤ s.e + kx)
  case atStart => exact ⟨Ld.zero, rfl, rfl, rfl, Reads.nil, World.ownsRow_nil _ _ _ _, Below.refl _ _, by omega⟩
  case round =>
    obtain ⟨s, rfl, rfl, rfl, HR, HO, HB, hkx⟩ := hrel
    obtain ⟨av, cv, rfl⟩ := own_slice HO.out
    have hf := HR.out.fine
    have he : s.e ≤ L.length := by rw [← HLL.out]; exact hf.le
    have ht : s.T.length ≤ 1000 := by have := hf.tl; omega
    have hlast := hf.l64
    have hz' := hf.z
    obtain ⟨a', hsl, hst⟩ := slice_from a L.length cap s.e he hcap
    have hz : (L.drop s.e).length = L.length - s.e := by simp
    have KG2 : Hid (Calls Tryz.prog 64 #[.slice a' (L.length - s.e) (cap - s.e)] wr (SGet (Sf.pget (G.drop s.e)) wr)) := by
      have := sheafget_ref wr a' (cap - s.e) (L.drop s.e) (hst L wr rfl (strs_keeps HL.out (Keeps.of (fun _ => False) HB.out) fun _ _ _ h => h)) (by omega) (by omega)
      rw [hz] at this
      have e : lists (L.drop s.e) = G.drop s.e := by rw [← HG.out]; unfold lists; rw [List.map_drop]
      rw [e, ← Sf.get_same] at this
      exact this
    have q0 : (s.e : Int) ≤ (L.length : Int) := by omega
    have q1 : (0 : Int) ≤ (s.e : Int) := by omega
    have hsl2 := hsl wr
    clear hf hst hz hsl
    cases hp : Sf.pget (G.drop s.e) with
    | none =>
      have HS : Hid (step G s = none) := by unfold step; show _ = none; rw [hp]
      have HP := Lib.hid hp
      clear hp hlast
      go_wp2_with fail
      refine KG2.out.mono ?_
      rintro e w2 ⟨_, hn, hb⟩
      obtain rfl := hn HP.out
      have HB2 : Hid (Below w.heap.size w w2) := HB.out.trans (hb.mono HB.out.size)
      have HO2 := Lib.hid (HO.out.later hb)
      clear hb hn
      go_wp2_with fail
      go_ret3
      exact ⟨_, s, rfl, ⟨HR.out, HS.out⟩, HO2.out, HB2.out⟩
    | some z =>
      obtain ⟨n, t, k⟩ := z
      have hi' := Sf.is_of_pget hp
      have hi9 := hi'.le
      rw [List.length_drop, HLL.out] at hi9
      have hk1 := is_pos hi'
      have hn9 := hi'.nl
      have HP := Lib.hid hp
      by_cases hlt : s.last < n
      · have HS := Lib.hid (step_of hi' hlt)
        have q2 : (s.last : Int) < (n : Int) := by omega
        have q3 : ¬ (n : Int) ≤ (s.last : Int) := by omega
        clear hp hi' hlt hn9
        by_cases h0 : s.T.length = 0
        · have z0 : ((s.T.length : Int) == 0) = true := beq_iff_eq.2 (by omega)
          have HF : Hid ((s.took n t k).first = n) := by show (if s.T.length = 0 then n else s.first) = n; rw [if_pos h0]
          clear h0
          go_wp2_with fail
          refine KG2.out.mono ?_
          rintro e w2 ⟨hs, _, hb⟩
          obtain rfl := hs n t k HP.out
          have HB2 : Hid (Below w.heap.size w w2) := HB.out.trans (hb.mono HB.out.size)
          have HO2 : Hid (w2.ownsRow w.heap.size TStr 1 (.slice av s.T.length cv) s.T.length (s.T.map sv)) := HO.out.later hb
          have hsz := HB2.out.size
          clear hb hs
          go_wp2_with (at_builtin; refine wpList_append_own_at _ rfl _ _ 32 rfl w.heap.size TStr i0 (.string ⟨#[]⟩) 1 16 Tryz.underlying32 hi hz0 hz1 hz2 rfl (by decide) _ _ _ rfl (HO2.out.alloc _) ⟨w2.heap.size, 0, none⟩ 1 1 [.string ⟨t.toArray⟩] rfl rfl (one_new' _ _ _) (by simp [Value.oneCell']) (by unfold maxLen; omega) (by omega) (by simp; omega) ?_)
          intro v' w3 hown hgrow hnil hat
          obtain ⟨a3, c3, rfl⟩ := own_slice hown
          have HO3 : Hid (Ow w.heap.size w3 (.slice a3 (s.T.length + 1) c3) (s.took n t k).T) := by
            show w3.ownsRow _ _ _ _ _ _
            have e1 : (s.took n t k).T.length = s.T.length + 1 := by simp [Ld.took]
            have e2 : (s.took n t k).T.map sv = s.T.map sv ++ [.string ⟨t.toArray⟩] := by simp [Ld.took, sv]
            rw [e1, e2]
            exact hown
          have HB3 : Hid (Below w.heap.size w w3) := (HB2.out.alloc hsz _).grown hgrow (by simp; omega) (fun j hj => (HO2.out.lt j hj).1)
          clear hown hgrow hnil hat
          go_wp2_with fail
          go_roundg (L.length - (s.e + k))
          case measure => omega
          case rel => exact ⟨s.took n t k, by rw [HF.out], rfl, by show Value.int .i64 ((s.e : Int) + (k : Int)) = .int .i64 ((s.e + k : Nat) : Int); simp, HR.out.more HS.out, HO3, HB3, by show L.length ≤ s.e + k + _; omega⟩
        · have z0 : ((s.T.length : Int) == 0) = false := beq_eq_false_iff_ne.2 (by omega)
          have HF : Hid ((s.took n t k).first = s.first) := by show (if s.T.length = 0 then n else s.first) = _; rw [if_neg h0]
          clear h0
          go_wp2_with fail
          refine KG2.out.mono ?_
          rintro e w2 ⟨hs, _, hb⟩
          obtain rfl := hs n t k HP.out
          have HB2 : Hid (Below w.heap.size w w2) := HB.out.trans (hb.mono HB.out.size)
          have HO2 : Hid (w2.ownsRow w.heap.size TStr 1 (.slice av s.T.length cv) s.T.length (s.T.map sv)) := HO.out.later hb
          have hsz := HB2.out.size
          clear hb hs
          go_wp2_with (at_builtin; refine wpList_append_own_at _ rfl _ _ 32 rfl w.heap.size TStr i0 (.string ⟨#[]⟩) 1 16 Tryz.underlying32 hi hz0 hz1 hz2 rfl (by decide) _ _ _ rfl (HO2.out.alloc _) ⟨w2.heap.size, 0, none⟩ 1 1 [.string ⟨t.toArray⟩] rfl rfl (one_new' _ _ _) (by simp [Value.oneCell']) (by unfold maxLen; omega) (by omega) (by simp; omega) ?_)
          intro v' w3 hown hgrow hnil hat
          obtain ⟨a3, c3, rfl⟩ := own_slice hown
          have HO3 : Hid (Ow w.heap.size w3 (.slice a3 (s.T.length + 1) c3) (s.took n t k).T) := by
            show w3.ownsRow _ _ _ _ _ _
            have e1 : (s.took n t k).T.length = s.T.length + 1 := by simp [Ld.took]
            have e2 : (s.took n t k).T.map sv = s.T.map sv ++ [.string ⟨t.toArray⟩] := by simp [Ld.took, sv]
            rw [e1, e2]
            exact hown
          have HB3 : Hid (Below w.heap.size w w3) := (HB2.out.alloc hsz _).grown hgrow (by simp; omega) (fun j hj => (HO2.out.lt j hj).1)
          clear hown hgrow hnil hat
          go_wp2_with fail
          go_roundg (L.length - (s.e + k))
          case measure => omega
          case rel => exact ⟨s.took n t k, by rw [HF.out], rfl, by show Value.int .i64 ((s.e : Int) + (k : Int)) = .int .i64 ((s.e + k : Nat) : Int); simp, HR.out.more HS.out, HO3, HB3, by show L.length ≤ s.e + k + _; omega⟩
      · have HS : Hid (step G s = none) := step_none fun m u k' h => by
          have h1 := Sf.pget_of_is h
          rw [hp] at h1
          cases h1
          omega
        have q2 : (n : Int) ≤ (s.last : Int) := by omega
        clear hp hi' hlt hn9
        go_wp2_with fail
        refine KG2.out.mono ?_
        rintro e w2 ⟨hs, _, hb⟩
        obtain rfl := hs n t k HP.out
        have HB2 : Hid (Below w.heap.size w w2) := HB.out.trans (hb.mono HB.out.size)
        have HO2 := Lib.hid (HO.out.later hb)
        clear hb hs
        go_wp2_with fail
        go_ret3
        exact ⟨_, s, rfl, ⟨HR.out, HS.out⟩, HO2.out, HB2.out⟩
end Go.Proofs.YtbbnpcldplmgfaaGreatDoor.Rk
end
section
namespace Go.Proofs.YtbbnpcldplmgfaaGreatDoor.Rk
open Go Go.RowKit Dv Rf Shf
open Tal (Strs bas)
theorem slice_to (a : Option Addr) (n cap e : Nat) (he : e ≤ n) (hc : n ≤ cap) (h0 : a = none → cap = 0) :
    ∃ a' c', (∀ u, (Instr.sliceAt 32 (.slice a n cap) none (some (.int .i64 (e : Int))) none).run Tryz.prog u = .ok (.slice a' e c') u) ∧ (a' = none → c' = 0) ∧ ∀ (L : List ByteArray) (w : World), L.length = n → Strs w a L → Strs w a' (L.take e) := by
  refine ⟨if cap = 0 then a else a.map (·.add (0 * 1)), cap, fun u => ?_, fun h => ?_, fun L w hl h j hj => ?_⟩
  · rw [run_sliceAt_slice _ _ _ _ _ _ und_strs, run_slice_h _ _ _ _ _ und_strs .i64 (e : Int) (by omega) (by omega)]
    rw [sz_str]
    simp [Result.andThen, sliced]
  · split at h
    · assumption
    · cases a with
      | none => exact h0 rfl
      | some ad => simp at h
  · have hj' : j < L.length := by simp at hj; omega
    obtain ⟨b, off, rfl, hb, hc'⟩ := h j hj'
    rw [if_neg (by omega)]
    exact ⟨b, off, by simp [Addr.add], hb, by rw [List.getElem_take]; exact hc'⟩
theorem slice_from0 (a : Option Addr) (n cap e : Nat) (he : e ≤ n) (hc : n ≤ cap) (h0 : a = none → cap = 0) :
    ∃ a', (∀ u, (Instr.sliceAt 32 (.slice a n cap) (some (.int .i64 (e : Int))) none none).run Tryz.prog u = .ok (.slice a' (n - e) (cap - e)) u) ∧ (a' = none → cap - e = 0) ∧ ∀ (L : List ByteArray) (w : World), L.length = n → Strs w a L → Strs w a' (L.drop e) := by
  refine ⟨if cap = e then a else a.map (·.add (e * 1)), fun u => ?_, fun h => ?_, fun L w hl h j hj => ?_⟩
  · rw [run_sliceAt_slice _ _ _ _ _ _ und_strs, run_slice_l _ _ _ _ _ und_strs .i64 (e : Int) (by omega) (by omega)]
    rw [sz_str]
    simp [Result.andThen, sliced]
  · split at h
    · omega
    · cases a with
      | none => have := h0 rfl; omega
      | some ad => simp at h
  · have hj' : e + j < L.length := by simp at hj; omega
    obtain ⟨b, off, rfl, hb, hc'⟩ := h (e + j) hj'
    rw [if_neg (by omega)]
    exact ⟨b, off + e, by simp [Addr.add], hb, by rw [show off + e + j = off + (e + j) by omega, List.getElem_drop]; exact hc'⟩
/-- A put, by definition. -/
def rputM (L : List Sec) (p n : Nat) (t : List UInt8) : List Sec × Int :=
  if n ≤ Sf.top L then (L, 2) else if 98304 < t.length then (L, 3) else if L.length < p + Sf.many t.length then (L, 6) else (placed L p (Sf.sheaf n t), 0)
/-- What a put by definition hands out. -/
def RpRes (v : Value) (L : List Sec) (M : List Sec × Int) (w : World) (e : Ending) (w' : World) : Prop :=
  Below w.heap.size w w' ∧ ((M.2 ≠ 0 ∧ M.1 = L ∧ e = .returned (.tuple #[v, .int .i64 M.2])) ∨ (M.2 = 0 ∧ ∃ v', e = .returned (.tuple #[v', .int .i64 0]) ∧ Ow w.heap.size w' v' M.1))
theorem strs_ow {w : World} {base : Nat} {v : Value} {n : Nat} {X : List ByteArray} {S : List Sec} (h : w.ownsRow base TStr 1 v n (X.map Value.string)) (hX : X = bas S) : Ow base w v S := by
  subst hX
  have hn : n = S.length := by have := h.1; simpa [bas] using this.symm
  subst hn
  unfold Ow
  rw [← bas_cells]
  exact h
theorem map_bas (S : List Sec) : S.map sv = (bas S).map Value.string := (bas_cells S).symm
set_option maxRecDepth 100000 in
set_option maxHeartbeats 4000000 in
theorem rput_c (w : World) (v : Value) (base : Nat) (L : List Sec) (hO : Ow base w v L) (hl : L.length ≤ 1000) (hl1 : 1 ≤ L.length) (p n : Nat) (hp : p ≤ L.length) (hn9 : n < 18446744073709551616) (t : ByteArray) (ht9 : t.size ≤ 9223372036854775807) :
    Calls Tryz.prog 65 #[v, .int .i64 (p : Int), .int .u64 (n : Int), .string t] w (RpRes v L (rputM L p n t.data.toList) w) := by
  have HM : Hid (rputM L p n t.data.toList = if n ≤ Sf.top L then (L, 2) else if 98304 < t.data.toList.length then (L, 3) else if L.length < p + Sf.many t.data.toList.length then (L, 6) else (placed L p (Sf.sheaf n t.data.toList), 0)) := rfl
  obtain ⟨A, cap, rfl, hcap, hS, hA0, hAb⟩ := hO.form
  have KT : Hid (Calls Tryz.prog 83 #[.slice A L.length cap] w fun e w' => e = .returned (.int .u64 (Sf.top L : Int)) ∧ Below w.heap.size w w') := by
    have := rtop_c w A cap (bas L) hS (by rw [bas_len]; omega)
    rw [bas_len, show (bas L).map (fun s => s.data.toList) = L from lists_bas L] at this
    exact this
  have hp0 : (0 : Int) ≤ (p : Int) := by omega
  have hp1 : (p : Int) ≤ (L.length : Int) := by omega
  have HSS := Lib.hid hS
  have HA0 := Lib.hid hA0
  obtain ⟨tp, htp⟩ : ∃ tp, tp = Sf.top L := ⟨_, rfl⟩
  rw [← htp] at KT HM
  clear hS hA0 hAb hO htp
  by_cases hlow : n ≤ tp
  · have q1 : (n : Int) ≤ (tp : Int) := by omega
    have HW := Lib.hid hlow
    clear hlow
    go_enter Tryz.func65, Tryz.ntmps65
    go_wp2_with fail
    refine KT.out.mono ?_
    rintro e w1 ⟨rfl, hb⟩
    have HB := Lib.hid hb
    clear hb
    go_wp2_with fail
    go_ret2
    rw [HM.out, if_pos HW.out]
    exact ⟨HB.out, .inl ⟨(by show (2 : Int) ≠ 0; decide), rfl, rfl⟩⟩
  · have q1 : (tp : Int) < (n : Int) := by omega
    have q1' : ¬ (n : Int) ≤ (tp : Int) := by omega
    have HW := Lib.hid hlow
    have hn0 : n ≠ 0 := by omega
    clear hlow
    by_cases hlong : 98304 < t.size
    · have KP := Lib.hid (fun w => rput_no n t w hn9 ht9 3 (.inr ⟨hn0, hlong, rfl⟩))
      have HLG : Hid (98304 < t.data.toList.length) := by show _ < _; simpa using hlong
      clear hlong hn0
      go_enter Tryz.func65, Tryz.ntmps65
      go_wp2_with fail
      refine KT.out.mono ?_
      rintro e w1 ⟨rfl, hb⟩
      have HB := Lib.hid hb
      clear hb
      go_wp2_with fail
      refine (KP.out _).mono ?_
      rintro e w2 ⟨rfl, rfl⟩
      go_wp2_with fail
      go_ret2
      rw [HM.out, if_neg HW.out, if_pos HLG.out]
      exact ⟨HB.out, .inl ⟨(by show (3 : Int) ≠ 0; decide), rfl, rfl⟩⟩
    · have KP := Lib.hid (fun w => rput_ok n t w hn0 hn9 (by omega))
      have HLG : Hid (¬ 98304 < t.data.toList.length) := by show ¬ _ < _; simpa using hlong
      have hsl := Sf.sheaf_len n t.data.toList
      have hmp := Sf.many_pos t.data.toList.length
      have hm9 : (Sf.sheaf n t.data.toList).length ≤ 3000 := by
        have := Sf.chunks_len _ (Sf.text t.data.toList) (Nat.le_refl _) (Sf.text_pos _)
        have h2 : (Sf.text t.data.toList).length ≤ 98404 := by
          have := (Ta.num_len t.data.toList.length (by simp; omega)).1
          unfold Sf.text; rw [List.length_append]; simp at *; omega
        unfold Sf.sheaf; rw [List.length_map, this]; omega
      obtain ⟨B, hB⟩ : ∃ B, Sf.sheaf n t.data.toList = B := ⟨_, rfl⟩
      have HPB : Hid (∀ e u w', PutOk n t.data.toList u e w' → ∃ b cap, e = .returned (.tuple #[.slice (some ⟨b, 0, none⟩) B.length cap, .int .i64 0]) ∧ w'.ownsRow u.heap.size TStr 1 (.slice (some ⟨b, 0, none⟩) B.length cap) B.length (B.map sv) ∧ Below u.heap.size u w') := by
        subst hB
        exact fun e u w' h => h
      rw [hB] at hsl HM hm9
      rw [← hsl] at HM
      have hb1 : 1 ≤ B.length := by omega
      clear hlong hB hsl hmp hn0
      by_cases hfull : L.length < p + B.length
      · have q4 : (L.length : Int) - (p : Int) < (B.length : Int) := by omega
        have HF := Lib.hid hfull
        clear hfull
        go_enter Tryz.func65, Tryz.ntmps65
        go_wp2_with fail
        refine KT.out.mono ?_
        rintro e w1 ⟨rfl, hb⟩
        have HB := Lib.hid hb
        clear hb
        go_wp2_with fail
        refine (KP.out _).mono ?_
        rintro e w2 he
        obtain ⟨b, cb, rfl, hown, hb⟩ := HPB.out _ _ _ he
        have HB2 : Hid (Below w.heap.size w w2) := HB.out.trans (hb.mono HB.out.size)
        clear hb hown he
        go_wp2_with fail
        go_ret2
        rw [HM.out, if_neg HW.out, if_neg HLG.out, if_pos HF.out]
        exact ⟨HB2.out, .inl ⟨(by show (6 : Int) ≠ 0; decide), rfl, rfl⟩⟩
      · have q4 : (B.length : Int) ≤ (L.length : Int) - (p : Int) := by omega
        have q5 : (p : Int) + (B.length : Int) ≤ (L.length : Int) := by omega
        have HF := Lib.hid hfull
        have hpB : p + B.length ≤ L.length := by omega
        obtain ⟨a1, c1, hs1, h10, hst1⟩ := slice_to A L.length cap p hp hcap HA0.out
        obtain ⟨a2, hs2, h20, hst2⟩ := slice_from0 A L.length cap (p + B.length) hpB hcap HA0.out
        have hs2' : ∀ u, (Instr.sliceAt 32 (.slice A L.length cap) (some (.int .i64 ((p : Int) + (B.length : Int)))) none none).run Tryz.prog u = .ok (.slice a2 (L.length - (p + B.length)) (cap - (p + B.length))) u := fun u => by
          have := hs2 u
          rw [show ((p + B.length : Nat) : Int) = (p : Int) + (B.length : Int) by omega] at this
          exact this
        have HS1 := Lib.hid hs1
        have HS2 := Lib.hid hs2'
        have H10 := Lib.hid h10
        have H20 := Lib.hid h20
        have HST1 := Lib.hid hst1
        have HST2 := Lib.hid hst2
        clear hfull hs1 hs2 hs2' h10 h20 hst1 hst2
        go_enter Tryz.func65, Tryz.ntmps65
        go_wp2_with fail
        refine KT.out.mono ?_
        rintro e w1 ⟨rfl, hb⟩
        have HB := Lib.hid hb
        clear hb
        go_wp2_with fail
        refine (KP.out _).mono ?_
        rintro e w2 he
        obtain ⟨b, cb, rfl, hown, hb⟩ := HPB.out _ _ _ he
        have HB2 : Hid (Below w.heap.size w w2) := HB.out.trans (hb.mono HB.out.size)
        have HSB := Lib.hid (strs_own hown)
        clear hb hown he HB
        have HAL := Lib.hid ((Below.refl w2.heap.size w2).alloc (Nat.le_refl _) (.cells #[] TStr))
        have HZ := Lib.hid (own_zero w2 TStr w2.heap.size 1 (Nat.le_refl _))
        obtain ⟨X1, hX1⟩ : ∃ X1, X1 = (bas L).take p := ⟨_, rfl⟩
        obtain ⟨X3, hX3⟩ : ∃ X3, X3 = (bas L).drop (p + B.length) := ⟨_, rfl⟩
        have HT1 : Hid (Strs (w2.alloc (.cells #[] TStr)) a1 X1) := hX1 ▸ (HST1.out (bas L) w2 (bas_len L) (HSS.out.later HB2.out)).later HAL.out
        have hx1 : X1.length = p := by rw [hX1]; simp [bas]; omega
        have HX1 := Lib.hid hx1
        have HX1E := Lib.hid hX1
        have HX3E := Lib.hid hX3
        clear hx1 hX1 hX3
        have hsa := HS1.out (w2.alloc (.cells #[] TStr))
        go_wp2_with (at_builtin; refine wpList_append_strs rfl _ _ rfl w2.heap.size _ _ _ rfl HZ.out a1 X1 c1 (by rw [HX1.out]; rfl) HT1.out H10.out (by rw [HX1.out]; omega) HAL.out.size ?_)
        intro v3 w3 o3 g3
        have B3a := HAL.out.grown g3 HAL.out.size (fun k hk => (HZ.out.lt k hk).1)
        have B3 := Lib.hid B3a
        rw [HX1.out] at o3
        obtain ⟨a3, c3, rfl⟩ := own_slice o3
        have O3 := Lib.hid o3
        have HT2 : Hid (Strs w3 (some ⟨b, 0, none⟩) (bas B)) := HSB.out.later B3a
        have hx2 := bas_len B
        have HX2 := Lib.hid hx2
        clear o3 g3 B3a hsa hx2
        go_wp2_with (at_builtin; refine wpList_append_strs rfl _ _ rfl w2.heap.size _ _ _ rfl O3.out (some ⟨b, 0, none⟩) (bas B) cb (by rw [HX2.out]; rfl) HT2.out (fun h => by cases h) (by rw [HX2.out]; omega) B3.out.size ?_)
        intro v4 w4 o4 g4
        have B4a := B3.out.grown g4 B3.out.size (fun k hk => (O3.out.lt k hk).1)
        have B4 := Lib.hid B4a
        rw [HX2.out] at o4
        obtain ⟨a4, c4, rfl⟩ := own_slice o4
        have O4 := Lib.hid o4
        have HT3 : Hid (Strs w4 a2 X3) := HX3E.out ▸ (HST2.out (bas L) w2 (bas_len L) (HSS.out.later HB2.out)).later B4a
        have hx3 : X3.length = L.length - (p + B.length) := by rw [HX3E.out]; simp [bas]
        have HX3 := Lib.hid hx3
        clear o4 g4 B4a hx3
        have hsb := HS2.out w4
        go_wp2_with (at_builtin; refine wpList_append_strs rfl _ _ rfl w2.heap.size _ _ _ rfl O4.out a2 X3 (cap - (p + B.length)) (by rw [HX3.out]; rfl) HT3.out H20.out (by rw [HX3.out]; omega) B4.out.size ?_)
        intro v5 w5 o5 g5
        have B5a := B4.out.grown g5 B4.out.size (fun k hk => (O4.out.lt k hk).1)
        have B5 := Lib.hid B5a
        rw [HX3.out] at o5
        obtain ⟨a5, c5, rfl⟩ := own_slice o5
        have O5 := Lib.hid o5
        clear o5 g5 B5a hsb
        go_wp2_with fail
        go_ret2
        rw [HM.out, if_neg HW.out, if_neg HLG.out, if_neg HF.out]
        refine ⟨HB2.out.trans (B5.out.mono HB2.out.size), .inr ⟨rfl, _, rfl, ?_⟩⟩
        have h6 := O5.out
        have e1 : X1.map Value.string ++ ((bas B).map Value.string ++ X3.map Value.string) = (bas (placed L p B)).map Value.string := by
          rw [HX1E.out, HX3E.out]
          unfold placed bas
          simp
        rw [e1] at h6
        exact (strs_ow h6 rfl).lower HB2.out.size
/-- n new bytes. -/
def mkn (n : Nat) (u : World) : World := u.alloc (.cells (madeCells #[.int .u8 0] n) 5)
theorem infou8 : (Tryz.prog.info? 5).map (fun i => (i.zero, i.size, i.bytes)) = some (some (.int .u8 0), 1, 1) := by kernel_rfl
theorem maken (n : Nat) (hn : n ≤ 1000) (u : World) : (Instr.makeSlice 97 (.int .i64 (n : Int)) (.int .i64 (n : Int))).run Tryz.prog u = .ok (.slice (some ⟨u.heap.size, 0, none⟩) n n) (mkn n u) := by
  obtain ⟨i0, hi, hz0, hz1, hz2⟩ := info_parts infou8
  have := run_make (P := Tryz.prog) u 97 5 i0 (.int .u8 0) Tryz.underlying97 hi hz0 .i64 .i64 n n (by omega) (by omega) (by rw [hz2]; omega) (by omega)
  rw [hz1] at this
  simpa [mkn, Value.cells] using this
theorem mkn_row (n : Nat) (u : World) : Cm.RowAt (mkn n u) u.heap.size ((List.replicate n (0 : UInt8)).map Le.bv) := by
  have h := Cm.row_new u (List.replicate n (.int .u8 0)) 5
  have e : (List.replicate n (Value.int .u8 0)).toArray = madeCells #[.int .u8 0] n := by
    unfold madeCells
    apply Array.ext'
    simp
    refine List.ext_getElem (by simp) fun j h1 h2 => ?_
    simp [Nat.mod_one]
  rw [e] at h
  have e2 : (List.replicate n (0 : UInt8)).map Le.bv = List.replicate n (.int .u8 0) := by rw [List.map_replicate]; rfl
  rw [e2]
  exact h
theorem conn (n : Nat) (u : World) : (convert 97 9 (.slice (some ⟨u.heap.size, 0, none⟩) n n)).run Tryz.prog (mkn n u) = .ok (.string ⟨(List.replicate n (0 : UInt8)).toArray⟩) (mkn n u) := by
  have h := Le.row_str (cap := n) (mkn_row n u)
  rwa [List.length_replicate] at h
theorem below_mkn (n : Nat) (u : World) : Below u.heap.size u (mkn n u) := (Below.refl _ u).alloc (Nat.le_refl _) _
theorem size_mkn (n : Nat) (u : World) : (mkn n u).heap.size = u.heap.size + 1 := by simp [mkn]
def zs : Sec := List.replicate 64 0
set_option maxRecDepth 100000 in
set_option maxHeartbeats 1600000 in
theorem rnew_c (n : Nat) (hn : n ≤ 1000) (w : World) : Calls Tryz.prog 35 #[.int .i64 (n : Int)] w fun e w' => ∃ v, e = .returned v ∧ Ow w.heap.size w' v (List.replicate n zs) ∧ Below w.heap.size w w' := by
  obtain ⟨i0, hi, hz0, hz1, hz2⟩ := info_parts infoStr
  have hmk : ∀ u, (Instr.makeSlice 97 (.int .i64 64) (.int .i64 64)).run Tryz.prog u = .ok (.slice (some ⟨u.heap.size, 0, none⟩) 64 64) (mkn 64 u) := fun u => maken 64 (by omega) u
  have hcv := fun u => conn 64 u
  go_enter Tryz.func35, Tryz.ntmps35
  go_wp2_with fail
  go_loopg [3, 4] n (fun kx s3 s4 wr => ∃ k : Nat, k ≤ n ∧ s4 = .int .i64 (k : Int) ∧ Hid (wr.ownsRow w.heap.size TStr 1 s3 k (List.replicate k (sv zs))) ∧ Hid (Below w.heap.size w wr) ∧ n ≤ k + kx)
  case atStart => exact ⟨0, Nat.zero_le _, rfl, World.ownsRow_nil _ _ _ _, Below.refl _ _, by omega⟩
  case round =>
    obtain ⟨k, hk, rfl, HO, HB, hkx⟩ := hrel
    by_cases hlt : k < n
    · have HO2 := Lib.hid (own_later HO.out (below_mkn 64 wr))
      have hs := HB.out.size
      have hz := size_mkn 64 wr
      have HZ := Lib.hid hz
      have hb2 := below_mkn 64 wr
      have HB2 : Hid (Below w.heap.size w (mkn 64 wr)) := HB.out.trans (hb2.mono hs)
      clear hz hb2
      go_wp2_with (at_builtin; refine wpList_append_own_at _ rfl _ _ 32 rfl w.heap.size TStr i0 (.string ⟨#[]⟩) 1 16 Tryz.underlying32 hi hz0 hz1 hz2 rfl (by decide) _ _ _ rfl (HO2.out.alloc _) ⟨(mkn 64 wr).heap.size, 0, none⟩ 1 1 [sv zs] rfl rfl (one_new' _ _ _) (by simp [Value.oneCell', sv]) (by unfold maxLen; omega) (by omega) (by simp; rw [HZ.out]; omega) ?_)
      intro v' w3 hown hgrow hnil hat
      obtain ⟨a3, c3, rfl⟩ := own_slice hown
      have HO3 := Lib.hid hown
      have HB3 : Hid (Below w.heap.size w w3) := (HB2.out.alloc (by rw [HZ.out]; omega) _).grown hgrow (by simp; rw [HZ.out]; omega) (fun j hj => (HO2.out.lt j hj).1)
      clear hown hgrow hnil hat
      go_wp2_with fail
      go_roundg (n - (k + 1))
      case measure => omega
      case rel => exact ⟨k + 1, by omega, by simp, by have := HO3.out; rwa [← List.replicate_succ'] at this, HB3, by omega⟩
    · obtain rfl : k = n := by omega
      obtain ⟨a3, c3, rfl⟩ := own_slice HO.out
      go_wp2_with fail
      go_ret
      exact ⟨_, rfl, by unfold Ow; rw [List.length_replicate, List.map_replicate]; exact HO.out, HB.out⟩
end Go.Proofs.YtbbnpcldplmgfaaGreatDoor.Rk
end
