/- Package quittanceref05: what a row's sectors have, a sheaf put, by definition. -/
import Derived.Test.YtnfjgmdpokpbbaaDoorRkPut
import Derived.Test.YtnfjgmdpokpbbaaDoorSfRPut
import Derived.Laws.AppendOwnNone
namespace Go.Proofs.YtnfjgmdpokpbbaaDoor.Rk
open Go Go.RowKit Dv Rf Shf
open Tal (Strs bas)
theorem wpList_append_strs {ops : Array Oper} {rest : List Oper} {o : Oper} {a : Act} {Q : Exit → Act → World → Prop} {w : World} (hgd : o.guard = none) (s x : Operand)
    (ho : o.op = .call { callee := .builtin .append, args := #[s, x], argTypes := #[32, 32] })
    (base : Nat) (v : Value) (n : Nat) (xs : List Value) (hs : a.eval s = v) (hown : w.ownsRow base 9 1 v n xs)
    (A : Option Addr) (L : List ByteArray) (cap : Nat) (hx : a.eval x = .slice A L.length cap) (hL : Strs w A L) (h0 : A = none → cap = 0) (hl : n + L.length ≤ 1000000) (hbase : base ≤ w.heap.size)
    (h : ∀ v' w', w'.ownsRow base 9 1 v' (n + L.length) (xs ++ L.map Value.string) → w.grownBy w' v.ownBlock → wpList Tryd.prog ops Q rest (a.put o.dst v') w') : wpList Tryd.prog ops Q (o :: rest) a w := by
  obtain ⟨i0, hi, hz0, hz1, hz2⟩ := info_parts Rk.infoStr
  cases A with
  | none =>
    cases L with
    | nil =>
      obtain rfl := h0 rfl
      exact wpList_append_own_none hgd s x 32 ho base 9 i0 1 Tryd.underlying32 hi v n xs hs hown hx (h v w (by simpa using hown) (World.grownBy.refl w _))
    | cons y t =>
      obtain ⟨_, _, h1, _⟩ := hL 0 (by simp)
      cases h1
  | some ad =>
    refine wpList_append_own w hgd s x 32 ho base 9 i0 (.string ⟨#[]⟩) 1 16 Tryd.underlying32 hi hz0 hz1 hz2 rfl (by decide) v n xs hs hown ad L.length cap (L.map Value.string) hx (by simp) ?_ ?_ (by unfold maxLen; omega) (by omega) hbase (fun v' w' h1 h2 _ => h v' w' h1 h2)
    · intro j u hu
      have hj : j < L.length := by
        rcases Nat.lt_or_ge j L.length with h' | h'
        · exact h'
        · simp [List.getElem?_eq_none h'] at hu
      obtain ⟨b, off, h1, _, h3⟩ := hL j hj
      obtain rfl := Option.some.inj h1
      have hu' : Value.string L[j] = u := by simpa [hj] using hu
      rw [Go.WideShapes.add_plain, h3, hu']
    · intro u hu
      obtain ⟨y, _, rfl⟩ := List.mem_map.1 hu
      rfl
theorem own_zero (W : World) (t base size : Nat) (hb : base ≤ W.heap.size) : (W.alloc (.cells #[] t)).ownsRow base t size (.slice (some ⟨W.heap.size, 0, none⟩) 0 0) 0 [] :=
  ⟨by simp, .inr ⟨W.heap.size, 0, #[], rfl, hb, World.alloc_heap_new W _, Nat.le_refl _, by unfold maxLen; omega, by simp, by simp⟩⟩
/-- A row of strings of one's own. -/
def Ow (base : Nat) (w : World) (v : Value) (L : List Sec) : Prop := w.ownsRow base TStr 1 v L.length (L.map sv)
theorem bas_len (S : List Sec) : (bas S).length = S.length := by simp [bas]
section
variable {b b' : Nat} {w w' : World} {v : Value} {L : List Sec}
theorem Ow.later (h : Ow b w v L) (k : Below w.heap.size w w') : Ow b w' v L := own_later h k
theorem Ow.lower (h : Ow b w v L) (hb : b' ≤ b) : Ow b' w v L := own_lower h hb
theorem Ow.keeps {T : Nat → Prop} (h : Ow b w v L) (k : Keeps T w w') (hT : ∀ j, v.ownBlock = some j → ¬ T j) : Ow b w' v L := own_keeps h k hT
theorem Ow.form (h : Ow b w v L) : ∃ A cap, v = .slice A L.length cap ∧ L.length ≤ cap ∧ Strs w A (bas L) ∧ (A = none → cap = 0) ∧ ∀ g off, A = some ⟨g, off, none⟩ → off = 0 ∧ v.ownBlock = some g := by
  rcases id h.2 with ⟨rfl, h0⟩ | ⟨g, cap, cur, rfl, hg, hb, hn, _⟩
  · have hL : L = [] := by simpa using h0
    subst hL
    exact ⟨none, 0, rfl, Nat.le_refl _, fun j hj => absurd hj (by simp [bas]), fun _ => rfl, fun g off e => by cases e⟩
  · exact ⟨some ⟨g, 0, none⟩, cap, rfl, hn, strs_own h, fun e => (by cases e), fun g' off e => by cases e; exact ⟨rfl, rfl⟩⟩
end
def RtRes (L : List Sec) (w : World) (e : Ending) (w' : World) : Prop := ∃ v s, e = .returned (.tuple #[v, .int .u64 (s.first : Int), .int .i64 (s.e : Int)]) ∧ Loaded L s ∧ Ow w.heap.size w' v s.T ∧ Below w.heap.size w w'
set_option maxRecDepth 100000 in
set_option maxHeartbeats 3200000 in
theorem rtexts_c (w : World) (a : Option Addr) (cap : Nat) (L : List ByteArray) (hL : Strs w a L) (hl : L.length ≤ 1000) (hcap : L.length ≤ cap) :
    Calls Tryd.prog 13 #[.slice a L.length cap] w (RtRes (lists L) w) := by
  obtain ⟨i0, hi, hz0, hz1, hz2⟩ := info_parts infoStr
  have HL := Lib.hid hL
  have HLL := Lib.hid (lists_len L)
  obtain ⟨G, hG⟩ : ∃ G, lists L = G := ⟨_, rfl⟩
  have HG := Lib.hid hG
  rw [hG] at HLL ⊢
  clear hL hG
  go_enter Tryd.func13, Tryd.ntmps13
  go_wp2_with fail
  go_loopg [5, 6, 7, 8] L.length (fun kx s5 s6 s7 s8 wr => ∃ (s : Ld), s6 = .int .u64 (s.first : Int) ∧ s7 = .int .u64 (s.last : Int) ∧ s8 = .int .i64 (s.e : Int) ∧ Hid (Reads G s) ∧ Hid (Ow w.heap.size wr s5 s.T) ∧ Hid (Below w.heap.size w wr) ∧ L.length ≤ s.e + kx)
  case atStart => exact ⟨Ld.zero, rfl, rfl, rfl, Reads.nil, World.ownsRow_nil _ _ _ _, Below.refl _ _, by omega⟩
  case round =>
    obtain ⟨s, rfl, rfl, rfl, HR, HO, HB, hkx⟩ := hrel
    obtain ⟨av, cv, rfl⟩ := own_slice HO.out
    have hf := HR.out.fine
    have he : s.e ≤ L.length := by rw [← HLL.out]; exact hf.le
    have ht : s.T.length ≤ 1000 := by have := hf.tl; omega
    have hlast := hf.l64
    have hz' := hf.z
    obtain ⟨a', hsl, hst⟩ := slice_from a L.length cap s.e he hcap
    have hz : (L.drop s.e).length = L.length - s.e := by simp
    have KG2 : Hid (Calls Tryd.prog 34 #[.slice a' (L.length - s.e) (cap - s.e)] wr (SGet (Sf.pget (G.drop s.e)) wr)) := by
      have := sheafget_ref wr a' (cap - s.e) (L.drop s.e) (hst L wr rfl (strs_keeps HL.out (Keeps.of (fun _ => False) HB.out) fun _ _ _ h => h)) (by omega) (by omega)
      rw [hz] at this
      have e : lists (L.drop s.e) = G.drop s.e := by rw [← HG.out]; unfold lists; rw [List.map_drop]
      rw [e, ← Sf.get_same] at this
      exact this
    have q0 : (s.e : Int) ≤ (L.length : Int) := by omega
    have q1 : (0 : Int) ≤ (s.e : Int) := by omega
    have hsl2 := hsl wr
    clear hf hst hz hsl
    cases hp : Sf.pget (G.drop s.e) with
    | none =>
      have HS : Hid (step G s = none) := by unfold step; show _ = none; rw [hp]
      have HP := Lib.hid hp
      clear hp hlast
      go_wp2_with fail
      refine KG2.out.mono ?_
      rintro e w2 ⟨_, hn, hb⟩
      obtain rfl := hn HP.out
      have HB2 : Hid (Below w.heap.size w w2) := HB.out.trans (hb.mono HB.out.size)
      have HO2 := Lib.hid (HO.out.later hb)
      clear hb hn
      go_wp2_with fail
      go_ret3
      exact ⟨_, s, rfl, ⟨HR.out, HS.out⟩, HO2.out, HB2.out⟩
    | some z =>
      obtain ⟨n, t, k⟩ := z
      have hi' := Sf.is_of_pget hp
      have hi9 := hi'.le
      rw [List.length_drop, HLL.out] at hi9
      have hk1 := is_pos hi'
      have hn9 := hi'.nl
      have HP := Lib.hid hp
      by_cases hlt : s.last < n
      · have HS := Lib.hid (step_of hi' hlt)
        have q2 : (s.last : Int) < (n : Int) := by omega
        have q3 : ¬ (n : Int) ≤ (s.last : Int) := by omega
        clear hp hi' hlt hn9
        by_cases h0 : s.T.length = 0
        · have z0 : ((s.T.length : Int) == 0) = true := beq_iff_eq.2 (by omega)
          have HF : Hid ((s.took n t k).first = n) := by show (if s.T.length = 0 then n else s.first) = n; rw [if_pos h0]
          clear h0
          go_wp2_with fail
          refine KG2.out.mono ?_
          rintro e w2 ⟨hs, _, hb⟩
          obtain rfl := hs n t k HP.out
          have HB2 : Hid (Below w.heap.size w w2) := HB.out.trans (hb.mono HB.out.size)
          have HO2 : Hid (w2.ownsRow w.heap.size TStr 1 (.slice av s.T.length cv) s.T.length (s.T.map sv)) := HO.out.later hb
          have hsz := HB2.out.size
          clear hb hs
          go_wp2_with (at_builtin; refine wpList_append_own_at _ rfl _ _ 32 rfl w.heap.size TStr i0 (.string ⟨#[]⟩) 1 16 Tryd.underlying32 hi hz0 hz1 hz2 rfl (by decide) _ _ _ rfl (HO2.out.alloc _) ⟨w2.heap.size, 0, none⟩ 1 1 [.string ⟨t.toArray⟩] rfl rfl (one_new' _ _ _) (by simp [Value.oneCell']) (by unfold maxLen; omega) (by omega) (by simp; omega) ?_)
          intro v' w3 hown hgrow hnil hat
          obtain ⟨a3, c3, rfl⟩ := own_slice hown
          have HO3 : Hid (Ow w.heap.size w3 (.slice a3 (s.T.length + 1) c3) (s.took n t k).T) := by
            show w3.ownsRow _ _ _ _ _ _
            have e1 : (s.took n t k).T.length = s.T.length + 1 := by simp [Ld.took]
            have e2 : (s.took n t k).T.map sv = s.T.map sv ++ [.string ⟨t.toArray⟩] := by simp [Ld.took, sv]
            rw [e1, e2]
            exact hown
          have HB3 : Hid (Below w.heap.size w w3) := (HB2.out.alloc hsz _).grown hgrow (by simp; omega) (fun j hj => (HO2.out.lt j hj).1)
          clear hown hgrow hnil hat
          go_wp2_with fail
          go_roundg (L.length - (s.e + k))
          case measure => omega
          case rel => exact ⟨s.took n t k, by rw [HF.out], rfl, by show Value.int .i64 ((s.e : Int) + (k : Int)) = .int .i64 ((s.e + k : Nat) : Int); simp, HR.out.more HS.out, HO3, HB3, by show L.length ≤ s.e + k + _; omega⟩
        · have z0 : ((s.T.length : Int) == 0) = false := beq_eq_false_iff_ne.2 (by omega)
          have HF : Hid ((s.took n t k).first = s.first) := by show (if s.T.length = 0 then n else s.first) = _; rw [if_neg h0]
          clear h0
          go_wp2_with fail
          refine KG2.out.mono ?_
          rintro e w2 ⟨hs, _, hb⟩
          obtain rfl := hs n t k HP.out
          have HB2 : Hid (Below w.heap.size w w2) := HB.out.trans (hb.mono HB.out.size)
          have HO2 : Hid (w2.ownsRow w.heap.size TStr 1 (.slice av s.T.length cv) s.T.length (s.T.map sv)) := HO.out.later hb
          have hsz := HB2.out.size
          clear hb hs
          go_wp2_with (at_builtin; refine wpList_append_own_at _ rfl _ _ 32 rfl w.heap.size TStr i0 (.string ⟨#[]⟩) 1 16 Tryd.underlying32 hi hz0 hz1 hz2 rfl (by decide) _ _ _ rfl (HO2.out.alloc _) ⟨w2.heap.size, 0, none⟩ 1 1 [.string ⟨t.toArray⟩] rfl rfl (one_new' _ _ _) (by simp [Value.oneCell']) (by unfold maxLen; omega) (by omega) (by simp; omega) ?_)
          intro v' w3 hown hgrow hnil hat
          obtain ⟨a3, c3, rfl⟩ := own_slice hown
          have HO3 : Hid (Ow w.heap.size w3 (.slice a3 (s.T.length + 1) c3) (s.took n t k).T) := by
            show w3.ownsRow _ _ _ _ _ _
            have e1 : (s.took n t k).T.length = s.T.length + 1 := by simp [Ld.took]
            have e2 : (s.took n t k).T.map sv = s.T.map sv ++ [.string ⟨t.toArray⟩] := by simp [Ld.took, sv]
            rw [e1, e2]
            exact hown
          have HB3 : Hid (Below w.heap.size w w3) := (HB2.out.alloc hsz _).grown hgrow (by simp; omega) (fun j hj => (HO2.out.lt j hj).1)
          clear hown hgrow hnil hat
          go_wp2_with fail
          go_roundg (L.length - (s.e + k))
          case measure => omega
          case rel => exact ⟨s.took n t k, by rw [HF.out], rfl, by show Value.int .i64 ((s.e : Int) + (k : Int)) = .int .i64 ((s.e + k : Nat) : Int); simp, HR.out.more HS.out, HO3, HB3, by show L.length ≤ s.e + k + _; omega⟩
      · have HS : Hid (step G s = none) := step_none fun m u k' h => by
          have h1 := Sf.pget_of_is h
          rw [hp] at h1
          cases h1
          omega
        have q2 : (n : Int) ≤ (s.last : Int) := by omega
        clear hp hi' hlt hn9
        go_wp2_with fail
        refine KG2.out.mono ?_
        rintro e w2 ⟨hs, _, hb⟩
        obtain rfl := hs n t k HP.out
        have HB2 : Hid (Below w.heap.size w w2) := HB.out.trans (hb.mono HB.out.size)
        have HO2 := Lib.hid (HO.out.later hb)
        clear hb hs
        go_wp2_with fail
        go_ret3
        exact ⟨_, s, rfl, ⟨HR.out, HS.out⟩, HO2.out, HB2.out⟩
end Go.Proofs.YtnfjgmdpokpbbaaDoor.Rk
