/- Package quittanceref06: New, Txns, Same, by definition. -/
import Derived.Test.YtjlncjabiofklaaDoorWjC
namespace Go.Proofs.YtjlncjabiofklaaDoor.Wl
open Go Go.RowKit Dv Rf Shf Rk
open Tal (Strs bas)
/-- The texts are the lists. -/
structure Ps (T : List Rk.Sec) (LL : List (List Rk.Sec)) : Prop where
  len : LL.length = T.length
  eq : ∀ i (h : i < LL.length) (h' : i < T.length), parse T[i] = some LL[i]
theorem Ps.one {T : List Rk.Sec} {LL LL' : List (List Rk.Sec)} (h : Ps T LL) (k : Ps T LL') : LL = LL' := by
  refine List.ext_getElem (by rw [h.len, k.len]) fun i h1 h2 => ?_
  have e1 := h.eq i h1 (by have := h.len; omega)
  have e2 := k.eq i h2 (by have := h.len; omega)
  exact Option.some.inj (e1.symm.trans e2)
theorem ow_ls {base : Nat} {w : World} {v : Value} {l : List Rk.Sec} (h : Ow base w v l) : Ls w v l := by
  obtain ⟨A, cap, rfl, h1, h2, h3, _⟩ := h.form
  exact ⟨A, cap, rfl, h1, h2, h3⟩
def RtxRes (T : List Rk.Sec) (w : World) (e : Ending) (w' : World) : Prop :=
  Below w.heap.size w w' ∧ ((∃ LL v, Ps T LL ∧ e = .returned (.tuple #[v, .bool true]) ∧ Lss w.heap.size w' v LL) ∨ ((∀ LL, ¬ Ps T LL) ∧ e = .returned (.tuple #[.slice none 0 0, .bool false])))
theorem bas_inj {x y : List Rk.Sec} (h : bas x = bas y) : x = y := by
  have := congrArg lists h
  rwa [lists_bas, lists_bas] at this
/-- The cell of a list, and what it holds. -/
theorem lss_at {base : Nat} {w : World} {a : Option Addr} {n c : Nat} {LL : List (List Rk.Sec)} {vs : List Value} (h : LssV base w (.slice a n c) LL vs) {i : Nat} (hi : i < LL.length) :
    ∃ g v, g < w.heap.size ∧ a = some ⟨g, 0, none⟩ ∧ w.cell? ⟨g, i, none⟩ = some v ∧ Ls w v LL[i] := by
  have hvl := h.len
  rcases h.own.2 with ⟨e, h0⟩ | ⟨g, cap, cur, e, hg, hb, hn, _⟩
  · rw [h0] at hvl; simp at hvl; omega
  · cases e
    exact ⟨g, vs[i]'(by omega), (Rf.own_cell h.own).1, rfl, (Rf.own_cell h.own).2 i _ (by simp), h.ls i _ _ (by simp) (by simp [hi])⟩
set_option maxRecDepth 100000 in
set_option maxHeartbeats 1600000 in
/-- Two rows of transactions, whether they are the same. -/
theorem same06_c (LL MM : List (List Rk.Sec)) (va vb : Value) (ba bb : Nat) (w : World) (ha : Lss ba w va LL) (hb : Lss bb w vb MM) (hl : LL.length ≤ 100000) (_hm : MM.length ≤ 100000) (hz : ∀ l ∈ LL, l.length ≤ 1000000) (hz' : ∀ l ∈ MM, l.length ≤ 1000000) :
    Calls Tryd.prog 12 #[va, vb] w fun e w' => e = .returned (.bool (decide (LL = MM))) ∧ Below w.heap.size w w' := by
  obtain ⟨vs, ha⟩ := ha
  obtain ⟨ws, hb⟩ := hb
  obtain ⟨a, ca, rfl⟩ := own_slice ha.own
  obtain ⟨b, cb, rfl⟩ := own_slice hb.own
  have HA := Lib.hid ha
  have HB := Lib.hid hb
  have HZ := Lib.hid hz
  have HZ' := Lib.hid hz'
  clear ha hb hz hz'
  by_cases hlen : LL.length = MM.length
  · have hzz : ((LL.length : Int) != (MM.length : Int)) = false := by simp [hlen]
    have HLEN := Lib.hid hlen
    clear hlen
    go_enter Tryd.func12, Tryd.ntmps12
    go_wp2_with fail
    clear hzz
    go_loopg [5] LL.length (fun kx s5 wr => ∃ i : Nat, s5 = .int .i64 (i : Int) ∧ i ≤ LL.length ∧ Hid (LL.take i = MM.take i) ∧ Hid (Below w.heap.size w wr) ∧ LL.length ≤ i + kx)
    case atStart => exact ⟨0, rfl, Nat.zero_le _, (by show _ = _; simp), Below.refl _ _, by omega⟩
    case round =>
      obtain ⟨i, rfl, hi, HT, HW, hkx⟩ := hrel
      by_cases hlt : i < LL.length
      · have hlt2 : i < MM.length := by have := HLEN.out; omega
        have A1 := HA.out.later HW.out
        have B1 := HB.out.later HW.out
        obtain ⟨ga, ra, hga, rfl, hca⟩ := lss_at A1 hlt
        obtain ⟨gb, rb, hgb, rfl, hcb⟩ := lss_at B1 hlt2
        obtain ⟨x, hx⟩ : ∃ x, x = LL[i] := ⟨_, rfl⟩
        obtain ⟨y, hy⟩ : ∃ y, y = MM[i] := ⟨_, rfl⟩
        obtain ⟨Aa, capa, ea, _, hSa, _⟩ := hca.2
        obtain ⟨Ab, capb, eb, _, hSb, _⟩ := hcb.2
        have c1 := hca.1
        have c2 := hcb.1
        rw [ea, ← hx] at c1
        rw [eb, ← hy] at c2
        rw [← hx] at hSa
        rw [← hy] at hSb
        have KS : Hid (Calls Tryd.prog 30 #[.slice Aa x.length capa, .slice Ab y.length capb] wr.drew fun e w' => e = .returned (.bool (decide (x = y))) ∧ Below wr.heap.size wr w') := by
          have h1 := HZ.out x (by rw [hx]; exact List.getElem_mem hlt)
          have h2 := HZ'.out y (by rw [hy]; exact List.getElem_mem hlt2)
          have := Shf.same_c wr.drew Aa Ab capa capb (bas x) (bas y) (hSa.later (Below.refl _ _).drew) (hSb.later (Below.refl _ _).drew) (by rw [bas_len]; omega) (by rw [bas_len]; omega)
          rw [bas_len, bas_len] at this
          have e : decide (bas x = bas y) = decide (x = y) := by
            by_cases h : x = y
            · rw [h]; simp
            · rw [decide_eq_false h, decide_eq_false (fun hh => h (bas_inj hh))]
          rw [e] at this
          exact this.mono fun e w' hq => ⟨hq.1, (Below.refl _ wr).drew.trans hq.2⟩
        obtain ⟨bxy, hbxy⟩ : ∃ q, q = decide (x = y) := ⟨_, rfl⟩
        rw [← hbxy] at KS
        have HBXY := Lib.hid hbxy
        clear hbxy
        have HT1 : Hid (LL.take (i + 1) = LL.take i ++ [x]) := by show _ = _; rw [List.take_succ_eq_append_getElem hlt, ← hx]
        have HT2 : Hid (MM.take (i + 1) = MM.take i ++ [y]) := by show _ = _; rw [List.take_succ_eq_append_getElem hlt2, ← hy]
        have HXY : Hid (x ≠ y → LL ≠ MM) := fun hn e => hn (by rw [hx, hy]; simp only [e])
        have j0 : (0 : Int) ≤ (i : Int) := by omega
        have j1 : (i : Int) < (LL.length : Int) := by omega
        have j2 : (i : Int) < (MM.length : Int) := by omega
        have HGA := Lib.hid hga
        have HGB := Lib.hid hgb
        clear hga hgb hca hcb A1 B1 hx hy ea eb hSa hSb
        go_wp2_with fail
        go_region_held3 (fun u => u.cell? ⟨ga, i, none⟩ = some (.slice Aa x.length capa) ∧ u.cell? ⟨gb, i, none⟩ = some (.slice Ab y.length capb)) (go_keep) ((go_at_call 30; refine KS.out.mono ?_; rintro e w6 ⟨rfl, hb6⟩; have HB6 := Lib.hid hb6; have c1' := (hb6.cell (p := ⟨ga, i, none⟩) HGA.out).trans c1; have c2' := (hb6.cell (p := ⟨gb, i, none⟩) HGB.out).trans c2; clear hb6))
        have HW6 : Hid (Below w.heap.size w w6) := HW.out.trans (HB6.out.mono HW.out.size)
        clear c1 c2 c1' c2'
        cases bxy with
        | true =>
          have hxy : x = y := of_decide_eq_true HBXY.out.symm
          have HT9 : Hid (LL.take (i + 1) = MM.take (i + 1)) := by show _ = _; rw [HT1.out, HT2.out, HT.out, hxy]
          clear hxy
          go_wp2_with fail
          go_roundg (LL.length - (i + 1))
          case measure => omega
          case rel => exact ⟨i + 1, by simp, by omega, HT9, HW6, by omega⟩
        | false =>
          have hxy : ¬ x = y := of_decide_eq_false HBXY.out.symm
          have HN : Hid (decide (LL = MM) = false) := decide_eq_false (HXY.out hxy)
          clear hxy hkx
          go_wp2_with fail
          go_ret
          rw [HN.out]
          exact ⟨rfl, HW6.out⟩
      · obtain rfl : i = LL.length := by omega
        have HE : Hid (decide (LL = MM) = true) := by
          refine decide_eq_true ?_
          have := HT.out
          rw [List.take_length] at this
          rw [this, HLEN.out, List.take_length]
        clear hkx hlt hi
        go_wp2_with fail
        go_ret
        rw [HE.out]
        exact ⟨rfl, HW.out⟩
  · have hzz : ((LL.length : Int) != (MM.length : Int)) = true := by simp; omega
    have HN : Hid (decide (LL = MM) = false) := decide_eq_false fun e => hlen (by rw [e])
    clear hlen
    go_enter Tryd.func12, Tryd.ntmps12
    go_wp2_with fail
    go_ret
    rw [HN.out]
    exact ⟨rfl, Below.refl _ _⟩
end Go.Proofs.YtjlncjabiofklaaDoor.Wl
