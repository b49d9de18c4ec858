/- Package journal: lines in memory; amounts. -/
import Derived.Test.YtnblilonjpfdnaaJnDay
import Derived.Deep.LoopGhost
import Derived.Maps.AppendAt
import Derived.Tactics
import Derived.Deep.DeepCutAuto
import Derived.Deep.RegionHeld3
namespace Go.Proofs.Ytnblilonjpfdnaa.Jn
open Go Go.RowKit Ck
abbrev TI64 : TypeId := 2
abbrev TI64s : TypeId := 91
abbrev iv (n : Int) : Value := .int .i64 n
/-- Lines in memory. -/
def Lns (w : World) (a : Option Addr) (L : List Ln) : Prop := ∀ j (h : j < L.length), ∃ b off, a = some ⟨b, off, none⟩ ∧ b < w.heap.size ∧ ∀ k u, L[j].cells[k]? = some u → w.cell? ⟨b, off + j * 4 + k, none⟩ = some u
theorem Lns.later {w w' : World} {a : Option Addr} {L : List Ln} (h : Lns w a L) (hb : Below w.heap.size w w') : Lns w' a L := fun j hj => by
  obtain ⟨b, off, ha, hlt, h1⟩ := h j hj
  exact ⟨b, off, ha, Nat.lt_of_lt_of_le hlt hb.size, fun k u hu => by rw [hb.cell (by simpa using hlt)]; exact h1 k u hu⟩
theorem infoI64 : (Try.prog.info? TI64).map (fun i => (i.zero, i.size, i.bytes)) = some (some (.int .i64 0), 1, 8) := by kernel_rfl
/-- The amounts that a function picks. -/
def picked (p : Int → Bool) (L : List Ln) : List Int := (L.map Ln.amt).filter p
theorem picked_snoc (p : Int → Bool) (L : List Ln) (x : Ln) : picked p (L ++ [x]) = if p x.amt = true then picked p L ++ [x.amt] else picked p L := by
  unfold picked
  rw [List.map_append, List.filter_append]
  cases h : p x.amt <;> simp [h]
theorem picked_len (p : Int → Bool) (L : List Ln) : (picked p L).length ≤ L.length := by
  have h1 : (picked p L).length ≤ (L.map Ln.amt).length := List.length_filter_le _ _
  simpa using h1
theorem own_form {base : Nat} {u : World} {v : Value} {N : Nat} {xs : List Value} (h : u.ownsRow base TI64 1 v N xs) : ∃ a cap, v = .slice a N cap := by
  rcases h.2 with ⟨rfl, rfl⟩ | ⟨g, cap, cur, rfl, _⟩
  · exact ⟨none, 0, rfl⟩
  · exact ⟨_, cap, rfl⟩
/-- A new row of integers. -/
def AmtRes (l : List Int) (w : World) (e : Ending) (w' : World) : Prop := ∃ v, e = .returned v ∧ w'.ownsRow w.heap.size TI64 1 v l.length (l.map iv) ∧ Below w.heap.size w w'
def pAll (_ : Int) : Bool := true
def pUp (n : Int) : Bool := decide (0 < n)
def pDown (n : Int) : Bool := decide (n < 0)
set_option maxRecDepth 100000 in
theorem pick_all (n : Int) (w : World) : Calls Try.prog 49 #[.int .i64 n] w fun e w' => e = .returned (.bool (pAll n)) ∧ w = w' := by
  unfold pAll
  go_enter Try.func49, Try.ntmps49
  go_wp2_with fail
  go_ret
  exact ⟨rfl, rfl⟩
set_option maxRecDepth 100000 in
theorem pick_up (n : Int) (w : World) : Calls Try.prog 43 #[.int .i64 n] w fun e w' => e = .returned (.bool (pUp n)) ∧ w = w' := by
  unfold pUp
  go_enter Try.func43, Try.ntmps43
  go_wp2_with fail
  go_ret
  exact ⟨rfl, rfl⟩
set_option maxRecDepth 100000 in
theorem pick_down (n : Int) (w : World) : Calls Try.prog 44 #[.int .i64 n] w fun e w' => e = .returned (.bool (pDown n)) ∧ w = w' := by
  unfold pDown
  go_enter Try.func44, Try.ntmps44
  go_wp2_with fail
  go_ret
  exact ⟨rfl, rfl⟩
set_option maxRecDepth 100000 in
set_option maxHeartbeats 1600000 in
theorem amounts_all (L : List Ln) (a : Option Addr) (cap : Nat) (w : World) (h : Lns w a L) (hl : L.length ≤ 1000000) : Calls Try.prog 42 #[.slice a L.length cap, .func (.func 49) #[] #[]] w (AmtRes (picked pAll L) w) := by
  have H := Lib.hid h
  have KF : Hid (∀ n u, Calls Try.prog 49 #[.int .i64 n] u fun e w' => e = .returned (.bool (pAll n)) ∧ u = w') := pick_all
  obtain ⟨i0, hi0, hz0, hz1, hz2⟩ := info_parts infoI64
  clear h
  go_enter Try.func42, Try.ntmps42
  go_upto_region 3 with (fail)
  go_loopg [5, 10] L.length (fun kx s5 s10 wr => ∃ (i : Nat) (vv : Value), s10 = .int .i64 (i : Int) ∧ vv = s5 ∧ i ≤ L.length ∧ Hid (wr.ownsRow w.heap.size TI64 1 vv (picked pAll (L.take i)).length ((picked pAll (L.take i)).map iv)) ∧ Hid (Below w.heap.size w wr) ∧ L.length ≤ i + kx)
  case atStart => exact ⟨0, _, rfl, rfl, Nat.zero_le _, World.ownsRow_nil _ _ _ _, Below.refl _ _, by omega⟩
  case round =>
    obtain ⟨i, vv, rfl, hvv, hi9, HO, HB, hkx⟩ := hrel
    obtain ⟨a9, c9, rfl⟩ := own_form HO.out
    subst hvv
    by_cases hlt : i < L.length
    · obtain ⟨ab, ao, rfl, _, hc⟩ := (H.out.later HB.out) i hlt
      have c0 := hc 0 _ rfl
      have c1 := hc 1 _ rfl
      have c2 := hc 2 _ rfl
      have c3 := hc 3 _ rfl
      have HT : Hid (picked pAll (L.take (i + 1)) = if pAll L[i].amt = true then picked pAll (L.take i) ++ [L[i].amt] else picked pAll (L.take i)) := by
        show _ = _
        rw [List.take_succ_eq_append_getElem hlt, picked_snoc]
      have hn : (picked pAll (L.take i)).length ≤ L.length := Nat.le_trans (picked_len _ _) (by simp; omega)
      obtain ⟨P, hP⟩ : ∃ P, P = picked pAll (L.take i) := ⟨_, rfl⟩
      rw [← hP] at HO HT hn ⊢
      obtain ⟨x, hx⟩ : ∃ x, x = L[i] := ⟨_, rfl⟩
      rw [← hx] at c0 c1 c2 c3 HT
      obtain ⟨q, hq⟩ : ∃ q, q = pAll x.amt := ⟨_, rfl⟩
      have KF1 : Hid (∀ u, Calls Try.prog 49 #[.int .i64 x.amt] u fun e w' => e = .returned (.bool q) ∧ u = w') := fun u => by rw [hq]; exact KF.out x.amt u
      rw [← hq] at HT
      have j0 : (0 : Int) ≤ (i : Int) := by omega
      have j1 : (i : Int) < (L.length : Int) := by omega
      have HLT := Lib.hid hlt
      have HKX := Lib.hid hkx
      rw [Nat.add_zero] at c0
      clear hc hP hx hq hlt hkx
      obtain ⟨xa, xb, xc, xd⟩ := x
      simp only at c0 c1 c2 c3 HT KF1
      go_upto_region 5 with (fail)
      have hb1 : Below wr.heap.size wr (wr.alloc (.cells #[.int .i64 xa, .int .u64 xb, .int .u64 xc, .int .i64 xd] TLine)) := (Below.refl _ _).alloc (Nat.le_refl _) _
      have HB1 : Hid (Below w.heap.size w (wr.alloc (.cells #[.int .i64 xa, .int .u64 xb, .int .u64 xc, .int .i64 xd] TLine))) := HB.out.trans (hb1.mono HB.out.size)
      have HO1 := Lib.hid (own_later HO.out hb1)
      have RX : Hid (Rw (wr.alloc (.cells #[.int .i64 xa, .int .u64 xb, .int .u64 xc, .int .i64 xd] TLine)) wr.heap.size TLine [.int .i64 xa, .int .u64 xb, .int .u64 xc, .int .i64 xd]) := Rw.new wr [.int .i64 xa, .int .u64 xb, .int .u64 xc, .int .i64 xd] TLine
      obtain ⟨bx, hbx⟩ : ∃ bx, bx = wr.heap.size := ⟨_, rfl⟩
      rw [← hbx] at RX ⊢
      generalize wr.alloc (.cells #[.int .i64 xa, .int .u64 xb, .int .u64 xc, .int .i64 xd] TLine) = W at HB1 HO1 RX ⊢
      clear c0 c1 c2 c3 hb1 hbx HO HB
      have d3 : W.cell? ⟨bx, 3, none⟩ = some (.int .i64 xd) := RX.out.cell 3
      go_wp2_with fail
      refine (KF1.out _).mono ?_
      rintro _ _ ⟨rfl, rfl⟩
      cases q with
      | false =>
        rw [if_neg (by decide)] at HT
        clear KF1
        go_wp2_with fail
        have hlt := HLT.out
        have hkx := HKX.out
        go_roundg (L.length - (i + 1))
        case measure => omega
        case rel => exact ⟨i + 1, _, by simp, rfl, by omega, by rw [HT.out]; exact HO1, HB1, by omega⟩
      | true =>
        rw [if_pos rfl] at HT
        clear KF1
        have hs := HB1.out.size
        go_wp2_with (at_builtin; refine wpList_append_own_at _ rfl _ _ TI64s rfl w.heap.size TI64 i0 (.int .i64 0) 1 8 Try.underlying91 hi0 hz0 hz1 hz2 rfl (by decide) _ _ _ rfl (HO1.out.alloc _) ⟨W.heap.size, 0, none⟩ 1 1 [iv xd] rfl rfl (cell_one_new _ _ _) (by simp [Value.oneCell']) (by unfold maxLen; omega) (by omega) (by simp; omega) ?_)
        intro v2 w2 hown2 hg2 hnil2 hat2
        have HB2 : Hid (Below w.heap.size w w2) := (HB1.out.alloc hs _).grown hg2 (by simp; omega) (fun j hj => (HO1.out.lt j hj).1)
        have HO2 : Hid (w2.ownsRow w.heap.size TI64 1 v2 (picked pAll (L.take (i + 1))).length ((picked pAll (L.take (i + 1))).map iv)) := by
          show w2.ownsRow _ _ _ _ _ _
          rw [HT.out, List.length_append, List.map_append]
          exact hown2
        clear hown2 hg2 hnil2 hat2 d3 HB1 HO1 RX HT
        go_wp2_with fail
        have hlt := HLT.out
        have hkx := HKX.out
        go_roundg (L.length - (i + 1))
        case measure => omega
        case rel => exact ⟨i + 1, _, by simp, rfl, by omega, HO2, HB2, by omega⟩
    · obtain rfl : i = L.length := by omega
      rw [List.take_length] at HO
      clear hkx hlt hi9
      go_wp2_with fail
      go_ret
      exact ⟨_, rfl, by simpa using HO.out, HB.out⟩
set_option maxRecDepth 100000 in
set_option maxHeartbeats 1600000 in
theorem amounts_up (L : List Ln) (a : Option Addr) (cap : Nat) (w : World) (h : Lns w a L) (hl : L.length ≤ 1000000) : Calls Try.prog 42 #[.slice a L.length cap, .func (.func 43) #[] #[]] w (AmtRes (picked pUp L) w) := by
  have H := Lib.hid h
  have KF : Hid (∀ n u, Calls Try.prog 43 #[.int .i64 n] u fun e w' => e = .returned (.bool (pUp n)) ∧ u = w') := pick_up
  obtain ⟨i0, hi0, hz0, hz1, hz2⟩ := info_parts infoI64
  clear h
  go_enter Try.func42, Try.ntmps42
  go_upto_region 3 with (fail)
  go_loopg [5, 10] L.length (fun kx s5 s10 wr => ∃ (i : Nat) (vv : Value), s10 = .int .i64 (i : Int) ∧ vv = s5 ∧ i ≤ L.length ∧ Hid (wr.ownsRow w.heap.size TI64 1 vv (picked pUp (L.take i)).length ((picked pUp (L.take i)).map iv)) ∧ Hid (Below w.heap.size w wr) ∧ L.length ≤ i + kx)
  case atStart => exact ⟨0, _, rfl, rfl, Nat.zero_le _, World.ownsRow_nil _ _ _ _, Below.refl _ _, by omega⟩
  case round =>
    obtain ⟨i, vv, rfl, hvv, hi9, HO, HB, hkx⟩ := hrel
    obtain ⟨a9, c9, rfl⟩ := own_form HO.out
    subst hvv
    by_cases hlt : i < L.length
    · obtain ⟨ab, ao, rfl, _, hc⟩ := (H.out.later HB.out) i hlt
      have c0 := hc 0 _ rfl
      have c1 := hc 1 _ rfl
      have c2 := hc 2 _ rfl
      have c3 := hc 3 _ rfl
      have HT : Hid (picked pUp (L.take (i + 1)) = if pUp L[i].amt = true then picked pUp (L.take i) ++ [L[i].amt] else picked pUp (L.take i)) := by
        show _ = _
        rw [List.take_succ_eq_append_getElem hlt, picked_snoc]
      have hn : (picked pUp (L.take i)).length ≤ L.length := Nat.le_trans (picked_len _ _) (by simp; omega)
      obtain ⟨P, hP⟩ : ∃ P, P = picked pUp (L.take i) := ⟨_, rfl⟩
      rw [← hP] at HO HT hn ⊢
      obtain ⟨x, hx⟩ : ∃ x, x = L[i] := ⟨_, rfl⟩
      rw [← hx] at c0 c1 c2 c3 HT
      obtain ⟨q, hq⟩ : ∃ q, q = pUp x.amt := ⟨_, rfl⟩
      have KF1 : Hid (∀ u, Calls Try.prog 43 #[.int .i64 x.amt] u fun e w' => e = .returned (.bool q) ∧ u = w') := fun u => by rw [hq]; exact KF.out x.amt u
      rw [← hq] at HT
      have j0 : (0 : Int) ≤ (i : Int) := by omega
      have j1 : (i : Int) < (L.length : Int) := by omega
      have HLT := Lib.hid hlt
      have HKX := Lib.hid hkx
      rw [Nat.add_zero] at c0
      clear hc hP hx hq hlt hkx
      obtain ⟨xa, xb, xc, xd⟩ := x
      simp only at c0 c1 c2 c3 HT KF1
      go_upto_region 5 with (fail)
      have hb1 : Below wr.heap.size wr (wr.alloc (.cells #[.int .i64 xa, .int .u64 xb, .int .u64 xc, .int .i64 xd] TLine)) := (Below.refl _ _).alloc (Nat.le_refl _) _
      have HB1 : Hid (Below w.heap.size w (wr.alloc (.cells #[.int .i64 xa, .int .u64 xb, .int .u64 xc, .int .i64 xd] TLine))) := HB.out.trans (hb1.mono HB.out.size)
      have HO1 := Lib.hid (own_later HO.out hb1)
      have RX : Hid (Rw (wr.alloc (.cells #[.int .i64 xa, .int .u64 xb, .int .u64 xc, .int .i64 xd] TLine)) wr.heap.size TLine [.int .i64 xa, .int .u64 xb, .int .u64 xc, .int .i64 xd]) := Rw.new wr [.int .i64 xa, .int .u64 xb, .int .u64 xc, .int .i64 xd] TLine
      obtain ⟨bx, hbx⟩ : ∃ bx, bx = wr.heap.size := ⟨_, rfl⟩
      rw [← hbx] at RX ⊢
      generalize wr.alloc (.cells #[.int .i64 xa, .int .u64 xb, .int .u64 xc, .int .i64 xd] TLine) = W at HB1 HO1 RX ⊢
      clear c0 c1 c2 c3 hb1 hbx HO HB
      have d3 : W.cell? ⟨bx, 3, none⟩ = some (.int .i64 xd) := RX.out.cell 3
      go_wp2_with fail
      refine (KF1.out _).mono ?_
      rintro _ _ ⟨rfl, rfl⟩
      cases q with
      | false =>
        rw [if_neg (by decide)] at HT
        clear KF1
        go_wp2_with fail
        have hlt := HLT.out
        have hkx := HKX.out
        go_roundg (L.length - (i + 1))
        case measure => omega
        case rel => exact ⟨i + 1, _, by simp, rfl, by omega, by rw [HT.out]; exact HO1, HB1, by omega⟩
      | true =>
        rw [if_pos rfl] at HT
        clear KF1
        have hs := HB1.out.size
        go_wp2_with (at_builtin; refine wpList_append_own_at _ rfl _ _ TI64s rfl w.heap.size TI64 i0 (.int .i64 0) 1 8 Try.underlying91 hi0 hz0 hz1 hz2 rfl (by decide) _ _ _ rfl (HO1.out.alloc _) ⟨W.heap.size, 0, none⟩ 1 1 [iv xd] rfl rfl (cell_one_new _ _ _) (by simp [Value.oneCell']) (by unfold maxLen; omega) (by omega) (by simp; omega) ?_)
        intro v2 w2 hown2 hg2 hnil2 hat2
        have HB2 : Hid (Below w.heap.size w w2) := (HB1.out.alloc hs _).grown hg2 (by simp; omega) (fun j hj => (HO1.out.lt j hj).1)
        have HO2 : Hid (w2.ownsRow w.heap.size TI64 1 v2 (picked pUp (L.take (i + 1))).length ((picked pUp (L.take (i + 1))).map iv)) := by
          show w2.ownsRow _ _ _ _ _ _
          rw [HT.out, List.length_append, List.map_append]
          exact hown2
        clear hown2 hg2 hnil2 hat2 d3 HB1 HO1 RX HT
        go_wp2_with fail
        have hlt := HLT.out
        have hkx := HKX.out
        go_roundg (L.length - (i + 1))
        case measure => omega
        case rel => exact ⟨i + 1, _, by simp, rfl, by omega, HO2, HB2, by omega⟩
    · obtain rfl : i = L.length := by omega
      rw [List.take_length] at HO
      clear hkx hlt hi9
      go_wp2_with fail
      go_ret
      exact ⟨_, rfl, by simpa using HO.out, HB.out⟩
set_option maxRecDepth 100000 in
set_option maxHeartbeats 1600000 in
theorem amounts_down (L : List Ln) (a : Option Addr) (cap : Nat) (w : World) (h : Lns w a L) (hl : L.length ≤ 1000000) : Calls Try.prog 42 #[.slice a L.length cap, .func (.func 44) #[] #[]] w (AmtRes (picked pDown L) w) := by
  have H := Lib.hid h
  have KF : Hid (∀ n u, Calls Try.prog 44 #[.int .i64 n] u fun e w' => e = .returned (.bool (pDown n)) ∧ u = w') := pick_down
  obtain ⟨i0, hi0, hz0, hz1, hz2⟩ := info_parts infoI64
  clear h
  go_enter Try.func42, Try.ntmps42
  go_upto_region 3 with (fail)
  go_loopg [5, 10] L.length (fun kx s5 s10 wr => ∃ (i : Nat) (vv : Value), s10 = .int .i64 (i : Int) ∧ vv = s5 ∧ i ≤ L.length ∧ Hid (wr.ownsRow w.heap.size TI64 1 vv (picked pDown (L.take i)).length ((picked pDown (L.take i)).map iv)) ∧ Hid (Below w.heap.size w wr) ∧ L.length ≤ i + kx)
  case atStart => exact ⟨0, _, rfl, rfl, Nat.zero_le _, World.ownsRow_nil _ _ _ _, Below.refl _ _, by omega⟩
  case round =>
    obtain ⟨i, vv, rfl, hvv, hi9, HO, HB, hkx⟩ := hrel
    obtain ⟨a9, c9, rfl⟩ := own_form HO.out
    subst hvv
    by_cases hlt : i < L.length
    · obtain ⟨ab, ao, rfl, _, hc⟩ := (H.out.later HB.out) i hlt
      have c0 := hc 0 _ rfl
      have c1 := hc 1 _ rfl
      have c2 := hc 2 _ rfl
      have c3 := hc 3 _ rfl
      have HT : Hid (picked pDown (L.take (i + 1)) = if pDown L[i].amt = true then picked pDown (L.take i) ++ [L[i].amt] else picked pDown (L.take i)) := by
        show _ = _
        rw [List.take_succ_eq_append_getElem hlt, picked_snoc]
      have hn : (picked pDown (L.take i)).length ≤ L.length := Nat.le_trans (picked_len _ _) (by simp; omega)
      obtain ⟨P, hP⟩ : ∃ P, P = picked pDown (L.take i) := ⟨_, rfl⟩
      rw [← hP] at HO HT hn ⊢
      obtain ⟨x, hx⟩ : ∃ x, x = L[i] := ⟨_, rfl⟩
      rw [← hx] at c0 c1 c2 c3 HT
      obtain ⟨q, hq⟩ : ∃ q, q = pDown x.amt := ⟨_, rfl⟩
      have KF1 : Hid (∀ u, Calls Try.prog 44 #[.int .i64 x.amt] u fun e w' => e = .returned (.bool q) ∧ u = w') := fun u => by rw [hq]; exact KF.out x.amt u
      rw [← hq] at HT
      have j0 : (0 : Int) ≤ (i : Int) := by omega
      have j1 : (i : Int) < (L.length : Int) := by omega
      have HLT := Lib.hid hlt
      have HKX := Lib.hid hkx
      rw [Nat.add_zero] at c0
      clear hc hP hx hq hlt hkx
      obtain ⟨xa, xb, xc, xd⟩ := x
      simp only at c0 c1 c2 c3 HT KF1
      go_upto_region 5 with (fail)
      have hb1 : Below wr.heap.size wr (wr.alloc (.cells #[.int .i64 xa, .int .u64 xb, .int .u64 xc, .int .i64 xd] TLine)) := (Below.refl _ _).alloc (Nat.le_refl _) _
      have HB1 : Hid (Below w.heap.size w (wr.alloc (.cells #[.int .i64 xa, .int .u64 xb, .int .u64 xc, .int .i64 xd] TLine))) := HB.out.trans (hb1.mono HB.out.size)
      have HO1 := Lib.hid (own_later HO.out hb1)
      have RX : Hid (Rw (wr.alloc (.cells #[.int .i64 xa, .int .u64 xb, .int .u64 xc, .int .i64 xd] TLine)) wr.heap.size TLine [.int .i64 xa, .int .u64 xb, .int .u64 xc, .int .i64 xd]) := Rw.new wr [.int .i64 xa, .int .u64 xb, .int .u64 xc, .int .i64 xd] TLine
      obtain ⟨bx, hbx⟩ : ∃ bx, bx = wr.heap.size := ⟨_, rfl⟩
      rw [← hbx] at RX ⊢
      generalize wr.alloc (.cells #[.int .i64 xa, .int .u64 xb, .int .u64 xc, .int .i64 xd] TLine) = W at HB1 HO1 RX ⊢
      clear c0 c1 c2 c3 hb1 hbx HO HB
      have d3 : W.cell? ⟨bx, 3, none⟩ = some (.int .i64 xd) := RX.out.cell 3
      go_wp2_with fail
      refine (KF1.out _).mono ?_
      rintro _ _ ⟨rfl, rfl⟩
      cases q with
      | false =>
        rw [if_neg (by decide)] at HT
        clear KF1
        go_wp2_with fail
        have hlt := HLT.out
        have hkx := HKX.out
        go_roundg (L.length - (i + 1))
        case measure => omega
        case rel => exact ⟨i + 1, _, by simp, rfl, by omega, by rw [HT.out]; exact HO1, HB1, by omega⟩
      | true =>
        rw [if_pos rfl] at HT
        clear KF1
        have hs := HB1.out.size
        go_wp2_with (at_builtin; refine wpList_append_own_at _ rfl _ _ TI64s rfl w.heap.size TI64 i0 (.int .i64 0) 1 8 Try.underlying91 hi0 hz0 hz1 hz2 rfl (by decide) _ _ _ rfl (HO1.out.alloc _) ⟨W.heap.size, 0, none⟩ 1 1 [iv xd] rfl rfl (cell_one_new _ _ _) (by simp [Value.oneCell']) (by unfold maxLen; omega) (by omega) (by simp; omega) ?_)
        intro v2 w2 hown2 hg2 hnil2 hat2
        have HB2 : Hid (Below w.heap.size w w2) := (HB1.out.alloc hs _).grown hg2 (by simp; omega) (fun j hj => (HO1.out.lt j hj).1)
        have HO2 : Hid (w2.ownsRow w.heap.size TI64 1 v2 (picked pDown (L.take (i + 1))).length ((picked pDown (L.take (i + 1))).map iv)) := by
          show w2.ownsRow _ _ _ _ _ _
          rw [HT.out, List.length_append, List.map_append]
          exact hown2
        clear hown2 hg2 hnil2 hat2 d3 HB1 HO1 RX HT
        go_wp2_with fail
        have hlt := HLT.out
        have hkx := HKX.out
        go_roundg (L.length - (i + 1))
        case measure => omega
        case rel => exact ⟨i + 1, _, by simp, rfl, by omega, HO2, HB2, by omega⟩
    · obtain rfl : i = L.length := by omega
      rw [List.take_length] at HO
      clear hkx hlt hi9
      go_wp2_with fail
      go_ret
      exact ⟨_, rfl, by simpa using HO.out, HB.out⟩
end Go.Proofs.Ytnblilonjpfdnaa.Jn
