/- Package row: Open. -/
import Derived.Test.YtjlncjabiofklaaDoorRkLoad
import Derived.Test.YtjlncjabiofklaaDoorSfTop
namespace Go.Proofs.YtjlncjabiofklaaDoor.Rk
open Go Go.RowKit Dv Rf Shf
open Tal (Strs bas)
set_option maxHeartbeats 800000 in
theorem size_nil (w : World) : Calls Tryd.prog 17 #[.pointer none] w fun e w' => e = .returned (.int .i64 0) ∧ w = w' := by
  have KI : Hid (∀ u, Calls Tryd.prog 26 #[.pointer none] u fun e w' => e = .returned (.bool false) ∧ u = w') := fun u => by
    go_enter Tryd.func26, Tryd.ntmps26
    go_wp2
    go_ret
    exact ⟨rfl, rfl⟩
  go_enter Tryd.func17, Tryd.ntmps17
  go_wp2_with fail
  refine (KI.out _).mono ?_
  rintro e w' ⟨rfl, rfl⟩
  go_wp2_with fail
  go_ret
  exact ⟨rfl, rfl⟩
set_option maxHeartbeats 800000 in
theorem open_nil (f n : Int) (w : World) : Calls Tryd.prog 18 #[.pointer none, .int .i64 f, .int .i64 n] w fun e w' => e = .returned (.tuple #[.pointer none, .int .i64 1]) ∧ w = w' := by
  go_enter Tryd.func18, Tryd.ntmps18
  go_wp2_with fail
  refine (size_nil _).mono ?_
  rintro e w' ⟨rfl, rfl⟩
  go_wp2_with fail
  go_ret2
  exact ⟨rfl, rfl⟩
theorem os_size {S : Nat → Prop} {w : World} {g : Nat} {x : Dr} (h : Dv.Os S w g x) (hx : x.Ok) : Calls Tryd.prog 17 #[.pointer (some ⟨g, 0, none⟩)] w fun e w' => e = .returned (.int .i64 (x.n : Int)) ∧ w = w' := by
  obtain ⟨bv, bd, pv, fv, h1, _⟩ := h
  exact size_c g bv bd pv fv x w h1 hx
theorem os_read {S : Nat → Prop} {w : World} {g : Nat} {x : Dr} (h : Dv.Os S w g x) (hx : x.Ok) (n : Int) : Calls Tryd.prog 31 #[.pointer (some ⟨g, 0, none⟩), .int .i64 n] w (RdRes x n w) := by
  obtain ⟨bv, bd, pv, fv, h1, _⟩ := h
  exact read_c g bv bd pv fv x n w h1 hx
set_option maxHeartbeats 1600000 in
theorem open_out {S : Nat → Prop} {w : World} {g : Nat} {x : Dr} (h : Dv.Os S w g x) (hx : x.Ok) (f n : Int) (hf : -9223372036854775808 ≤ f) (hf2 : f ≤ 9223372036854775807) (hn : -9223372036854775808 ≤ n) (hn2 : n ≤ 9223372036854775807) (hno : f < 0 ∨ n < 1 ∨ (x.n : Int) < n ∨ (x.n : Int) - n < f) :
    Calls Tryd.prog 18 #[.pointer (some ⟨g, 0, none⟩), .int .i64 f, .int .i64 n] w fun e w' => e = .returned (.tuple #[.pointer none, .int .i64 2]) ∧ w = w' := by
  have K := Lib.hid (os_size h hx)
  have q0 : ((x.n : Int) == 0) = false := beq_eq_false_iff_ne.2 (by have := hx.n1; unfold Dr.n; omega)
  have q1 : (x.n : Int) ≤ 4096 := by have := hx.n2; unfold Dr.n; omega
  have q2 : (0 : Int) ≤ (x.n : Int) := by omega
  clear h hx
  by_cases a : f < 0
  · go_enter Tryd.func18, Tryd.ntmps18
    go_wp2_with fail
    refine K.out.mono ?_
    rintro e w' ⟨rfl, rfl⟩
    go_wp2_with fail
    go_ret2
    exact ⟨rfl, rfl⟩
  · by_cases b : n < 1
    · go_enter Tryd.func18, Tryd.ntmps18
      go_wp2_with fail
      refine K.out.mono ?_
      rintro e w' ⟨rfl, rfl⟩
      go_wp2_with fail
      go_ret2
      exact ⟨rfl, rfl⟩
    · have b' : 1 ≤ n := by omega
      by_cases c : (x.n : Int) < n
      · clear hno
        go_enter Tryd.func18, Tryd.ntmps18
        go_wp2_with fail
        refine K.out.mono ?_
        rintro e w' ⟨rfl, rfl⟩
        go_wp2_with fail
        refine K.out.mono ?_
        rintro e w' ⟨rfl, rfl⟩
        go_wp2_with fail
        go_ret2
        exact ⟨rfl, rfl⟩
      · have d : (x.n : Int) - n < f := by omega
        have c' : n ≤ (x.n : Int) := by omega
        clear hno
        go_enter Tryd.func18, Tryd.ntmps18
        go_wp2_with fail
        refine K.out.mono ?_
        rintro e w' ⟨rfl, rfl⟩
        go_wp2_with fail
        refine K.out.mono ?_
        rintro e w' ⟨rfl, rfl⟩
        go_wp2_with fail
        refine K.out.mono ?_
        rintro e w' ⟨rfl, rfl⟩
        go_wp2_with fail
        go_ret2
        exact ⟨rfl, rfl⟩
/-- A row that was opened. -/
def OpRes (x : Dr) (f n : Nat) (g : Nat) (w : World) (e : Ending) (w' : World) : Prop := ∃ r tv s, e = .returned (.tuple #[.pointer (some ⟨r, 0, none⟩), .int .i64 0]) ∧ Loaded (seg x.V f n) s ∧ At w' r g tv ⟨f, n, s, Sf.top (seg x.V f n), false⟩ ∧ Below w.heap.size w w' ∧ ∀ j, Bs r tv j → w.heap.size ≤ j
theorem seg_snoc {V : List Sec} {f i : Nat} (h : f + i < V.length) : seg V f (i + 1) = seg V f i ++ [V[f + i]] := by
  unfold seg
  rw [List.take_succ_eq_append_getElem (by simp; omega)]
  simp
theorem own_cap {w : World} {base e size n g cap : Nat} {xs : List Value} (h : w.ownsRow base e size (.slice (some ⟨g, 0, none⟩) n cap) n xs) : n ≤ cap := by
  rcases h.2 with ⟨h0, _⟩ | ⟨g', cap', cur, h0, hg, hb, hn, _⟩
  · cases h0
  · cases h0; exact hn
set_option maxRecDepth 100000 in
set_option maxHeartbeats 3200000 in
theorem open_c {S : Nat → Prop} {w : World} {g : Nat} {x : Dr} (h : Dv.Os S w g x) (hx : x.Ok) (f n : Nat) (hn : 1 ≤ n) (hn9 : n ≤ 1000) (hfn : f + n ≤ x.D.length) :
    Calls Tryd.prog 18 #[.pointer (some ⟨g, 0, none⟩), .int .i64 (f : Int), .int .i64 (n : Int)] w (OpRes x f n g w) := by
  obtain ⟨i0, hi, hz0, hz1, hz2⟩ := info_parts infoStr
  have K := Lib.hid (os_size h hx)
  have KR : Hid (∀ (u : World) (i : Nat), i < n → Below w.heap.size w u → Calls Tryd.prog 31 #[.pointer (some ⟨g, 0, none⟩), .int .i64 ((f : Int) + (i : Int))] u fun e w' => e = .returned (.tuple #[.string ⟨(x.V.getD (f + i) []).toArray⟩, .int .i64 0]) ∧ Below u.heap.size u w') := fun u i hi hu =>
    (os_read (h.later hu) hx _).mono fun e w' hr => by
      unfold RdRes Dr.read at hr
      rw [if_neg (by omega), show ((f : Int) + (i : Int)).toNat = f + i by omega] at hr
      exact hr
  have hV : x.V.length = x.D.length := Dr.vlen x
  have q0 : ((x.n : Int) == 0) = false := beq_eq_false_iff_ne.2 (by have := hx.n1; unfold Dr.n; omega)
  have q1 : (x.n : Int) ≤ 4096 := by have := hx.n2; unfold Dr.n; omega
  have q2 : (0 : Int) ≤ (x.n : Int) := by omega
  have q3 : (f : Int) + (n : Int) ≤ (x.n : Int) := by unfold Dr.n; omega
  have q4 : ¬ (f : Int) < 0 := by omega
  have q5 : ¬ (n : Int) < 1 := by omega
  have q6 : ¬ (x.n : Int) < (n : Int) := by omega
  have q7 : ¬ (x.n : Int) - (n : Int) < (f : Int) := by omega
  have q8 : (n : Int) ≤ 1000 := by omega
  have d4 : decide ((f : Int) < 0) = false := by simp
  have d5 : decide ((n : Int) < 1) = false := decide_eq_false q5
  have d6 : decide (x.n < n) = false := decide_eq_false (by omega)
  have d7 : decide ((x.n : Int) - (n : Int) < (f : Int)) = false := decide_eq_false q7
  have HV := Lib.hid hV
  have hfV : f + n ≤ x.V.length := by omega
  have HX := Lib.hid hx
  clear h hx hV
  go_enter Tryd.func18, Tryd.ntmps18
  go_wp2_with fail
  refine K.out.mono ?_
  rintro e w' ⟨rfl, rfl⟩
  go_wp2_with fail
  refine K.out.mono ?_
  rintro e w' ⟨rfl, rfl⟩
  go_wp2_with fail
  refine K.out.mono ?_
  rintro e w' ⟨rfl, rfl⟩
  go_wp2_with fail
  have hb0 : Rw (w.alloc (.cells #[.pointer (some ⟨g, 0, none⟩), .int .i64 (f : Int), .int .i64 (n : Int), .slice none 0 0, .int .u64 0, .int .u64 0, .int .u64 0, .int .i64 0, .bool false] TR)) w.heap.size TR (Rm.cells ⟨f, n, Ld.zero, 0, false⟩ g (.slice none 0 0)) := Rw.new w _ TR
  have hB0 : Below w.heap.size w (w.alloc (.cells #[.pointer (some ⟨g, 0, none⟩), .int .i64 (f : Int), .int .i64 (n : Int), .slice none 0 0, .int .u64 0, .int .u64 0, .int .u64 0, .int .i64 0, .bool false] TR)) := (Below.refl _ w).alloc (Nat.le_refl _) _
  have hz0' : (w.alloc (.cells #[.pointer (some ⟨g, 0, none⟩), .int .i64 (f : Int), .int .i64 (n : Int), .slice none 0 0, .int .u64 0, .int .u64 0, .int .u64 0, .int .i64 0, .bool false] TR)).heap.size = w.heap.size + 1 := by simp
  generalize w.alloc (.cells #[.pointer (some ⟨g, 0, none⟩), .int .i64 (f : Int), .int .i64 (n : Int), .slice none 0 0, .int .u64 0, .int .u64 0, .int .u64 0, .int .i64 0, .bool false] TR) = W0 at hb0 hB0 hz0' ⊢
  have HB0 := Lib.hid hB0
  have HR0 := Lib.hid hb0
  have HZ0 := Lib.hid hz0'
  clear hb0 hB0 hz0'
  go_loopg [9, 42] n (fun kx s9 s42 wr => ∃ k : Nat, k ≤ n ∧ s42 = .int .i64 (k : Int) ∧ wr.ownsRow (w.heap.size + 1) TStr 1 s9 k ((seg x.V f k).map sv) ∧ Below (w.heap.size + 1) W0 wr ∧ n ≤ k + kx)
  case atStart => exact ⟨0, Nat.zero_le _, rfl, World.ownsRow_nil _ _ _ _, Below.refl _ _, by omega⟩
  case round =>
    obtain ⟨k, hk, rfl, hown, hB, hkx⟩ := hrel
    have HO := Lib.hid hown
    have HB := Lib.hid hB
    have HB1 : Hid (Below w.heap.size w wr) := HB0.out.trans (hB.mono (by omega))
    have hsz : w.heap.size + 1 ≤ wr.heap.size := by have := hB.size; rw [HZ0.out] at this; exact this
    have HSZ := Lib.hid hsz
    clear hown hB hsz
    by_cases hlt : k < n
    · have K2 := Lib.hid (KR.out wr k hlt HB1.out)
      have c0 : wr.cell? ⟨w.heap.size, 0, none⟩ = some (.pointer (some ⟨g, 0, none⟩)) := (HB.out.cell (p := ⟨w.heap.size, 0, none⟩) (by simp)).trans (HR0.out.cell 0)
      obtain ⟨y, hy⟩ : ∃ y, y = x.V.getD (f + k) [] := ⟨_, rfl⟩
      rw [← hy] at K2
      have HY : Hid ((seg x.V f (k + 1)).map sv = (seg x.V f k).map sv ++ [sv y]) := by
        show _ = _
        rw [seg_snoc (by omega), List.map_append, hy, List.getD_eq_getElem?_getD, List.getElem?_eq_getElem (by omega)]
        rfl
      clear hy
      go_wp2_with fail
      refine K2.out.mono ?_
      rintro e w2 ⟨rfl, hb2⟩
      have HB2 := Lib.hid hb2
      have HO2 := Lib.hid (own_later HO.out hb2)
      have hs2 := hb2.size
      have HS2 := Lib.hid hs2
      clear hb2 hs2 c0
      go_wp2_with (at_builtin; refine wpList_append_own_at _ rfl _ _ 35 rfl (w.heap.size + 1) TStr i0 (.string ⟨#[]⟩) 1 16 Tryd.underlying35 hi hz0 hz1 hz2 rfl (by decide) _ _ _ rfl (HO2.out.alloc _) ⟨w2.heap.size, 0, none⟩ 1 1 [sv y] rfl rfl (one_new' _ _ _) (by simp [Value.oneCell', sv]) (by unfold maxLen; omega) (by omega) (by simp; have := HS2.out; have := HSZ.out; omega) ?_)
      intro v' w3 hown hgrow hnil hat
      obtain ⟨a', c', rfl⟩ := own_slice hown
      have HO3 := Lib.hid hown
      have HB3 : Hid (Below (w.heap.size + 1) W0 w3) := ((HB.out.trans (HB2.out.mono HSZ.out)).alloc (by have := HS2.out; have := HSZ.out; omega) _).grown hgrow (by simp; have := HS2.out; have := HSZ.out; omega) (fun j hj => (HO2.out.lt j hj).1)
      clear hown hgrow hnil hat
      go_wp2_with fail
      go_roundg (n - (k + 1))
      case measure => omega
      case rel => exact ⟨k + 1, by omega, by simp, by rw [HY.out]; exact HO3.out, HB3.out, by omega⟩
    · obtain rfl : k = n := by omega
      clear hkx hlt
      obtain ⟨sg, hsg⟩ : ∃ sg, sg = seg x.V f k := ⟨_, rfl⟩
      have hsl : sg.length = k := by rw [hsg, seg_len hfV]
      rw [← hsg] at HO
      have HSG := Lib.hid hsg
      have HSL := Lib.hid hsl
      obtain ⟨b, cap, rfl⟩ := own_form HO.out hn
      have hO' : wr.ownsRow (w.heap.size + 1) TStr 1 (.slice (some ⟨b, 0, none⟩) sg.length cap) sg.length (sg.map sv) := by rw [hsl]; exact HO.out
      have hcap := own_cap HO.out
      have hbb : w.heap.size + 1 ≤ b := (HO.out.lt b rfl).1
      have HST := Lib.hid (strs_own hO')
      have hbl : (bas sg).length = k := by simp [bas, hsl]
      have KT : Hid (Calls Tryd.prog 32 #[.slice (some ⟨b, 0, none⟩) k cap] wr fun e w' => e = .returned (.int .u64 (Sf.top sg)) ∧ Below wr.heap.size wr w') := by
        have := Shf.top_c wr (some ⟨b, 0, none⟩) cap (bas sg) HST.out (by omega)
        rw [hbl, show (bas sg).map (fun s => s.data.toList) = sg from lists_bas sg] at this
        exact this
      have HBL := Lib.hid hbl
      obtain ⟨tp, htp⟩ : ∃ tp, tp = Sf.top sg := ⟨_, rfl⟩
      rw [← htp] at KT
      have HTP := Lib.hid htp
      clear hO' hsg hsl hbl htp
      go_wp2_with fail
      refine KT.out.mono ?_
      rintro e w2 ⟨rfl, hb2⟩
      have hA2 : Rw w2 w.heap.size TR (Rm.cells ⟨f, k, Ld.zero, 0, false⟩ g (.slice none 0 0)) := (HR0.out.of (HB.out.block w.heap.size (by omega))).later hb2
      have c6 : w2.cell? ⟨w.heap.size, 6, none⟩ = some (.int .u64 0) := hA2.cell 6
      have f6 := hA2.frozen 6
      have HA3 : Hid (At (w2.setCell ⟨w.heap.size, 6, none⟩ (.int .u64 (tp : Int))) w.heap.size g (.slice none 0 0) ⟨f, k, Ld.zero, tp, false⟩) := ⟨hA2.setCell 6 _, World.ownsRow_nil _ _ _ _⟩
      have HB3 : Hid (Below w.heap.size w (w2.setCell ⟨w.heap.size, 6, none⟩ (.int .u64 (tp : Int)))) := ((HB1.out.trans (hb2.mono (by have := HSZ.out; omega))).setCell (Nat.le_refl _) _)
      have HST3 : Hid (Strs (w2.setCell ⟨w.heap.size, 6, none⟩ (.int .u64 (tp : Int))) (some ⟨b, 0, none⟩) (bas sg)) := strs_keeps (HST.out.later hb2) ((Keeps.refl (fun j => j = w.heap.size) w2).setCell w.heap.size 6 _ (.inl rfl)) fun b' off e => by cases e; omega
      clear hA2 hb2
      have KL : Hid (Calls Tryd.prog 33 #[.pointer (some ⟨w.heap.size, 0, none⟩), .slice (some ⟨b, 0, none⟩) k cap] (w2.setCell ⟨w.heap.size, 6, none⟩ (.int .u64 (tp : Int))) (LdRes sg w.heap.size g ⟨f, k, Ld.zero, tp, false⟩ (w2.setCell ⟨w.heap.size, 6, none⟩ (.int .u64 (tp : Int))))) := by
        have := load_c w.heap.size g ⟨f, k, Ld.zero, tp, false⟩ _ (some ⟨b, 0, none⟩) cap (bas sg) HA3.out rfl HST3.out (by rw [HBL.out]; omega) (by rw [HBL.out]; exact hcap) (fun b' off e => by cases e; omega)
        rw [HBL.out, lists_bas] at this
        exact this
      go_wp2_with fail
      refine KL.out.mono ?_
      rintro e w4 ⟨rfl, s, hs, tv', h1, h2, h3⟩
      have HS := Lib.hid hs
      have H1 := Lib.hid h1
      have H2 := Lib.hid h2
      have H3 := Lib.hid h3
      clear hs h1 h2 h3
      go_wp2_with fail
      go_ret2
      have hBl : Below w.heap.size w w4 := HB3.out.trans (H2.out.below (fun j hj => by
        rcases hj with rfl | hj
        · exact Nat.le_refl _
        · simp [Value.ownBlock] at hj) (by have := HB3.out.size; exact this))
      refine ⟨w.heap.size, tv', s, rfl, by rw [← HSG.out]; exact HS.out, by rw [← HSG.out, ← HTP.out]; exact H1.out, hBl, fun j hj => ?_⟩
      rcases H3.out j hj with (rfl | hj') | hj'
      · exact Nat.le_refl _
      · simp [Value.ownBlock] at hj'
      · have := HB3.out.size; omega
end Go.Proofs.YtjlncjabiofklaaDoor.Rk
