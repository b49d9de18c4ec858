/- Package split: the sum of weights, the test of two shares, and their order. -/
import Derived.Test.YtinfjfjheimceaaSpMath
import Derived.Test.YtinfjfjheimceaaSoStab
import Derived.Test.YtinfjfjheimceaaAxDivs
import Derived.Test.YtinfjfjheimceaaAxHead
import Derived.Test.YtinfjfjheimceaaAxSumLaw
namespace Go.Proofs.Ytinfjfjheimceaa.Sp
open Go Go.Sort Go.RowKit Go.Lib Go.Proofs.Ytinfjfjheimceaa.So
/-- A row of integers that reads so. -/
def Ints (w : World) (a : Option Addr) (l : List Int) : Prop := l = [] ∨ ∃ b off, a = some ⟨b, off, none⟩ ∧ b < w.heap.size ∧ ∀ j, j < l.length → w.cell? ⟨b, off + j, none⟩ = some (.int .i64 (l.getD j 0))
theorem Ints.later {w w' : World} {a : Option Addr} {l : List Int} (h : Ints w a l) (hb : RowKit.Below w.heap.size w w') : Ints w' a l := by
  rcases h with h | ⟨b, off, h1, h2, h3⟩
  · exact Or.inl h
  · exact Or.inr ⟨b, off, h1, Nat.lt_of_lt_of_le h2 hb.size, fun j hj => by rw [hb.cell (by exact h2)]; exact h3 j hj⟩
def good (l : List Int) : Bool := decide (l.length ≤ 4096) && l.all (fun x => decide (0 ≤ x)) && decide (0 < l.sum) && decide (l.sum < 4611686018427387904)
theorem good_iff (l : List Int) : good l = true ↔ l.length ≤ 4096 ∧ (∀ x ∈ l, 0 ≤ x) ∧ 0 < l.sum ∧ l.sum < 4611686018427387904 := by
  unfold good; simp [and_assoc]
theorem good_no {l : List Int} (h : ¬ (l.length ≤ 4096 ∧ (∀ x ∈ l, 0 ≤ x) ∧ 0 < l.sum ∧ l.sum < 4611686018427387904)) : good l = false := by
  cases hg : good l with
  | false => rfl
  | true => exact absurd ((good_iff l).1 hg) h
def WRes (l : List Int) (w : World) (e : Ending) (w' : World) : Prop := ∃ v : Int, e = .returned (.tuple #[.int .i64 v, .bool (good l)]) ∧ (good l = true → v = l.sum) ∧ RowKit.Below w.heap.size w w'
theorem wres_no {l : List Int} {w w' : World} (v : Int) (h : good l = false) (hb : RowKit.Below w.heap.size w w') : WRes l w (.returned (.tuple #[.int .i64 v, .bool false])) w' :=
  ⟨v, by rw [h], fun g => (by rw [h] at g; cases g), hb⟩
theorem wres_yes {l : List Int} {w w' : World} {v : Int} (h : good l = true) (hv : v = l.sum) (hb : RowKit.Below w.heap.size w w') : WRes l w (.returned (.tuple #[.int .i64 v, .bool true])) w' :=
  ⟨v, by rw [h], fun _ => hv, hb⟩
theorem all_of {l : List Int} (h : ∀ j, j < l.length → 0 ≤ l.getD j 0) : ∀ x ∈ l, 0 ≤ x := fun x hx => by
  obtain ⟨j, hj, rfl⟩ := List.getElem_of_mem hx
  have := h j hj
  simpa [hj] using this
set_option maxRecDepth 100000 in
set_option maxHeartbeats 1600000 in
theorem weigh_c (a : Option Addr) (cap : Nat) (l : List Int) (w : World) (hI : Ints w a l) (hr : ∀ x ∈ l, -9223372036854775808 ≤ x ∧ x ≤ 9223372036854775807) (hlen : l.length ≤ 9223372036854775807) :
    Calls Try.prog 17 #[.slice a l.length cap] w (WRes l w) := by
  by_cases h1 : 4096 < l.length
  · have hz : (4096 : Int) < (l.length : Int) := by omega
    have HG := Lib.hid (good_no (l := l) (fun h => by omega))
    clear hI hr
    go_enter Try.func17, Try.ntmps17
    go_wp2_with fail
    go_ret2
    exact wres_no 0 HG.out (RowKit.Below.refl _ _)
  · have hz : ¬ (4096 : Int) < (l.length : Int) := by omega
    have HI := Lib.hid hI
    have HR := Lib.hid hr
    clear hI hr
    obtain ⟨n, hn⟩ : ∃ n, n = l.length := ⟨_, rfl⟩
    rw [← hn] at hz hlen h1 ⊢
    have HN := Lib.hid hn
    clear hn
    go_enter Try.func17, Try.ntmps17
    go_wp2_with fail
    go_loop [13] (fun s => ∃ k : Nat, k ≤ n ∧ s = .int .i64 (k : Int) ∧ Hid (∀ j, j < k → 0 ≤ l.getD j 0)) (fun s => n - (intOf s).toNat)
    case atStart => exact ⟨0, Nat.zero_le _, rfl, fun j hj => by omega⟩
    case round =>
      obtain ⟨k, hk, rfl, HP⟩ := hrel
      by_cases hlt : k < n
      · have hltz : (k : Int) < (n : Int) := by omega
        obtain ⟨b, off, rfl, hb, hc⟩ : ∃ b off, a = some ⟨b, off, none⟩ ∧ b < w.heap.size ∧ ∀ j, j < l.length → w.cell? ⟨b, off + j, none⟩ = some (.int .i64 (l.getD j 0)) := by
          rcases HI.out with h | h
          · have := HN.out; rw [h] at this; simp at this; omega
          · exact h
        have hck := hc k (by rw [← HN.out]; exact hlt)
        clear hc
        obtain ⟨x, hx⟩ : ∃ x, x = l.getD k 0 := ⟨_, rfl⟩
        rw [← hx] at hck
        have HX := Lib.hid hx
        clear hx
        by_cases hneg : x < 0
        · have HG := Lib.hid (good_no (l := l) (fun h => by
            have h2 := h.2.1 (l.getD k 0) (by have := HN.out; simp [show k < l.length by omega])
            rw [← HX.out] at h2; omega))
          go_wp2_with fail
          go_ret2
          exact wres_no 0 HG.out (RowKit.Below.refl _ _)
        · go_wp2_with fail
          go_round
          case rel => exact ⟨k + 1, by omega, by go_num, fun j hj => by
            by_cases e : j = k
            · rw [e, ← HX.out]; omega
            · exact HP.out j (by omega)⟩
          case measure => simp [intOf]; omega
      · obtain rfl : k = n := by omega
        have hall : ∀ x ∈ l, 0 ≤ x := all_of fun j hj => HP.out j (by have := HN.out; omega)
        have HA := Lib.hid hall
        clear hall HP
        rcases HI.out with h | ⟨b, off, ha, hb, hc⟩
        · have h0 : k = 0 := by have := HN.out; rw [h] at this; simpa using this
          have HG := Lib.hid (good_no (l := l) (fun g => by rw [h] at g; simp at g))
          have hlt0 : ¬ (0 : Int) < 0 := by omega
          clear h hlt hk hz hlen h1
          subst h0
          go_wp2_with fail
          refine (sum_0 a cap _).mono ?_
          rintro e w1 ⟨rfl, b1⟩
          go_wp2_with fail
          go_ret2
          exact wres_no 0 HG.out b1
        · subst ha
          have K := sum_c b off k cap l w hb (by rw [← HN.out]; exact Nat.le_refl _) (by omega) HR.out hc
          rw [HN.out, List.take_length] at K
          rw [← HN.out] at K
          have KH := Lib.hid K
          clear K hc
          obtain ⟨s, hs⟩ : ∃ s, s = l.sum := ⟨_, rfl⟩
          rw [← hs] at KH
          have HS := Lib.hid hs
          clear hs
          have hs0 : 0 ≤ s := by
            rw [HS.out]
            have h1 := sm_list l l.length (Nat.le_refl _)
            rw [List.take_length] at h1
            rw [← h1]
            exact sm_nonneg fun j hj => by
              have := HA.out (l.getD j 0) (by simp [hj])
              exact this
          by_cases hbig : 9223372036854775807 < s
          · have E := ok_out (n := s) (Or.inr hbig)
            have HG := Lib.hid (good_no (l := l) (fun g => by rw [← HS.out] at g; omega))
            have EH := Lib.hid E
            clear E hbig hs0
            go_wp2_with fail
            refine KH.out.mono ?_
            rintro e w1 ⟨rfl, b1⟩
            rw [EH.out.1, EH.out.2]
            go_wp2_with fail
            go_ret2
            exact wres_no 0 HG.out b1
          · have E := ok_in (n := s) (by omega) (by omega)
            have EH := Lib.hid E
            clear E hbig
            by_cases g1 : 0 < s
            · by_cases g2 : s < 4611686018427387904
              · have HG := Lib.hid ((good_iff l).2 ⟨by rw [← HN.out]; omega, HA.out, by rw [← HS.out]; exact g1, by rw [← HS.out]; exact g2⟩)
                go_wp2_with fail
                refine KH.out.mono ?_
                rintro e w1 ⟨rfl, b1⟩
                rw [EH.out.1, EH.out.2]
                go_wp2_with fail
                go_ret2
                exact wres_yes HG.out HS.out b1
              · have HG := Lib.hid (good_no (l := l) (fun g => by rw [← HS.out] at g; omega))
                have g2' : decide (s < 4611686018427387904) = false := decide_eq_false g2
                go_wp2_with fail
                refine KH.out.mono ?_
                rintro e w1 ⟨rfl, b1⟩
                rw [EH.out.1, EH.out.2]
                go_wp2_with fail
                go_ret2
                exact wres_no s HG.out b1
            · have HG := Lib.hid (good_no (l := l) (fun g => by rw [← HS.out] at g; omega))
              have s0 : s = 0 := by omega
              clear g1 hs0
              subst s0
              go_wp2_with fail
              refine KH.out.mono ?_
              rintro e w1 ⟨rfl, b1⟩
              rw [EH.out.1, EH.out.2]
              go_wp2_with fail
              go_ret2
              exact wres_no 0 HG.out b1
/-- The test of two shares. -/
def Gr (W : World) (v : Value) (e : Ending) (w' : World) : Prop := e = .returned v ∧ ∃ q os, w' = grow (W.drewN q) os
theorem grown (W : World) (o : Obj) : W.alloc o = grow (W.drewN 0) #[o] := alloc_eq_grow W o
set_option maxRecDepth 100000 in
set_option maxHeartbeats 1600000 in
theorem gt_c (x y : Sh) (W : World) (b : Bool) (hb : decide (y.2.2 < x.2.2) = b) : Calls Try.prog 20 #[.agg (enc x).toArray, .agg (enc y).toArray] W (Gr W (.bool b)) := by
  obtain ⟨x1, x2, x3⟩ := x
  obtain ⟨y1, y2, y3⟩ := y
  unfold enc
  cases b with
  | true =>
    have h : y3 < x3 := of_decide_eq_true hb
    clear hb
    go_enter Try.func20, Try.ntmps20
    go_wp2_with fail
    go_ret
    exact ⟨rfl, 0, _, by rw [alloc_eq_grow, alloc_eq_grow, grow_grow]; rfl⟩
  | false =>
    have h : ¬ y3 < x3 := of_decide_eq_false hb
    clear hb
    go_enter Try.func20, Try.ntmps20
    go_wp2_with fail
    go_ret
    exact ⟨rfl, 0, _, by rw [alloc_eq_grow, alloc_eq_grow, grow_grow]; rfl⟩
/-- Their order, as the closure tells it. -/
theorem Gr.trans {W w1 w2 : World} {v : Value} {e : Ending} (q : Nat) (os : Array Obj) (h1 : w1 = grow (W.drewN q) os) (h2 : Gr w1 v e w2) : Gr W v e w2 := by
  obtain ⟨he, q2, os2, rfl⟩ := h2
  exact ⟨he, q + q2, os ++ os2, by rw [h1]; show grow (grow ((W.drewN q).drewN q2) os) os2 = _; rw [grow_grow, World.drewN_drewN]⟩
set_option maxRecDepth 100000 in
set_option maxHeartbeats 1600000 in
theorem cmp_c (x y : Sh) (W : World) (c : Nat) (hc : W.cell? ⟨c, 0, none⟩ = some (.func (.func 20) #[] #[])) (hb : c < W.heap.size) :
    Calls Try.prog 31 (#[.agg (enc x).toArray, .agg (enc y).toArray] ++ #[.pointer (some ⟨c, 0, none⟩)]) W (Gr W (.int .i64 (cf x y))) := by
  have K := Lib.hid gt_c
  obtain ⟨x1, x2, x3⟩ := x
  obtain ⟨y1, y2, y3⟩ := y
  have e1 : (#[Value.agg (enc (x1, x2, x3)).toArray, Value.agg (enc (y1, y2, y3)).toArray] ++ #[Value.pointer (some ⟨c, 0, none⟩)]) = #[Value.agg #[.int .i64 x1, .int .i64 x2, .int .i64 x3], Value.agg #[.int .i64 y1, .int .i64 y2, .int .i64 y3], Value.pointer (some ⟨c, 0, none⟩)] := rfl
  rw [e1]
  clear e1
  have hcA : ((W.alloc (.cells #[.int .i64 x1, .int .i64 x2, .int .i64 x3] 44)).alloc (.cells #[.int .i64 y1, .int .i64 y2, .int .i64 y3] 44)).cell? ⟨c, 0, none⟩ = some (.func (.func 20) #[] #[]) := by
    rw [World.cell?_alloc_past _ _ _ (by simp; omega), World.cell?_alloc_past _ _ _ hb]; exact hc
  have HA := Lib.hid hcA
  clear hcA
  by_cases h : y3 < x3
  · have HC : Hid (cf (x1, x2, x3) (y1, y2, y3) = -1) := by show cf _ _ = -1; unfold cf; rw [if_pos h]
    go_enter Try.func31, Try.ntmps31
    go_wp2_with fail
    refine (K.out (x1, x2, x3) (y1, y2, y3) _ true (decide_eq_true h)).mono ?_
    rintro e w1 ⟨rfl, hw⟩
    go_wp2_with fail
    go_ret
    rw [HC.out]
    exact Gr.trans 0 _ (by rw [alloc_eq_grow, alloc_eq_grow, grow_grow]; rfl) ⟨rfl, hw⟩
  · have H1 : Hid (decide (y3 < x3) = false) := decide_eq_false h
    have B1 : ∀ w1 : World, (∃ q os, w1 = grow (((W.alloc (.cells #[.int .i64 x1, .int .i64 x2, .int .i64 x3] 44)).alloc (.cells #[.int .i64 y1, .int .i64 y2, .int .i64 y3] 44)).drewN q) os) →
        w1.cell? ⟨c, 0, none⟩ = some (.func (.func 20) #[] #[]) ∧
        w1.cell? ⟨W.heap.size, 0, none⟩ = some (.int .i64 x1) ∧ w1.cell? ⟨W.heap.size, 1, none⟩ = some (.int .i64 x2) ∧ w1.cell? ⟨W.heap.size, 2, none⟩ = some (.int .i64 x3) ∧
        w1.cell? ⟨W.heap.size + 1, 0, none⟩ = some (.int .i64 y1) ∧ w1.cell? ⟨W.heap.size + 1, 1, none⟩ = some (.int .i64 y2) ∧ w1.cell? ⟨W.heap.size + 1, 2, none⟩ = some (.int .i64 y3) := by
      rintro w1 ⟨q, os, rfl⟩
      refine ⟨?_, ?_, ?_, ?_, ?_, ?_, ?_⟩
      all_goals rw [cell?_grow _ _ _ (by simp; try omega), World.cell?_drewN]
      · exact HA.out
      all_goals simp [go_sem]
    have BH := Lib.hid B1
    clear B1
    have T2 : ∀ (w1 w2 : World) (v : Value) (e : Ending), (∃ q os, w1 = grow (((W.alloc (.cells #[.int .i64 x1, .int .i64 x2, .int .i64 x3] 44)).alloc (.cells #[.int .i64 y1, .int .i64 y2, .int .i64 y3] 44)).drewN q) os) → Gr w1 v e w2 → Gr W v e w2 := by
      rintro w1 w2 v e ⟨q, os, hw⟩ h2
      exact Gr.trans 0 _ (by rw [alloc_eq_grow, alloc_eq_grow, grow_grow]; rfl) (Gr.trans q os hw h2)
    have TH := Lib.hid T2
    clear T2
    by_cases h2 : x3 < y3
    · have HC : Hid (cf (x1, x2, x3) (y1, y2, y3) = 1) := by show cf _ _ = 1; unfold cf; rw [if_neg h, if_pos h2]
      go_enter Try.func31, Try.ntmps31
      go_wp2_with fail
      refine (K.out (x1, x2, x3) (y1, y2, y3) _ false H1.out).mono ?_
      rintro e w1 ⟨rfl, hw⟩
      have HW := Lib.hid hw
      clear hw
      obtain ⟨b0, b1, b2, b3, b4, b5, b6⟩ := BH.out _ HW.out
      go_wp2_with fail
      refine (K.out (y1, y2, y3) (x1, x2, x3) _ true (decide_eq_true h2)).mono ?_
      rintro e w2 ⟨rfl, hw2⟩
      go_wp2_with fail
      go_ret
      rw [HC.out]
      exact TH.out _ _ _ _ HW.out ⟨rfl, hw2⟩
    · have H2 : Hid (decide (x3 < y3) = false) := decide_eq_false h2
      have HC : Hid (cf (x1, x2, x3) (y1, y2, y3) = 0) := by show cf _ _ = 0; unfold cf; rw [if_neg h, if_neg h2]
      go_enter Try.func31, Try.ntmps31
      go_wp2_with fail
      refine (K.out (x1, x2, x3) (y1, y2, y3) _ false H1.out).mono ?_
      rintro e w1 ⟨rfl, hw⟩
      have HW := Lib.hid hw
      clear hw
      obtain ⟨b0, b1, b2, b3, b4, b5, b6⟩ := BH.out _ HW.out
      go_wp2_with fail
      refine (K.out (y1, y2, y3) (x1, x2, x3) _ false H2.out).mono ?_
      rintro e w2 ⟨rfl, hw2⟩
      go_wp2_with fail
      go_ret
      rw [HC.out]
      exact TH.out _ _ _ _ HW.out ⟨rfl, hw2⟩
theorem eg31 (args : Array Value) (w : World) : (callFunc 31 args).run Try.prog w = .ok (.enter 31 args) w := enters_of Try.func31 (by kernel_rfl) rfl args w
theorem cmpLays (blk off size c : Nat) (w : World) (hc : w.cell? ⟨c, 0, none⟩ = some (.func (.func 20) #[] #[])) (hb : c < w.heap.size) (hne : c ≠ blk) :
    CmpLays Try.prog 31 #[.pointer (some ⟨c, 0, none⟩)] enc 3 cf blk off size w := fun m os dk _ x y => by
  have h1 : (sortWorldK enc 3 w blk off m dk os).cell? ⟨c, 0, none⟩ = some (.func (.func 20) #[] #[]) := by
    unfold sortWorldK
    rw [cell?_grow _ _ _ (by rw [size_putRowK]; exact hb), cell?_putRowK_other _ _ _ _ _ _ _ hne]
    exact hc
  exact cmp_c x y _ c h1 (Nat.lt_of_lt_of_le hb (size_sortWorldK_c enc 3 w blk off m dk os))
/-- All blocks but one are as they were. -/
structure Spares (blk : Nat) (w w' : World) : Prop where
  os : w'.os = w.os
  tape : w'.tape = w.tape
  output : w'.output = w.output
  size : w.heap.size ≤ w'.heap.size
  block : ∀ k, k ≠ blk → k < w.heap.size → w'.heap[k]? = w.heap[k]?
theorem Spares.below {blk B : Nat} {w w' : World} (h : Spares blk w w') (h1 : B ≤ blk) (h2 : B ≤ w.heap.size) : RowKit.Below B w w' :=
  ⟨h.os, h.tape, h.output, h.size, fun k hk => h.block k (by omega) (by omega)⟩
theorem Spares.cell {blk : Nat} {w w' : World} (h : Spares blk w w') {a : Addr} (h1 : a.block ≠ blk) (h2 : a.block < w.heap.size) : w'.cell? a = w.cell? a := World.cell?_of_block (h.block _ h1 h2)
theorem Spares.frozen {blk : Nat} {w w' : World} (h : Spares blk w w') {a : Addr} (h1 : a.block ≠ blk) (h2 : a.block < w.heap.size) : w'.frozen? a = w.frozen? a := World.frozen?_of_block (h.block _ h1 h2)
theorem swk_spares {α : Type} [Inhabited α] {enc : α → List Value} {k : Nat} {w W : World} {blk off : Nat} {d : Array α} (S : SWK enc k w blk off d W) : Spares blk w W := by
  obtain ⟨n, os, rfl⟩ := S
  refine ⟨rfl, rfl, rfl, ?_, fun j h1 h2 => ?_⟩
  · unfold sortWorldK; rw [size_grow, size_putRowK]; show w.heap.size ≤ w.heap.size + _; omega
  · unfold sortWorldK
    rw [heap_grow_old _ _ (by rw [size_putRowK]; exact h2)]
    show (w.heap.modify blk _)[j]? = _
    rw [Array.getElem?_modify, if_neg (fun e => h1 e.symm)]
/-- What the order leaves: a row that is sorted; all else as it was. -/
structure Ordered (T A : Int) (l : List Int) (blk off : Nat) (w w' : World) (d : Array Sh) : Prop where
  srt : Sorted T A l d
  holds : HoldsK enc 3 w' blk off d
  spares : Spares blk w w'
set_option maxRecDepth 100000 in
set_option maxHeartbeats 1600000 in
theorem ordered_c (T A : Int) (l : List Int) (blk off cap : Nat) (w : World) (hH : HoldsK enc 3 w blk off (shs T A l l.length)) (hblk : blk < w.heap.size) (hlen : l.length < 4611686018427387904) :
    Calls Try.prog 19 #[.slice (some ⟨blk, off, none⟩) l.length cap, .func (.func 20) #[] #[]] w fun e w' => e = .returned (.slice (some ⟨blk, off, none⟩) l.length cap) ∧ ∃ d, Hid (Ordered T A l blk off w w' d) := by
  have hmf := makeF
  have h0 : HoldsK enc 3 (w.alloc (.cells #[.func (.func 20) #[] #[]] 47)) blk off (shs T A l l.length) := by
    rw [alloc_eq_grow]; exact holdsK_grow enc 3 w _ blk off _ hblk hH
  have hc : (w.alloc (.cells #[.func (.func 20) #[] #[]] 47)).cell? ⟨w.heap.size, 0, none⟩ = some (.func (.func 20) #[] #[]) := by simp [go_sem]
  have R : RowK enc 3 (w.alloc (.cells #[.func (.func 20) #[] #[]] 47)) blk off (shs T A l l.length) :=
    ⟨fun _ => rfl, fun x v hv => by simp [enc] at hv; rcases hv with rfl | rfl | rfl <;> rfl, h0, by simp; omega⟩
  have K := sortstable_c enc 3 rfl cf 31 #[.pointer (some ⟨w.heap.size, 0, none⟩)] blk off cap (shs T A l l.length) _ R eg31 (cmpLays blk off _ w.heap.size _ hc (by simp) (by omega)) bf bf_trans (by rw [shs_size]; exact fair T A l l.length) (by rw [shs_size]; exact hlen)
  rw [shs_size] at K
  have KH := Lib.hid K
  have RH := Lib.hid R
  clear K R h0 hc hH
  obtain ⟨n, hn⟩ : ∃ n, n = l.length := ⟨_, rfl⟩
  rw [← hn] at KH hlen ⊢
  have HN := Lib.hid hn
  clear hn
  go_enter Try.func19, Try.ntmps19
  go_wp2_with fail
  refine KH.out.mono ?_
  rintro e w1 ⟨rfl, d, P1, S1, W1⟩
  go_wp2_with fail
  go_ret
  have hs : d.size = (shs T A l l.length).size := by have := P1.out.1; rwa [HN.out] at this
  have P2 := P1.out
  have S2 := S1.out
  rw [HN.out] at P2 S2
  have hb := ((RowKit.Below.refl w.heap.size w).alloc (Nat.le_refl _) (.cells #[.func (.func 20) #[] #[]] 47))
  refine ⟨rfl, d, ?_⟩
  refine ⟨⟨P2, S2⟩, W1.out.holds RH.out.hblk RH.out.hH hs, ?_⟩
  have sp := swk_spares W1.out
  exact ⟨sp.os, sp.tape, sp.output, Nat.le_trans hb.size sp.size, fun k h1 h2 => (sp.block k h1 (Nat.lt_of_lt_of_le h2 hb.size)).trans (hb.block k h2)⟩
end Go.Proofs.Ytinfjfjheimceaa.Sp
