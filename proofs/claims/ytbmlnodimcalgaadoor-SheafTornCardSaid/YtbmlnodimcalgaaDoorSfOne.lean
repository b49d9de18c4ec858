/- Package quittancelaw04: is what sectors begin with of one that was written? -/
import Derived.Test.YtbmlnodimcalgaaDoorSfTorn0
import Derived.Test.YtbmlnodimcalgaaDoorSfBack
namespace Go.Proofs.YtbmlnodimcalgaaDoor.Shf
open Go.RowKit Tal Rf
/-- A writing's cells. -/
def wrC (y : Sf.Wr) : List Value := [.int .i64 (y.f : Int), .int .i64 (y.leaves.length : Int), .int .u64 (y.st : Int), .string ⟨y.s.toArray⟩]
def wrs (W : List Sf.Wr) : List Value := W.flatMap wrC
theorem wrs_snoc (W : List Sf.Wr) (y : Sf.Wr) : wrs (W ++ [y]) = wrs W ++ wrC y := by simp [wrs]
theorem wrs_len (W : List Sf.Wr) : (wrs W).length = W.length * 4 := by
  induction W with
  | nil => rfl
  | cons y W ih =>
    have e : wrs (y :: W) = wrC y ++ wrs W := rfl
    rw [e, List.length_append, ih]
    simp [wrC]; omega
theorem wrs_get (W : List Sf.Wr) : ∀ (i j : Nat) (hi : i < W.length), j < 4 → (wrs W)[i * 4 + j]? = (wrC W[i])[j]? := by
  induction W with
  | nil => intro i j hi; simp at hi
  | cons y W ih =>
    intro i j hi hj
    have e : wrs (y :: W) = wrC y ++ wrs W := rfl
    have h4 : (wrC y).length = 4 := rfl
    rw [e]
    cases i with
    | zero =>
      rw [List.getElem?_append_left (by rw [h4]; omega)]
      simp
    | succ i =>
      rw [List.getElem?_append_right (by rw [h4]; omega), h4, show (i + 1) * 4 + j - 4 = i * 4 + j by omega, ih i j (by simpa using hi) hj]
      simp
structure WrAt (w : World) (g : Nat) (W : List Sf.Wr) : Prop where
  lt : g < w.heap.size
  c : ∀ i (h : i < W.length), w.cell? ⟨g, i * 4, none⟩ = some (.int .i64 (W[i].f : Int)) ∧ w.cell? ⟨g, i * 4 + 1, none⟩ = some (.int .i64 (W[i].leaves.length : Int)) ∧ w.cell? ⟨g, i * 4 + 2, none⟩ = some (.int .u64 (W[i].st : Int)) ∧ w.cell? ⟨g, i * 4 + 3, none⟩ = some (.string ⟨W[i].s.toArray⟩)
theorem wrAt_own {w : World} {base g cap n t : Nat} {W : List Sf.Wr} (h : w.ownsRow base t 4 (.slice (some ⟨g, 0, none⟩) n cap) n (wrs W)) : WrAt w g W := by
  obtain ⟨h1, h2⟩ := own_cell h
  refine ⟨h1, fun i hi => ⟨h2 _ _ ?_, h2 _ _ ?_, h2 _ _ ?_, h2 _ _ ?_⟩⟩
  · exact wrs_get W i 0 hi (by omega)
  · exact wrs_get W i 1 hi (by omega)
  · exact wrs_get W i 2 hi (by omega)
  · exact wrs_get W i 3 hi (by omega)
theorem WrAt.later {w w' : World} {g : Nat} {W : List Sf.Wr} (h : WrAt w g W) (hb : Below w.heap.size w w') : WrAt w' g W :=
  ⟨Nat.lt_of_lt_of_le h.lt hb.size, fun i hi => by
    obtain ⟨a, b, c, d⟩ := h.c i hi
    exact ⟨(hb.cell (p := ⟨g, _, none⟩) h.lt).trans a, (hb.cell (p := ⟨g, _, none⟩) h.lt).trans b, (hb.cell (p := ⟨g, _, none⟩) h.lt).trans c, (hb.cell (p := ⟨g, _, none⟩) h.lt).trans d⟩⟩
def Fits1 (k n m : Nat) (s : List UInt8) (y : Sf.Wr) : Prop := y.st = n ∧ y.f ≤ k ∧ k + m ≤ y.f + y.leaves.length ∧ (k = y.f → s = y.s)
set_option maxRecDepth 100000 in
set_option maxHeartbeats 1600000 in
theorem one_c (W : List Sf.Wr) (w : World) (g cap k n m : Nat) (s : List UInt8) (hW : WrAt w g W) (hk : k ≤ 12) (hm : m ≤ 12) (hlen : W.length ≤ 1000) (hy : ∀ y ∈ W, y.f ≤ 12 ∧ y.leaves.length ≤ 12) (hex : ∃ y ∈ W, Fits1 k n m s y) :
    Calls Tryd.prog 18 #[.slice (some ⟨g, 0, none⟩) W.length cap, .int .i64 (k : Int), .int .u64 (n : Int), .string ⟨s.toArray⟩, .int .i64 (m : Int)] w fun e w' => e = .returned (.bool true) ∧ Below w.heap.size w w' := by
  have HW := Lib.hid hW
  have HY := Lib.hid hy
  have HEX := Lib.hid hex
  obtain ⟨E, hE⟩ : ∃ E : ByteArray, (⟨s.toArray⟩ : ByteArray) = E := ⟨_, rfl⟩
  have HE := Lib.hid hE
  rw [hE]
  clear hW hy hex hE
  go_enter Tryd.func18, Tryd.ntmps18
  go_wp2_with fail
  go_loopw [11, 12] (fun s11 _ wr => ∃ i : Nat, i ≤ W.length ∧ s11 = .int .i64 i ∧ (∀ y ∈ W.take i, ¬ Fits1 k n m s y) ∧ Below w.heap.size w wr) (fun s11 _ _ => W.length - (intOf s11).toNat)
  case atStart => exact ⟨0, by omega, rfl, by simp, Below.refl _ _⟩
  case round =>
    obtain ⟨i, hi, rfl, hno, hB⟩ := hrel
    have HB := Lib.hid hB
    have HNO := Lib.hid hno
    clear hB hno
    by_cases hlt : i < W.length
    · have hwr := HW.out.later HB.out
      obtain ⟨d0, d1, d2, d3⟩ := hwr.c i hlt
      have gl := hwr.lt
      have hmem := List.getElem_mem hlt
      obtain ⟨y1, y2⟩ := HY.out _ hmem
      have hnext := List.take_succ_eq_append_getElem hlt
      obtain ⟨y, hyy⟩ : ∃ y, W[i] = y := ⟨_, rfl⟩
      rw [hyy] at d0 d1 d2 d3 y1 y2 hnext
      have HNX := Lib.hid hnext
      obtain ⟨F, hF⟩ : ∃ F : ByteArray, (⟨y.s.toArray⟩ : ByteArray) = F := ⟨_, rfl⟩
      rw [hF] at d3
      have HF := Lib.hid hF
      have HFT := Lib.hid (show Fits1 k n m s y ↔ y.st = n ∧ y.f ≤ k ∧ k + m ≤ y.f + y.leaves.length ∧ (k = y.f → s = y.s) from Iff.rfl)
      obtain ⟨yl, hyl⟩ : ∃ yl, y.leaves.length = yl := ⟨_, rfl⟩
      obtain ⟨yf, hyf⟩ : ∃ yf, y.f = yf := ⟨_, rfl⟩
      obtain ⟨ys, hys⟩ : ∃ ys, y.st = ys := ⟨_, rfl⟩
      rw [hyl] at d1 y2 HFT
      rw [hyf] at d0 y1 HFT
      rw [hys] at d2 HFT
      have q0 : (0 : Int) ≤ (i : Int) := by omega
      have q1 : (i : Int) < (W.length : Int) := by omega
      clear hwr hmem hnext hyy hF hyl hyf hys
      have hstr : (E.toList == F.toList) = true ∨ ((E.toList == F.toList) = false ∧ s ≠ y.s) := by
        rw [ByteArray.toList_eq, ByteArray.toList_eq, ← HE.out, ← HF.out]
        show (s == y.s) = true ∨ ((s == y.s) = false ∧ s ≠ y.s)
        by_cases h : s = y.s
        · left; exact beq_iff_eq.2 h
        · right; exact ⟨beq_eq_false_iff_ne.2 h, h⟩
      by_cases a1 : ys = n
      · have b1 : ((ys : Int) == (n : Int)) = true := beq_iff_eq.2 (by omega)
        by_cases a2 : yf ≤ k
        · have b2 : (yf : Int) ≤ (k : Int) := by omega
          by_cases a3 : k + m ≤ yf + yl
          · have b3 : (k : Int) + (m : Int) ≤ (yf : Int) + (yl : Int) := by omega
            by_cases a4 : k = yf
            · have b4 : ((k : Int) != (yf : Int)) = false := by simp; omega
              rcases hstr with h5 | ⟨h5, h6⟩
              · clear a1 a2 a3 a4
                go_wp2_with fail
                go_ret
                exact ⟨rfl, HB.out.alloc HB.out.size _⟩
              · have H6 := Lib.hid h6
                have HA4 := Lib.hid a4
                clear h6 a4
                have HN := Lib.hid (show ¬ Fits1 k n m s y from fun h => by have := HFT.out.1 h; exact H6.out (this.2.2.2 HA4.out))
                have HNN := Lib.hid (show ∀ z ∈ W.take (i + 1), ¬ Fits1 k n m s z by
                  rw [HNX.out]
                  intro z hz
                  rcases List.mem_append.1 hz with h | h
                  · exact HNO.out z h
                  · rw [List.mem_singleton.1 h]; exact HN.out)
                clear a1 a2 a3
                go_wp2_with fail
                exact ⟨⟨i + 1, by omega, by simp, HNN.out, HB.out.alloc HB.out.size _⟩, by simp [intOf]; omega⟩
            · have b4 : ((k : Int) != (yf : Int)) = true := by simp; omega
              clear hstr a1 a2 a3 a4
              go_wp2_with fail
              go_ret
              exact ⟨rfl, HB.out.alloc HB.out.size _⟩
          · have b3 : (yf : Int) + (yl : Int) < (k : Int) + (m : Int) := by omega
            clear hstr
            have HN := Lib.hid (show ¬ Fits1 k n m s y from fun h => by have := HFT.out.1 h; omega)
            have HNN := Lib.hid (show ∀ z ∈ W.take (i + 1), ¬ Fits1 k n m s z by
              rw [HNX.out]
              intro z hz
              rcases List.mem_append.1 hz with h | h
              · exact HNO.out z h
              · rw [List.mem_singleton.1 h]; exact HN.out)
            clear a1 a2 a3
            go_wp2_with fail
            exact ⟨⟨i + 1, by omega, by simp, HNN.out, HB.out.alloc HB.out.size _⟩, by simp [intOf]; omega⟩
        · have b2 : (k : Int) < (yf : Int) := by omega
          clear hstr
          have HN := Lib.hid (show ¬ Fits1 k n m s y from fun h => by have := HFT.out.1 h; omega)
          have HNN := Lib.hid (show ∀ z ∈ W.take (i + 1), ¬ Fits1 k n m s z by
            rw [HNX.out]
            intro z hz
            rcases List.mem_append.1 hz with h | h
            · exact HNO.out z h
            · rw [List.mem_singleton.1 h]; exact HN.out)
          clear a1 a2
          go_wp2_with fail
          exact ⟨⟨i + 1, by omega, by simp, HNN.out, HB.out.alloc HB.out.size _⟩, by simp [intOf]; omega⟩
      · have b1 : ((ys : Int) == (n : Int)) = false := beq_eq_false_iff_ne.2 (by omega)
        clear hstr
        have HN := Lib.hid (show ¬ Fits1 k n m s y from fun h => by have := HFT.out.1 h; omega)
        have HNN := Lib.hid (show ∀ z ∈ W.take (i + 1), ¬ Fits1 k n m s z by
          rw [HNX.out]
          intro z hz
          rcases List.mem_append.1 hz with h | h
          · exact HNO.out z h
          · rw [List.mem_singleton.1 h]; exact HN.out)
        clear a1
        go_wp2_with fail
        exact ⟨⟨i + 1, by omega, by simp, HNN.out, HB.out.alloc HB.out.size _⟩, by simp [intOf]; omega⟩
    · obtain rfl : i = W.length := by omega
      obtain ⟨y, hy, hf⟩ := HEX.out
      exact absurd hf (HNO.out y (by rw [List.take_length]; exact hy))
end Go.Proofs.YtbmlnodimcalgaaDoor.Shf
