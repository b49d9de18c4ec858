/- Package drive: what is sure behind a sync. -/
import Derived.Test.YthoafaaemikiaaaDvSure0
import Derived.OwnWalk
namespace Go.Proofs.Ythoafaaemikiaaa.Dv
open Go Go.RowKit Rf
theorem bytes_ext : ∀ {a b : ByteArray}, a.data.toList = b.data.toList → a = b
  | ⟨_⟩, ⟨_⟩, h => congrArg ByteArray.mk (Array.toList_inj.1 h)
theorem e0_lw : Lw e0 0 := ⟨ok0, rfl, Nat.le_refl _, rfl⟩
set_option maxRecDepth 100000 in
set_option maxHeartbeats 8000000 in
theorem sure_law (a1 : Option Addr) (cap1 : Nat) (la : List Ac) (a2 : Option Addr) (cap2 : Nat) (lm : List Ac) (c : Cr) (w : World) (h1 : Acs w a1 la) (h2 : Acs w a2 lm) (_l1 : la.length ≤ maxLen) (_l2 : lm.length ≤ maxLen) (f1 : ∀ x ∈ la, x.Fits) (f2 : ∀ x ∈ lm, x.Fits) (hc : c.Fits) :
    Calls Try.prog 4 #[.slice a1 la.length cap1, .slice a2 lm.length cap2, c.val] w fun e w' => e = .returned (.bool true) ∧ Below w.heap.size w w' := by
  unfold maxLen at _l1 _l2
  have KN := Lib.hid (show ∀ u, Calls Try.prog 6 #[.int .i64 8] u (NewOs e0 u) from fun u => os_new 8 (by decide) (by decide) u)
  have HC := Lib.hid hc
  have HF1 := Lib.hid f1
  have HF2 := Lib.hid f2
  have hb0 : Below w.heap.size w (w.alloc (.cells #[.int .u64 (c.keep : Int), .int .i64 c.torn, .int .i64 c.at'] 33)) := (Below.refl _ w).alloc (Nat.le_refl _) _
  have A1 := Lib.hid (h1.later hb0)
  have A2 := Lib.hid (h2.later hb0)
  have Q1 := Lib.hid (show Rw (w.alloc (.cells #[.int .u64 (c.keep : Int), .int .i64 c.torn, .int .i64 c.at'] 33)) w.heap.size 33 c.cells from Rw.new w c.cells 33)
  have HB0 := Lib.hid hb0
  have z0 : w.heap.size < (w.alloc (.cells #[.int .u64 (c.keep : Int), .int .i64 c.torn, .int .i64 c.at'] 33)).heap.size := by simp
  have Z0 := Lib.hid z0
  clear h1 h2 f1 f2 hc hb0 z0
  go_enter Try.func4, Try.ntmps4
  unfold Cr.val Cr.cells
  go_wp2_with fail
  obtain ⟨q, hq⟩ : ∃ q, w.heap.size = q := ⟨_, rfl⟩
  obtain ⟨W1, hW1⟩ : ∃ W1, w.alloc (.cells #[.int .u64 (c.keep : Int), .int .i64 c.torn, .int .i64 c.at'] 33) = W1 := ⟨_, rfl⟩
  rw [hW1] at A1 A2 Q1 HB0 Z0 ⊢
  rw [hq] at Q1 Z0 ⊢
  have HQ := Lib.hid hq
  clear hW1 hq
  refine (KN.out _).mono ?_
  rintro e w1 ⟨g, rfl, h1, b1⟩
  have D1 := Lib.hid h1
  have B1 := Lib.hid b1
  clear h1 b1
  have BB1 := Lib.hid (HB0.out.trans (B1.out.mono HB0.out.size))
  by_cases hla : 20 < la.length
  · have h20 : (20 : Int) < (la.length : Int) := by omega
    go_wp2_with fail
    refine (head_c _).mono ?_
    rintro e w2 ⟨rfl, b2⟩
    go_wp2_with fail
    go_ret
    exact ⟨rfl, BB1.out.trans (b2.mono BB1.out.size)⟩
  have h20 : ¬ (20 : Int) < (la.length : Int) := by omega
  by_cases hlm : 20 < lm.length
  · have h21 : (20 : Int) < (lm.length : Int) := by omega
    go_wp2_with fail
    refine (head_c _).mono ?_
    rintro e w2 ⟨rfl, b2⟩
    go_wp2_with fail
    go_ret
    exact ⟨rfl, BB1.out.trans (b2.mono BB1.out.size)⟩
  have h21 : ¬ (20 : Int) < (lm.length : Int) := by omega
  go_wp2_with fail
  clear h20 h21 BB1
  go_loopw [9] (fun i wr => ∃ (j : Nat) (x : Dr), i = .int .i64 (j : Int) ∧ j ≤ la.length ∧ Lw x j ∧ Os (fun j => W1.heap.size ≤ j) wr g x ∧ Below W1.heap.size W1 wr) (fun i _ => la.length - (intOf i).toNat)
  case atStart => exact ⟨0, e0, rfl, Nat.zero_le _, e0_lw, D1.out, B1.out⟩
  case round =>
    obtain ⟨j, x, rfl, hj, hf, ho, hb⟩ := hrel
    have HX := Lib.hid hf
    have HO := Lib.hid ho
    have HB := Lib.hid hb
    clear hf ho hb D1 B1
    by_cases hlt : j < la.length
    · obtain ⟨y, hy⟩ : ∃ y, la[j] = y := ⟨_, rfl⟩
      obtain ⟨ab, ao, rfl, hab, hcs⟩ := A1.out j hlt
      have hyf := HF1.out la[j] (List.getElem_mem hlt)
      rw [hy] at hcs hyf
      have HC1 := Lib.hid (show ∀ u, Below W1.heap.size W1 u → u.cell? ⟨ab, ao + j * 6 + 1, none⟩ = some (.int .i64 y.n) from fun u hb => by rw [hb.cell (by simpa using hab)]; exact hcs 1 _ rfl)
      have HC2 := Lib.hid (show ∀ u, Below W1.heap.size W1 u → u.cell? ⟨ab, ao + j * 6 + 2, none⟩ = some (.string y.s) from fun u hb => by rw [hb.cell (by simpa using hab)]; exact hcs 2 _ rfl)
      have hju : (j : Int) < (la.length : Int) := by omega
      have hj0 : (0 : Int) ≤ (j : Int) := by omega
      have hys := hyf.s
      obtain ⟨y1, z, hw, hl⟩ := lw_write HX.out y.n y.s.data.toList
      have KW := Lib.hid (os_write (HO.out.later ((Below.refl _ wr).drew)) HX.out.ok (by have := HX.out.p; omega) y.n y.s hys z hw)
      have HLW := Lib.hid hl
      have HBD := Lib.hid (show Below W1.heap.size W1 wr.drew from HB.out.trans ((Below.refl _ wr).drew))
      have HBE := Lib.hid (show ∀ u5, After (fun j => W1.heap.size ≤ j) wr.drew g y1 u5 → Below W1.heap.size W1 u5 from fun u5 h5 => HBD.out.trans (h5.2.below (fun _ h => h) HBD.out.size))
      clear hcs hyf hy hw hl hys hab
      go_upto_region 7 with (fail)
      refine wp_region_inv (I := (fun A0 L a u => ∃ (x0 x1 x2 x3 x4 x5 x6 x7 x8 x9 x10 x11 : Value), a = putAll A0 [(52, x0), (53, x1), (54, x2), (55, x3), (56, x4), (57, x5), (58, x6), (59, x7), (60, x8), (61, x9), (62, x10), (63, x11)] ∧ (L 0 = true → x0 = (.pointer (some ⟨g, 0, Option.none⟩))) ∧ (L 1 = true → x1 = (.slice (some ⟨ab, ao, Option.none⟩) la.length cap1)) ∧ (L 2 = true → x2 = (.int .i64 (j : Int))) ∧ (L 3 = true → x3 = (.pointer (some ⟨ab, ao + j * 6, Option.none⟩))) ∧ (L 4 = true → x4 = (.pointer (some ⟨ab, ao + j * 6 + 1, Option.none⟩))) ∧ (L 5 = true → x5 = (.int .i64 y.n)) ∧ (L 6 = true → x6 = (.slice (some ⟨ab, ao, Option.none⟩) la.length cap1)) ∧ (L 7 = true → x7 = (.int .i64 (j : Int))) ∧ (L 8 = true → x8 = (.pointer (some ⟨ab, ao + j * 6, Option.none⟩))) ∧ (L 9 = true → x9 = (.pointer (some ⟨ab, ao + j * 6 + 2, Option.none⟩))) ∧ (L 10 = true → x10 = (.string y.s)) ∧ (L 11 = true → x11 = (.int .i64 z)) ∧ (Below W1.heap.size W1 u ∧ ((L 11 = false ∧ u = wr.drew) ∨ (L 11 = true ∧ After (fun j => W1.heap.size ≤ j) wr.drew g y1 u))))) (by kernel_rfl) (by kernel_rfl) ?_ ?_ ?_
      · intro L hL
        exact ⟨_, _, _, _, _, _, _, _, _, _, _, _, by (simp only [putAll, Act.put, List.setIfInBounds_toArray, List.set_cons_zero, List.set_cons_succ]; rfl), (fun h => absurd h (by rw [hL 0 (by decide)]; decide)), (fun h => absurd h (by rw [hL 1 (by decide)]; decide)), (fun h => absurd h (by rw [hL 2 (by decide)]; decide)), (fun h => absurd h (by rw [hL 3 (by decide)]; decide)), (fun h => absurd h (by rw [hL 4 (by decide)]; decide)), (fun h => absurd h (by rw [hL 5 (by decide)]; decide)), (fun h => absurd h (by rw [hL 6 (by decide)]; decide)), (fun h => absurd h (by rw [hL 7 (by decide)]; decide)), (fun h => absurd h (by rw [hL 8 (by decide)]; decide)), (fun h => absurd h (by rw [hL 9 (by decide)]; decide)), (fun h => absurd h (by rw [hL 10 (by decide)]; decide)), (fun h => absurd h (by rw [hL 11 (by decide)]; decide)), ⟨HBD.out, .inl ⟨hL 11 (by decide), rfl⟩⟩⟩
      refine Steps.cons (i := 0) rfl ?_ ?_
      · rintro L a u ⟨x0, x1, x2, x3, x4, x5, x6, x7, x8, x9, x10, x11, rfl, h0, h1, h2, h3, h4, h5, h6, h7, h8, h9, h10, h11, hm⟩ hi hd K hK
        simp only [putAll, Act.put, List.setIfInBounds_toArray, List.set_cons_zero, List.set_cons_succ]
        (try simp [Region.binds] at hd)
        replace h0 := Lib.hid h0
        replace h1 := Lib.hid h1
        replace h2 := Lib.hid h2
        replace h3 := Lib.hid h3
        replace h4 := Lib.hid h4
        replace h5 := Lib.hid h5
        replace h6 := Lib.hid h6
        replace h7 := Lib.hid h7
        replace h8 := Lib.hid h8
        replace h9 := Lib.hid h9
        replace h10 := Lib.hid h10
        replace h11 := Lib.hid h11
        go_simp
        exact hK.out _ _ ⟨_, _, _, _, _, _, _, _, _, _, _, _, by ((simp only [putAll, Act.put, List.setIfInBounds_toArray, List.set_cons_zero, List.set_cons_succ]) <;> rfl), (fun _ => rfl), h1.out, h2.out, h3.out, h4.out, h5.out, h6.out, h7.out, h8.out, h9.out, h10.out, h11.out, hm⟩
      refine Steps.cons (i := 1) rfl ?_ ?_
      · rintro L a u ⟨x0, x1, x2, x3, x4, x5, x6, x7, x8, x9, x10, x11, rfl, h0, h1, h2, h3, h4, h5, h6, h7, h8, h9, h10, h11, hm⟩ hi hd K hK
        simp only [putAll, Act.put, List.setIfInBounds_toArray, List.set_cons_zero, List.set_cons_succ]
        (try simp [Region.binds] at hd)
        replace h0 := Lib.hid h0
        replace h1 := Lib.hid h1
        replace h2 := Lib.hid h2
        replace h3 := Lib.hid h3
        replace h4 := Lib.hid h4
        replace h5 := Lib.hid h5
        replace h6 := Lib.hid h6
        replace h7 := Lib.hid h7
        replace h8 := Lib.hid h8
        replace h9 := Lib.hid h9
        replace h10 := Lib.hid h10
        replace h11 := Lib.hid h11
        go_simp
        exact hK.out _ _ ⟨_, _, _, _, _, _, _, _, _, _, _, _, by ((simp only [putAll, Act.put, List.setIfInBounds_toArray, List.set_cons_zero, List.set_cons_succ]) <;> rfl), h0.out, (fun _ => rfl), h2.out, h3.out, h4.out, h5.out, h6.out, h7.out, h8.out, h9.out, h10.out, h11.out, hm⟩
      refine Steps.cons (i := 2) rfl ?_ ?_
      · rintro L a u ⟨x0, x1, x2, x3, x4, x5, x6, x7, x8, x9, x10, x11, rfl, h0, h1, h2, h3, h4, h5, h6, h7, h8, h9, h10, h11, hm⟩ hi hd K hK
        simp only [putAll, Act.put, List.setIfInBounds_toArray, List.set_cons_zero, List.set_cons_succ]
        (try simp [Region.binds] at hd)
        replace h0 := Lib.hid h0
        replace h1 := Lib.hid h1
        replace h2 := Lib.hid h2
        replace h3 := Lib.hid h3
        replace h4 := Lib.hid h4
        replace h5 := Lib.hid h5
        replace h6 := Lib.hid h6
        replace h7 := Lib.hid h7
        replace h8 := Lib.hid h8
        replace h9 := Lib.hid h9
        replace h10 := Lib.hid h10
        replace h11 := Lib.hid h11
        go_simp
        exact hK.out _ _ ⟨_, _, _, _, _, _, _, _, _, _, _, _, by ((simp only [putAll, Act.put, List.setIfInBounds_toArray, List.set_cons_zero, List.set_cons_succ]) <;> rfl), h0.out, h1.out, (fun _ => rfl), h3.out, h4.out, h5.out, h6.out, h7.out, h8.out, h9.out, h10.out, h11.out, hm⟩
      refine Steps.cons (i := 3) rfl ?_ ?_
      · rintro L a u ⟨x0, x1, x2, x3, x4, x5, x6, x7, x8, x9, x10, x11, rfl, h0, h1, h2, h3, h4, h5, h6, h7, h8, h9, h10, h11, hm⟩ hi hd K hK
        simp only [putAll, Act.put, List.setIfInBounds_toArray, List.set_cons_zero, List.set_cons_succ]
        (try simp [Region.binds] at hd)
        replace h0 := Lib.hid h0
        replace h1 := Lib.hid h1
        replace h2 := Lib.hid h2
        replace h3 := Lib.hid h3
        replace h4 := Lib.hid h4
        replace h5 := Lib.hid h5
        replace h6 := Lib.hid h6
        replace h7 := Lib.hid h7
        replace h8 := Lib.hid h8
        replace h9 := Lib.hid h9
        replace h10 := Lib.hid h10
        replace h11 := Lib.hid h11
        obtain rfl := (h1.out (by simp [hd])).symm
        obtain rfl := (h2.out (by simp [hd])).symm
        go_simp
        exact hK.out _ _ ⟨_, _, _, _, _, _, _, _, _, _, _, _, by ((simp only [putAll, Act.put, List.setIfInBounds_toArray, List.set_cons_zero, List.set_cons_succ]) <;> rfl), h0.out, h1.out, h2.out, (fun _ => rfl), h4.out, h5.out, h6.out, h7.out, h8.out, h9.out, h10.out, h11.out, hm⟩
      refine Steps.cons (i := 4) rfl ?_ ?_
      · rintro L a u ⟨x0, x1, x2, x3, x4, x5, x6, x7, x8, x9, x10, x11, rfl, h0, h1, h2, h3, h4, h5, h6, h7, h8, h9, h10, h11, hm⟩ hi hd K hK
        simp only [putAll, Act.put, List.setIfInBounds_toArray, List.set_cons_zero, List.set_cons_succ]
        (try simp [Region.binds] at hd)
        replace h0 := Lib.hid h0
        replace h1 := Lib.hid h1
        replace h2 := Lib.hid h2
        replace h3 := Lib.hid h3
        replace h4 := Lib.hid h4
        replace h5 := Lib.hid h5
        replace h6 := Lib.hid h6
        replace h7 := Lib.hid h7
        replace h8 := Lib.hid h8
        replace h9 := Lib.hid h9
        replace h10 := Lib.hid h10
        replace h11 := Lib.hid h11
        obtain rfl := (h3.out (by simp [hd])).symm
        go_simp
        exact hK.out _ _ ⟨_, _, _, _, _, _, _, _, _, _, _, _, by ((simp only [putAll, Act.put, List.setIfInBounds_toArray, List.set_cons_zero, List.set_cons_succ]) <;> rfl), h0.out, h1.out, h2.out, h3.out, (fun _ => rfl), h5.out, h6.out, h7.out, h8.out, h9.out, h10.out, h11.out, hm⟩
      refine Steps.cons (i := 5) rfl ?_ ?_
      · rintro L a u ⟨x0, x1, x2, x3, x4, x5, x6, x7, x8, x9, x10, x11, rfl, h0, h1, h2, h3, h4, h5, h6, h7, h8, h9, h10, h11, hm⟩ hi hd K hK
        simp only [putAll, Act.put, List.setIfInBounds_toArray, List.set_cons_zero, List.set_cons_succ]
        (try simp [Region.binds] at hd)
        replace h0 := Lib.hid h0
        replace h1 := Lib.hid h1
        replace h2 := Lib.hid h2
        replace h3 := Lib.hid h3
        replace h4 := Lib.hid h4
        replace h5 := Lib.hid h5
        replace h6 := Lib.hid h6
        replace h7 := Lib.hid h7
        replace h8 := Lib.hid h8
        replace h9 := Lib.hid h9
        replace h10 := Lib.hid h10
        replace h11 := Lib.hid h11
        obtain rfl := (h4.out (by simp [hd])).symm
        have c1 := HC1.out u hm.1
        go_simp
        exact hK.out _ _ ⟨_, _, _, _, _, _, _, _, _, _, _, _, by ((simp only [putAll, Act.put, List.setIfInBounds_toArray, List.set_cons_zero, List.set_cons_succ]) <;> rfl), h0.out, h1.out, h2.out, h3.out, h4.out, (fun _ => rfl), h6.out, h7.out, h8.out, h9.out, h10.out, h11.out, hm⟩
      refine Steps.cons (i := 6) rfl ?_ ?_
      · rintro L a u ⟨x0, x1, x2, x3, x4, x5, x6, x7, x8, x9, x10, x11, rfl, h0, h1, h2, h3, h4, h5, h6, h7, h8, h9, h10, h11, hm⟩ hi hd K hK
        simp only [putAll, Act.put, List.setIfInBounds_toArray, List.set_cons_zero, List.set_cons_succ]
        (try simp [Region.binds] at hd)
        replace h0 := Lib.hid h0
        replace h1 := Lib.hid h1
        replace h2 := Lib.hid h2
        replace h3 := Lib.hid h3
        replace h4 := Lib.hid h4
        replace h5 := Lib.hid h5
        replace h6 := Lib.hid h6
        replace h7 := Lib.hid h7
        replace h8 := Lib.hid h8
        replace h9 := Lib.hid h9
        replace h10 := Lib.hid h10
        replace h11 := Lib.hid h11
        go_simp
        exact hK.out _ _ ⟨_, _, _, _, _, _, _, _, _, _, _, _, by ((simp only [putAll, Act.put, List.setIfInBounds_toArray, List.set_cons_zero, List.set_cons_succ]) <;> rfl), h0.out, h1.out, h2.out, h3.out, h4.out, h5.out, (fun _ => rfl), h7.out, h8.out, h9.out, h10.out, h11.out, hm⟩
      refine Steps.cons (i := 7) rfl ?_ ?_
      · rintro L a u ⟨x0, x1, x2, x3, x4, x5, x6, x7, x8, x9, x10, x11, rfl, h0, h1, h2, h3, h4, h5, h6, h7, h8, h9, h10, h11, hm⟩ hi hd K hK
        simp only [putAll, Act.put, List.setIfInBounds_toArray, List.set_cons_zero, List.set_cons_succ]
        (try simp [Region.binds] at hd)
        replace h0 := Lib.hid h0
        replace h1 := Lib.hid h1
        replace h2 := Lib.hid h2
        replace h3 := Lib.hid h3
        replace h4 := Lib.hid h4
        replace h5 := Lib.hid h5
        replace h6 := Lib.hid h6
        replace h7 := Lib.hid h7
        replace h8 := Lib.hid h8
        replace h9 := Lib.hid h9
        replace h10 := Lib.hid h10
        replace h11 := Lib.hid h11
        go_simp
        exact hK.out _ _ ⟨_, _, _, _, _, _, _, _, _, _, _, _, by ((simp only [putAll, Act.put, List.setIfInBounds_toArray, List.set_cons_zero, List.set_cons_succ]) <;> rfl), h0.out, h1.out, h2.out, h3.out, h4.out, h5.out, h6.out, (fun _ => rfl), h8.out, h9.out, h10.out, h11.out, hm⟩
      refine Steps.cons (i := 8) rfl ?_ ?_
      · rintro L a u ⟨x0, x1, x2, x3, x4, x5, x6, x7, x8, x9, x10, x11, rfl, h0, h1, h2, h3, h4, h5, h6, h7, h8, h9, h10, h11, hm⟩ hi hd K hK
        simp only [putAll, Act.put, List.setIfInBounds_toArray, List.set_cons_zero, List.set_cons_succ]
        (try simp [Region.binds] at hd)
        replace h0 := Lib.hid h0
        replace h1 := Lib.hid h1
        replace h2 := Lib.hid h2
        replace h3 := Lib.hid h3
        replace h4 := Lib.hid h4
        replace h5 := Lib.hid h5
        replace h6 := Lib.hid h6
        replace h7 := Lib.hid h7
        replace h8 := Lib.hid h8
        replace h9 := Lib.hid h9
        replace h10 := Lib.hid h10
        replace h11 := Lib.hid h11
        obtain rfl := (h6.out (by simp [hd])).symm
        obtain rfl := (h7.out (by simp [hd])).symm
        go_simp
        exact hK.out _ _ ⟨_, _, _, _, _, _, _, _, _, _, _, _, by ((simp only [putAll, Act.put, List.setIfInBounds_toArray, List.set_cons_zero, List.set_cons_succ]) <;> rfl), h0.out, h1.out, h2.out, h3.out, h4.out, h5.out, h6.out, h7.out, (fun _ => rfl), h9.out, h10.out, h11.out, hm⟩
      refine Steps.cons (i := 9) rfl ?_ ?_
      · rintro L a u ⟨x0, x1, x2, x3, x4, x5, x6, x7, x8, x9, x10, x11, rfl, h0, h1, h2, h3, h4, h5, h6, h7, h8, h9, h10, h11, hm⟩ hi hd K hK
        simp only [putAll, Act.put, List.setIfInBounds_toArray, List.set_cons_zero, List.set_cons_succ]
        (try simp [Region.binds] at hd)
        replace h0 := Lib.hid h0
        replace h1 := Lib.hid h1
        replace h2 := Lib.hid h2
        replace h3 := Lib.hid h3
        replace h4 := Lib.hid h4
        replace h5 := Lib.hid h5
        replace h6 := Lib.hid h6
        replace h7 := Lib.hid h7
        replace h8 := Lib.hid h8
        replace h9 := Lib.hid h9
        replace h10 := Lib.hid h10
        replace h11 := Lib.hid h11
        obtain rfl := (h8.out (by simp [hd])).symm
        go_simp
        exact hK.out _ _ ⟨_, _, _, _, _, _, _, _, _, _, _, _, by ((simp only [putAll, Act.put, List.setIfInBounds_toArray, List.set_cons_zero, List.set_cons_succ]) <;> rfl), h0.out, h1.out, h2.out, h3.out, h4.out, h5.out, h6.out, h7.out, h8.out, (fun _ => rfl), h10.out, h11.out, hm⟩
      refine Steps.cons (i := 10) rfl ?_ ?_
      · rintro L a u ⟨x0, x1, x2, x3, x4, x5, x6, x7, x8, x9, x10, x11, rfl, h0, h1, h2, h3, h4, h5, h6, h7, h8, h9, h10, h11, hm⟩ hi hd K hK
        simp only [putAll, Act.put, List.setIfInBounds_toArray, List.set_cons_zero, List.set_cons_succ]
        (try simp [Region.binds] at hd)
        replace h0 := Lib.hid h0
        replace h1 := Lib.hid h1
        replace h2 := Lib.hid h2
        replace h3 := Lib.hid h3
        replace h4 := Lib.hid h4
        replace h5 := Lib.hid h5
        replace h6 := Lib.hid h6
        replace h7 := Lib.hid h7
        replace h8 := Lib.hid h8
        replace h9 := Lib.hid h9
        replace h10 := Lib.hid h10
        replace h11 := Lib.hid h11
        obtain rfl := (h9.out (by simp [hd])).symm
        have c2 := HC2.out u hm.1
        go_simp
        exact hK.out _ _ ⟨_, _, _, _, _, _, _, _, _, _, _, _, by ((simp only [putAll, Act.put, List.setIfInBounds_toArray, List.set_cons_zero, List.set_cons_succ]) <;> rfl), h0.out, h1.out, h2.out, h3.out, h4.out, h5.out, h6.out, h7.out, h8.out, h9.out, (fun _ => rfl), h11.out, hm⟩
      refine Steps.cons (i := 11) rfl ?_ ?_
      · rintro L a u ⟨x0, x1, x2, x3, x4, x5, x6, x7, x8, x9, x10, x11, rfl, h0, h1, h2, h3, h4, h5, h6, h7, h8, h9, h10, h11, hm⟩ hi hd K hK
        simp only [putAll, Act.put, List.setIfInBounds_toArray, List.set_cons_zero, List.set_cons_succ]
        (try simp [Region.binds] at hd)
        replace h0 := Lib.hid h0
        replace h1 := Lib.hid h1
        replace h2 := Lib.hid h2
        replace h3 := Lib.hid h3
        replace h4 := Lib.hid h4
        replace h5 := Lib.hid h5
        replace h6 := Lib.hid h6
        replace h7 := Lib.hid h7
        replace h8 := Lib.hid h8
        replace h9 := Lib.hid h9
        replace h10 := Lib.hid h10
        replace h11 := Lib.hid h11
        obtain rfl := (h0.out (by simp [hd])).symm
        obtain rfl := (h5.out (by simp [hd])).symm
        obtain rfl := (h10.out (by simp [hd])).symm
        obtain rfl : u = wr.drew := by rcases hm.2 with ⟨_, h⟩ | ⟨h, _⟩; exact h; rw [hi] at h; cases h
        go_simp
        refine KW.out.mono ?_
        rintro e u5 ⟨rfl, hA5⟩
        go_wp2_with fail
        exact hK.out _ _ ⟨_, _, _, _, _, _, _, _, _, _, _, _, by ((simp only [putAll, Act.put, List.setIfInBounds_toArray, List.set_cons_zero, List.set_cons_succ]) <;> rfl), (fun _ => rfl), h1.out, h2.out, h3.out, h4.out, (fun _ => rfl), h6.out, h7.out, h8.out, h9.out, (fun _ => rfl), (fun _ => rfl), ⟨HBE.out u5 hA5, .inr ⟨rfl, hA5⟩⟩⟩
      · exact Steps.nil
      · rintro L a u ⟨x0, x1, x2, x3, x4, x5, x6, x7, x8, x9, x10, x11, rfl, h0, h1, h2, h3, h4, h5, h6, h7, h8, h9, h10, h11, hm⟩ hall
        rcases hm.2 with ⟨h, _⟩ | ⟨_, hA5⟩
        · rw [hall 11 (by decide)] at h; cases h
        simp only [putAll, Act.put, List.setIfInBounds_toArray, List.set_cons_zero, List.set_cons_succ]
        have H5 := Lib.hid hA5
        have B5 := Lib.hid hm.1
        clear hA5 hm
        go_wp2_with fail
        go_roundw
        case rel => exact ⟨j + 1, y1, by go_num, by omega, HLW.out, H5.out.1.mono fun i hi => hi.elim id fun h => Nat.le_trans HBD.out.size h, B5.out⟩
        case measure => simp [intOf]; omega
    · obtain ⟨hs, hok, h8⟩ := lw_sync HX.out
      obtain ⟨D, hD⟩ : ∃ D, x.V = D := ⟨_, rfl⟩
      rw [hD] at hs hok h8
      have HS := Lib.hid hs
      have HOK := Lib.hid hok
      have H8 := Lib.hid h8
      clear hs hok h8 hD
      have hju : ¬ (j : Int) < (la.length : Int) := by omega
      go_wp2_with fail
      refine (os_sync HO.out HX.out.ok (by have := HX.out.p; omega) 0 HS.out).mono ?_
      rintro e w2 ⟨rfl, h2⟩
      have D2 := Lib.hid (h2.1.mono (T := fun j => W1.heap.size ≤ j) fun i hi => hi.elim id fun h => Nat.le_trans HB.out.size h)
      have B2 := Lib.hid (HB.out.trans (h2.2.below (fun _ h => h) HB.out.size))
      clear h2 HO HB
      go_wp2_with fail
      refine (os_pending D2.out HOK.out).mono ?_
      rintro e w' ⟨rfl, rfl⟩
      go_wp2_with fail
      refine (os_copy D2.out HOK.out (Nat.zero_le _)).mono ?_
      rintro e w3 ⟨gc, rfl, h3, b3⟩
      have D3 := Lib.hid (D2.out.lt.later b3)
      have C3 := Lib.hid h3
      have B3 := Lib.hid (B2.out.trans (b3.mono B2.out.size))
      have z2 := Lib.hid B2.out.size
      have z3 := Lib.hid b3.size
      have hq3 := Q1.out.later B3.out
      have q0 : w3.cell? ⟨q, 0, none⟩ = some (.int .u64 (c.keep : Int)) := hq3.cell 0
      have q1 : w3.cell? ⟨q, 1, none⟩ = some (.int .i64 c.torn) := hq3.cell 1
      have q2 : w3.cell? ⟨q, 2, none⟩ = some (.int .i64 c.at') := hq3.cell 2
      clear h3 b3 D2 B2 hq3
      go_wp2_with fail
      refine (os_crash C3.out HOK.out (Nat.zero_le _) c HC.out).mono ?_
      rintro e w4 ⟨rfl, h4⟩
      have D4 := Lib.hid (D3.out.keep h4.2 fun i hi ht => by have := hi.2; have : w2.heap.size ≤ i := ht; omega)
      have C4 := Lib.hid (show Os _ w4 gc ⟨D, [], none⟩ from h4.1)
      have B4 := Lib.hid (B3.out.trans (h4.2.below (fun i (hi : w2.heap.size ≤ i) => by have := z2.out; omega) B3.out.size))
      have A4 := Lib.hid (A2.out.later B4.out)
      clear h4 D3 C3 B3 q0 q1 q2
      go_wp2_with fail
      refine (os_copy D4.out HOK.out (Nat.zero_le _)).mono ?_
      rintro e w5 ⟨gt, rfl, h5, b5⟩
      have D5 := Lib.hid (D4.out.later b5)
      have C5 := Lib.hid (C4.out.later b5)
      have T5 := Lib.hid h5
      have B5 := Lib.hid b5
      clear h5 b5
      go_wp2_with fail
      go_loopw [12, 13] (fun s i wr => ∃ (v : Value) (j : Nat) (yd : Dr) (A : List Ac), v = s ∧ i = .int .i64 (j : Int) ∧ j ≤ lm.length ∧ A.length ≤ j ∧ Op2 D yd A ∧ Os (fun i => w4.heap.size ≤ i) wr gt yd ∧ wr.ownsRow w4.heap.size TA 6 v A.length (flatA A) ∧ Below w4.heap.size w4 wr) (fun _ i _ => lm.length - (intOf i).toNat)
      case atStart => exact ⟨_, 0, _, [], rfl, rfl, Nat.zero_le _, Nat.zero_le _, op2_start HOK.out H8.out, T5.out, World.ownsRow_nil _ _ _ _, B5.out⟩
      case round =>
        obtain ⟨v, j, yd, A, hv, rfl, hj, hA, ho, ht, hw, hb⟩ := hrel
        subst hv
        have HO := Lib.hid ho
        have HT := Lib.hid ht
        have HW := Lib.hid hw
        have HB := Lib.hid hb
        clear ho ht hw hb D5 C5 T5 B5
        by_cases hlt : j < lm.length
        · obtain ⟨y, hy⟩ : ∃ y, lm[j] = y := ⟨_, rfl⟩
          obtain ⟨ab, ao, rfl, hab, hcs⟩ := A4.out j hlt
          have hyf := HF2.out lm[j] (List.getElem_mem hlt)
          rw [hy] at hcs hyf
          have HCS := Lib.hid (show ∀ u, Below w4.heap.size w4 u → ∀ i v, y.cs[i]? = some v → u.cell? ⟨ab, ao + j * 6 + i, none⟩ = some v from fun u hb i v hv => by rw [hb.cell (by simpa using hab)]; exact hcs i v hv)
          have HC1 := Lib.hid (show ∀ u, Below w4.heap.size w4 u → u.cell? ⟨ab, ao + j * 6 + 1, none⟩ = some (.int .i64 y.n) from fun u hb => HCS.out u hb 1 _ rfl)
          have HC2 := Lib.hid (show ∀ u, Below w4.heap.size w4 u → u.cell? ⟨ab, ao + j * 6 + 2, none⟩ = some (.string y.s) from fun u hb => HCS.out u hb 2 _ rfl)
          have hju : (j : Int) < (lm.length : Int) := by omega
          have hj0 : (0 : Int) ≤ (j : Int) := by omega
          have hys := hyf.s
          have HYF := Lib.hid hyf
          have HBD := Lib.hid (show Below w4.heap.size w4 wr.drew from HB.out.trans ((Below.refl _ wr).drew))
          have HBE := Lib.hid (show ∀ y1 u5, After (fun i => w4.heap.size ≤ i ∧ v.ownBlock ≠ some i) wr.drew gt y1 u5 → Below w4.heap.size w4 u5 from fun y1 u5 h5 => HBD.out.trans (h5.2.below (fun _ h => h.1) HBD.out.size))
          have HWD := Lib.hid (own_later' HW.out ((Below.refl _ wr).drew))
          have HTD := Lib.hid ((HT.out.own (own_lower HW.out (Nat.zero_le _))).later ((Below.refl _ wr).drew))
          have hlen := op2_len HO.out
          clear hcs hyf hy hab
          go_upto_region 17 with (fail)
          rcases op2_write HO.out y HYF.out with ⟨z, hw, hz⟩ | ⟨y1, hw, h'⟩
          · have KW := Lib.hid (os_write HTD.out HO.out.ok (by omega) y.n y.s hys z hw)
            clear hw hlen
            go_cut [97] (fun b wx => b = .bool false ∧ After (fun i => w4.heap.size ≤ i ∧ v.ownBlock ≠ some i) wr.drew gt yd wx)
            case first =>
              refine wp_region_inv (I := (fun A0 L a u => ∃ (x0 x1 x2 x3 x4 x5 x6 x7 x8 x9 x10 x11 x12 : Value), a = putAll A0 [(85, x0), (86, x1), (87, x2), (88, x3), (89, x4), (90, x5), (91, x6), (92, x7), (93, x8), (94, x9), (95, x10), (96, x11), (97, x12)] ∧ (L 0 = true → x0 = (.pointer (some ⟨gt, 0, Option.none⟩))) ∧ (L 1 = true → x1 = (.slice (some ⟨ab, ao, Option.none⟩) lm.length cap2)) ∧ (L 2 = true → x2 = (.int .i64 (j : Int))) ∧ (L 3 = true → x3 = (.pointer (some ⟨ab, ao + j * 6, Option.none⟩))) ∧ (L 4 = true → x4 = (.pointer (some ⟨ab, ao + j * 6 + 1, Option.none⟩))) ∧ (L 5 = true → x5 = (.int .i64 y.n)) ∧ (L 6 = true → x6 = (.slice (some ⟨ab, ao, Option.none⟩) lm.length cap2)) ∧ (L 7 = true → x7 = (.int .i64 (j : Int))) ∧ (L 8 = true → x8 = (.pointer (some ⟨ab, ao + j * 6, Option.none⟩))) ∧ (L 9 = true → x9 = (.pointer (some ⟨ab, ao + j * 6 + 2, Option.none⟩))) ∧ (L 10 = true → x10 = (.string y.s)) ∧ (L 11 = true → x11 = (.int .i64 z)) ∧ (L 12 = true → x12 = (.bool false)) ∧ (Below w4.heap.size w4 u ∧ ((L 11 = false ∧ u = wr.drew) ∨ (L 11 = true ∧ After (fun i => w4.heap.size ≤ i ∧ v.ownBlock ≠ some i) wr.drew gt yd u))))) (by kernel_rfl) (by kernel_rfl) ?_ ?_ ?_
              · intro L hL
                exact ⟨_, _, _, _, _, _, _, _, _, _, _, _, _, by (simp only [putAll, Act.put, List.setIfInBounds_toArray, List.set_cons_zero, List.set_cons_succ]; rfl), (fun h => absurd h (by rw [hL 0 (by decide)]; decide)), (fun h => absurd h (by rw [hL 1 (by decide)]; decide)), (fun h => absurd h (by rw [hL 2 (by decide)]; decide)), (fun h => absurd h (by rw [hL 3 (by decide)]; decide)), (fun h => absurd h (by rw [hL 4 (by decide)]; decide)), (fun h => absurd h (by rw [hL 5 (by decide)]; decide)), (fun h => absurd h (by rw [hL 6 (by decide)]; decide)), (fun h => absurd h (by rw [hL 7 (by decide)]; decide)), (fun h => absurd h (by rw [hL 8 (by decide)]; decide)), (fun h => absurd h (by rw [hL 9 (by decide)]; decide)), (fun h => absurd h (by rw [hL 10 (by decide)]; decide)), (fun h => absurd h (by rw [hL 11 (by decide)]; decide)), (fun h => absurd h (by rw [hL 12 (by decide)]; decide)), ⟨HBD.out, .inl ⟨hL 11 (by decide), rfl⟩⟩⟩
              refine Steps.cons (i := 0) rfl ?_ ?_
              · rintro L a u ⟨x0, x1, x2, x3, x4, x5, x6, x7, x8, x9, x10, x11, x12, rfl, h0, h1, h2, h3, h4, h5, h6, h7, h8, h9, h10, h11, h12, hm⟩ hi hd K hK
                simp only [putAll, Act.put, List.setIfInBounds_toArray, List.set_cons_zero, List.set_cons_succ]
                (try simp [Region.binds] at hd)
                replace h0 := Lib.hid h0
                replace h1 := Lib.hid h1
                replace h2 := Lib.hid h2
                replace h3 := Lib.hid h3
                replace h4 := Lib.hid h4
                replace h5 := Lib.hid h5
                replace h6 := Lib.hid h6
                replace h7 := Lib.hid h7
                replace h8 := Lib.hid h8
                replace h9 := Lib.hid h9
                replace h10 := Lib.hid h10
                replace h11 := Lib.hid h11
                replace h12 := Lib.hid h12
                go_simp
                exact hK.out _ _ ⟨_, _, _, _, _, _, _, _, _, _, _, _, _, by ((simp only [putAll, Act.put, List.setIfInBounds_toArray, List.set_cons_zero, List.set_cons_succ]) <;> rfl), (fun _ => rfl), h1.out, h2.out, h3.out, h4.out, h5.out, h6.out, h7.out, h8.out, h9.out, h10.out, h11.out, h12.out, hm⟩
              refine Steps.cons (i := 1) rfl ?_ ?_
              · rintro L a u ⟨x0, x1, x2, x3, x4, x5, x6, x7, x8, x9, x10, x11, x12, rfl, h0, h1, h2, h3, h4, h5, h6, h7, h8, h9, h10, h11, h12, hm⟩ hi hd K hK
                simp only [putAll, Act.put, List.setIfInBounds_toArray, List.set_cons_zero, List.set_cons_succ]
                (try simp [Region.binds] at hd)
                replace h0 := Lib.hid h0
                replace h1 := Lib.hid h1
                replace h2 := Lib.hid h2
                replace h3 := Lib.hid h3
                replace h4 := Lib.hid h4
                replace h5 := Lib.hid h5
                replace h6 := Lib.hid h6
                replace h7 := Lib.hid h7
                replace h8 := Lib.hid h8
                replace h9 := Lib.hid h9
                replace h10 := Lib.hid h10
                replace h11 := Lib.hid h11
                replace h12 := Lib.hid h12
                go_simp
                exact hK.out _ _ ⟨_, _, _, _, _, _, _, _, _, _, _, _, _, by ((simp only [putAll, Act.put, List.setIfInBounds_toArray, List.set_cons_zero, List.set_cons_succ]) <;> rfl), h0.out, (fun _ => rfl), h2.out, h3.out, h4.out, h5.out, h6.out, h7.out, h8.out, h9.out, h10.out, h11.out, h12.out, hm⟩
              refine Steps.cons (i := 2) rfl ?_ ?_
              · rintro L a u ⟨x0, x1, x2, x3, x4, x5, x6, x7, x8, x9, x10, x11, x12, rfl, h0, h1, h2, h3, h4, h5, h6, h7, h8, h9, h10, h11, h12, hm⟩ hi hd K hK
                simp only [putAll, Act.put, List.setIfInBounds_toArray, List.set_cons_zero, List.set_cons_succ]
                (try simp [Region.binds] at hd)
                replace h0 := Lib.hid h0
                replace h1 := Lib.hid h1
                replace h2 := Lib.hid h2
                replace h3 := Lib.hid h3
                replace h4 := Lib.hid h4
                replace h5 := Lib.hid h5
                replace h6 := Lib.hid h6
                replace h7 := Lib.hid h7
                replace h8 := Lib.hid h8
                replace h9 := Lib.hid h9
                replace h10 := Lib.hid h10
                replace h11 := Lib.hid h11
                replace h12 := Lib.hid h12
                go_simp
                exact hK.out _ _ ⟨_, _, _, _, _, _, _, _, _, _, _, _, _, by ((simp only [putAll, Act.put, List.setIfInBounds_toArray, List.set_cons_zero, List.set_cons_succ]) <;> rfl), h0.out, h1.out, (fun _ => rfl), h3.out, h4.out, h5.out, h6.out, h7.out, h8.out, h9.out, h10.out, h11.out, h12.out, hm⟩
              refine Steps.cons (i := 3) rfl ?_ ?_
              · rintro L a u ⟨x0, x1, x2, x3, x4, x5, x6, x7, x8, x9, x10, x11, x12, rfl, h0, h1, h2, h3, h4, h5, h6, h7, h8, h9, h10, h11, h12, hm⟩ hi hd K hK
                simp only [putAll, Act.put, List.setIfInBounds_toArray, List.set_cons_zero, List.set_cons_succ]
                (try simp [Region.binds] at hd)
                replace h0 := Lib.hid h0
                replace h1 := Lib.hid h1
                replace h2 := Lib.hid h2
                replace h3 := Lib.hid h3
                replace h4 := Lib.hid h4
                replace h5 := Lib.hid h5
                replace h6 := Lib.hid h6
                replace h7 := Lib.hid h7
                replace h8 := Lib.hid h8
                replace h9 := Lib.hid h9
                replace h10 := Lib.hid h10
                replace h11 := Lib.hid h11
                replace h12 := Lib.hid h12
                obtain rfl := (h1.out (by simp [hd])).symm
                obtain rfl := (h2.out (by simp [hd])).symm
                go_simp
                exact hK.out _ _ ⟨_, _, _, _, _, _, _, _, _, _, _, _, _, by ((simp only [putAll, Act.put, List.setIfInBounds_toArray, List.set_cons_zero, List.set_cons_succ]) <;> rfl), h0.out, h1.out, h2.out, (fun _ => rfl), h4.out, h5.out, h6.out, h7.out, h8.out, h9.out, h10.out, h11.out, h12.out, hm⟩
              refine Steps.cons (i := 4) rfl ?_ ?_
              · rintro L a u ⟨x0, x1, x2, x3, x4, x5, x6, x7, x8, x9, x10, x11, x12, rfl, h0, h1, h2, h3, h4, h5, h6, h7, h8, h9, h10, h11, h12, hm⟩ hi hd K hK
                simp only [putAll, Act.put, List.setIfInBounds_toArray, List.set_cons_zero, List.set_cons_succ]
                (try simp [Region.binds] at hd)
                replace h0 := Lib.hid h0
                replace h1 := Lib.hid h1
                replace h2 := Lib.hid h2
                replace h3 := Lib.hid h3
                replace h4 := Lib.hid h4
                replace h5 := Lib.hid h5
                replace h6 := Lib.hid h6
                replace h7 := Lib.hid h7
                replace h8 := Lib.hid h8
                replace h9 := Lib.hid h9
                replace h10 := Lib.hid h10
                replace h11 := Lib.hid h11
                replace h12 := Lib.hid h12
                obtain rfl := (h3.out (by simp [hd])).symm
                go_simp
                exact hK.out _ _ ⟨_, _, _, _, _, _, _, _, _, _, _, _, _, by ((simp only [putAll, Act.put, List.setIfInBounds_toArray, List.set_cons_zero, List.set_cons_succ]) <;> rfl), h0.out, h1.out, h2.out, h3.out, (fun _ => rfl), h5.out, h6.out, h7.out, h8.out, h9.out, h10.out, h11.out, h12.out, hm⟩
              refine Steps.cons (i := 5) rfl ?_ ?_
              · rintro L a u ⟨x0, x1, x2, x3, x4, x5, x6, x7, x8, x9, x10, x11, x12, rfl, h0, h1, h2, h3, h4, h5, h6, h7, h8, h9, h10, h11, h12, hm⟩ hi hd K hK
                simp only [putAll, Act.put, List.setIfInBounds_toArray, List.set_cons_zero, List.set_cons_succ]
                (try simp [Region.binds] at hd)
                replace h0 := Lib.hid h0
                replace h1 := Lib.hid h1
                replace h2 := Lib.hid h2
                replace h3 := Lib.hid h3
                replace h4 := Lib.hid h4
                replace h5 := Lib.hid h5
                replace h6 := Lib.hid h6
                replace h7 := Lib.hid h7
                replace h8 := Lib.hid h8
                replace h9 := Lib.hid h9
                replace h10 := Lib.hid h10
                replace h11 := Lib.hid h11
                replace h12 := Lib.hid h12
                obtain rfl := (h4.out (by simp [hd])).symm
                have c1 := HC1.out u hm.1
                go_simp
                exact hK.out _ _ ⟨_, _, _, _, _, _, _, _, _, _, _, _, _, by ((simp only [putAll, Act.put, List.setIfInBounds_toArray, List.set_cons_zero, List.set_cons_succ]) <;> rfl), h0.out, h1.out, h2.out, h3.out, h4.out, (fun _ => rfl), h6.out, h7.out, h8.out, h9.out, h10.out, h11.out, h12.out, hm⟩
              refine Steps.cons (i := 6) rfl ?_ ?_
              · rintro L a u ⟨x0, x1, x2, x3, x4, x5, x6, x7, x8, x9, x10, x11, x12, rfl, h0, h1, h2, h3, h4, h5, h6, h7, h8, h9, h10, h11, h12, hm⟩ hi hd K hK
                simp only [putAll, Act.put, List.setIfInBounds_toArray, List.set_cons_zero, List.set_cons_succ]
                (try simp [Region.binds] at hd)
                replace h0 := Lib.hid h0
                replace h1 := Lib.hid h1
                replace h2 := Lib.hid h2
                replace h3 := Lib.hid h3
                replace h4 := Lib.hid h4
                replace h5 := Lib.hid h5
                replace h6 := Lib.hid h6
                replace h7 := Lib.hid h7
                replace h8 := Lib.hid h8
                replace h9 := Lib.hid h9
                replace h10 := Lib.hid h10
                replace h11 := Lib.hid h11
                replace h12 := Lib.hid h12
                go_simp
                exact hK.out _ _ ⟨_, _, _, _, _, _, _, _, _, _, _, _, _, by ((simp only [putAll, Act.put, List.setIfInBounds_toArray, List.set_cons_zero, List.set_cons_succ]) <;> rfl), h0.out, h1.out, h2.out, h3.out, h4.out, h5.out, (fun _ => rfl), h7.out, h8.out, h9.out, h10.out, h11.out, h12.out, hm⟩
              refine Steps.cons (i := 7) rfl ?_ ?_
              · rintro L a u ⟨x0, x1, x2, x3, x4, x5, x6, x7, x8, x9, x10, x11, x12, rfl, h0, h1, h2, h3, h4, h5, h6, h7, h8, h9, h10, h11, h12, hm⟩ hi hd K hK
                simp only [putAll, Act.put, List.setIfInBounds_toArray, List.set_cons_zero, List.set_cons_succ]
                (try simp [Region.binds] at hd)
                replace h0 := Lib.hid h0
                replace h1 := Lib.hid h1
                replace h2 := Lib.hid h2
                replace h3 := Lib.hid h3
                replace h4 := Lib.hid h4
                replace h5 := Lib.hid h5
                replace h6 := Lib.hid h6
                replace h7 := Lib.hid h7
                replace h8 := Lib.hid h8
                replace h9 := Lib.hid h9
                replace h10 := Lib.hid h10
                replace h11 := Lib.hid h11
                replace h12 := Lib.hid h12
                go_simp
                exact hK.out _ _ ⟨_, _, _, _, _, _, _, _, _, _, _, _, _, by ((simp only [putAll, Act.put, List.setIfInBounds_toArray, List.set_cons_zero, List.set_cons_succ]) <;> rfl), h0.out, h1.out, h2.out, h3.out, h4.out, h5.out, h6.out, (fun _ => rfl), h8.out, h9.out, h10.out, h11.out, h12.out, hm⟩
              refine Steps.cons (i := 8) rfl ?_ ?_
              · rintro L a u ⟨x0, x1, x2, x3, x4, x5, x6, x7, x8, x9, x10, x11, x12, rfl, h0, h1, h2, h3, h4, h5, h6, h7, h8, h9, h10, h11, h12, hm⟩ hi hd K hK
                simp only [putAll, Act.put, List.setIfInBounds_toArray, List.set_cons_zero, List.set_cons_succ]
                (try simp [Region.binds] at hd)
                replace h0 := Lib.hid h0
                replace h1 := Lib.hid h1
                replace h2 := Lib.hid h2
                replace h3 := Lib.hid h3
                replace h4 := Lib.hid h4
                replace h5 := Lib.hid h5
                replace h6 := Lib.hid h6
                replace h7 := Lib.hid h7
                replace h8 := Lib.hid h8
                replace h9 := Lib.hid h9
                replace h10 := Lib.hid h10
                replace h11 := Lib.hid h11
                replace h12 := Lib.hid h12
                obtain rfl := (h6.out (by simp [hd])).symm
                obtain rfl := (h7.out (by simp [hd])).symm
                go_simp
                exact hK.out _ _ ⟨_, _, _, _, _, _, _, _, _, _, _, _, _, by ((simp only [putAll, Act.put, List.setIfInBounds_toArray, List.set_cons_zero, List.set_cons_succ]) <;> rfl), h0.out, h1.out, h2.out, h3.out, h4.out, h5.out, h6.out, h7.out, (fun _ => rfl), h9.out, h10.out, h11.out, h12.out, hm⟩
              refine Steps.cons (i := 9) rfl ?_ ?_
              · rintro L a u ⟨x0, x1, x2, x3, x4, x5, x6, x7, x8, x9, x10, x11, x12, rfl, h0, h1, h2, h3, h4, h5, h6, h7, h8, h9, h10, h11, h12, hm⟩ hi hd K hK
                simp only [putAll, Act.put, List.setIfInBounds_toArray, List.set_cons_zero, List.set_cons_succ]
                (try simp [Region.binds] at hd)
                replace h0 := Lib.hid h0
                replace h1 := Lib.hid h1
                replace h2 := Lib.hid h2
                replace h3 := Lib.hid h3
                replace h4 := Lib.hid h4
                replace h5 := Lib.hid h5
                replace h6 := Lib.hid h6
                replace h7 := Lib.hid h7
                replace h8 := Lib.hid h8
                replace h9 := Lib.hid h9
                replace h10 := Lib.hid h10
                replace h11 := Lib.hid h11
                replace h12 := Lib.hid h12
                obtain rfl := (h8.out (by simp [hd])).symm
                go_simp
                exact hK.out _ _ ⟨_, _, _, _, _, _, _, _, _, _, _, _, _, by ((simp only [putAll, Act.put, List.setIfInBounds_toArray, List.set_cons_zero, List.set_cons_succ]) <;> rfl), h0.out, h1.out, h2.out, h3.out, h4.out, h5.out, h6.out, h7.out, h8.out, (fun _ => rfl), h10.out, h11.out, h12.out, hm⟩
              refine Steps.cons (i := 10) rfl ?_ ?_
              · rintro L a u ⟨x0, x1, x2, x3, x4, x5, x6, x7, x8, x9, x10, x11, x12, rfl, h0, h1, h2, h3, h4, h5, h6, h7, h8, h9, h10, h11, h12, hm⟩ hi hd K hK
                simp only [putAll, Act.put, List.setIfInBounds_toArray, List.set_cons_zero, List.set_cons_succ]
                (try simp [Region.binds] at hd)
                replace h0 := Lib.hid h0
                replace h1 := Lib.hid h1
                replace h2 := Lib.hid h2
                replace h3 := Lib.hid h3
                replace h4 := Lib.hid h4
                replace h5 := Lib.hid h5
                replace h6 := Lib.hid h6
                replace h7 := Lib.hid h7
                replace h8 := Lib.hid h8
                replace h9 := Lib.hid h9
                replace h10 := Lib.hid h10
                replace h11 := Lib.hid h11
                replace h12 := Lib.hid h12
                obtain rfl := (h9.out (by simp [hd])).symm
                have c2 := HC2.out u hm.1
                go_simp
                exact hK.out _ _ ⟨_, _, _, _, _, _, _, _, _, _, _, _, _, by ((simp only [putAll, Act.put, List.setIfInBounds_toArray, List.set_cons_zero, List.set_cons_succ]) <;> rfl), h0.out, h1.out, h2.out, h3.out, h4.out, h5.out, h6.out, h7.out, h8.out, h9.out, (fun _ => rfl), h11.out, h12.out, hm⟩
              refine Steps.cons (i := 11) rfl ?_ ?_
              · rintro L a u ⟨x0, x1, x2, x3, x4, x5, x6, x7, x8, x9, x10, x11, x12, rfl, h0, h1, h2, h3, h4, h5, h6, h7, h8, h9, h10, h11, h12, hm⟩ hi hd K hK
                simp only [putAll, Act.put, List.setIfInBounds_toArray, List.set_cons_zero, List.set_cons_succ]
                (try simp [Region.binds] at hd)
                replace h0 := Lib.hid h0
                replace h1 := Lib.hid h1
                replace h2 := Lib.hid h2
                replace h3 := Lib.hid h3
                replace h4 := Lib.hid h4
                replace h5 := Lib.hid h5
                replace h6 := Lib.hid h6
                replace h7 := Lib.hid h7
                replace h8 := Lib.hid h8
                replace h9 := Lib.hid h9
                replace h10 := Lib.hid h10
                replace h11 := Lib.hid h11
                replace h12 := Lib.hid h12
                obtain rfl := (h0.out (by simp [hd])).symm
                obtain rfl := (h5.out (by simp [hd])).symm
                obtain rfl := (h10.out (by simp [hd])).symm
                obtain rfl : u = wr.drew := by rcases hm.2 with ⟨_, h⟩ | ⟨h, _⟩; exact h; rw [hi] at h; cases h
                go_simp
                refine KW.out.mono ?_
                rintro e u5 ⟨rfl, hA5⟩
                go_wp2_with fail
                exact hK.out _ _ ⟨_, _, _, _, _, _, _, _, _, _, _, _, _, by ((simp only [putAll, Act.put, List.setIfInBounds_toArray, List.set_cons_zero, List.set_cons_succ]) <;> rfl), (fun _ => rfl), h1.out, h2.out, h3.out, h4.out, (fun _ => rfl), h6.out, h7.out, h8.out, h9.out, (fun _ => rfl), (fun _ => rfl), h12.out, ⟨HBE.out _ u5 hA5, .inr ⟨rfl, hA5⟩⟩⟩
              refine Steps.cons (i := 12) rfl ?_ ?_
              · rintro L a u ⟨x0, x1, x2, x3, x4, x5, x6, x7, x8, x9, x10, x11, x12, rfl, h0, h1, h2, h3, h4, h5, h6, h7, h8, h9, h10, h11, h12, hm⟩ hi hd K hK
                simp only [putAll, Act.put, List.setIfInBounds_toArray, List.set_cons_zero, List.set_cons_succ]
                (try simp [Region.binds] at hd)
                replace h0 := Lib.hid h0
                replace h1 := Lib.hid h1
                replace h2 := Lib.hid h2
                replace h3 := Lib.hid h3
                replace h4 := Lib.hid h4
                replace h5 := Lib.hid h5
                replace h6 := Lib.hid h6
                replace h7 := Lib.hid h7
                replace h8 := Lib.hid h8
                replace h9 := Lib.hid h9
                replace h10 := Lib.hid h10
                replace h11 := Lib.hid h11
                replace h12 := Lib.hid h12
                obtain rfl := (h11.out (by simp [hd])).symm
                go_simp
                exact hK.out _ _ ⟨_, _, _, _, _, _, _, _, _, _, _, _, _, by ((simp only [putAll, Act.put, List.setIfInBounds_toArray, List.set_cons_zero, List.set_cons_succ]) <;> rfl), h0.out, h1.out, h2.out, h3.out, h4.out, h5.out, h6.out, h7.out, h8.out, h9.out, h10.out, h11.out, (fun _ => rfl), hm⟩
              · exact Steps.nil
              · rintro L a u ⟨x0, x1, x2, x3, x4, x5, x6, x7, x8, x9, x10, x11, x12, rfl, h0, h1, h2, h3, h4, h5, h6, h7, h8, h9, h10, h11, h12, hm⟩ hall
                rcases hm.2 with ⟨h, _⟩ | ⟨_, hA5⟩
                · rw [hall 11 (by decide)] at h; cases h
                obtain rfl := (h12 (hall 12 (by decide))).symm
                simp only [putAll, Act.put, List.setIfInBounds_toArray, List.set_cons_zero, List.set_cons_succ]
                go_wp2_with fail
                go_meet
                exact ⟨rfl, hA5⟩
            obtain ⟨rfl, hA5⟩ := hcut
            have H5 := Lib.hid hA5
            have HB5 := Lib.hid (HBE.out _ _ hA5)
            clear hA5 KW
            go_wp2_with fail
            go_roundw
            case rel => exact ⟨_, j + 1, yd, A, rfl, by go_num, by omega, by omega, HO.out, H5.out.1.mono fun i hi => hi.elim (fun h => h.1) fun h => Nat.le_trans HBD.out.size h, own_keeps HWD.out H5.out.2 (fun i hi ht => ht.2 hi), HB5.out⟩
            case measure => simp [intOf]; omega
          · have KW := Lib.hid (os_write HTD.out HO.out.ok (by omega) y.n y.s hys 0 hw)
            have HO1 := Lib.hid h'
            clear hw h' hlen
            go_cut [97] (fun b wx => b = .bool true ∧ After (fun i => w4.heap.size ≤ i ∧ v.ownBlock ≠ some i) wr.drew gt y1 wx)
            case first =>
              refine wp_region_inv (I := (fun A0 L a u => ∃ (x0 x1 x2 x3 x4 x5 x6 x7 x8 x9 x10 x11 x12 : Value), a = putAll A0 [(85, x0), (86, x1), (87, x2), (88, x3), (89, x4), (90, x5), (91, x6), (92, x7), (93, x8), (94, x9), (95, x10), (96, x11), (97, x12)] ∧ (L 0 = true → x0 = (.pointer (some ⟨gt, 0, Option.none⟩))) ∧ (L 1 = true → x1 = (.slice (some ⟨ab, ao, Option.none⟩) lm.length cap2)) ∧ (L 2 = true → x2 = (.int .i64 (j : Int))) ∧ (L 3 = true → x3 = (.pointer (some ⟨ab, ao + j * 6, Option.none⟩))) ∧ (L 4 = true → x4 = (.pointer (some ⟨ab, ao + j * 6 + 1, Option.none⟩))) ∧ (L 5 = true → x5 = (.int .i64 y.n)) ∧ (L 6 = true → x6 = (.slice (some ⟨ab, ao, Option.none⟩) lm.length cap2)) ∧ (L 7 = true → x7 = (.int .i64 (j : Int))) ∧ (L 8 = true → x8 = (.pointer (some ⟨ab, ao + j * 6, Option.none⟩))) ∧ (L 9 = true → x9 = (.pointer (some ⟨ab, ao + j * 6 + 2, Option.none⟩))) ∧ (L 10 = true → x10 = (.string y.s)) ∧ (L 11 = true → x11 = (.int .i64 0)) ∧ (L 12 = true → x12 = (.bool true)) ∧ (Below w4.heap.size w4 u ∧ ((L 11 = false ∧ u = wr.drew) ∨ (L 11 = true ∧ After (fun i => w4.heap.size ≤ i ∧ v.ownBlock ≠ some i) wr.drew gt y1 u))))) (by kernel_rfl) (by kernel_rfl) ?_ ?_ ?_
              · intro L hL
                exact ⟨_, _, _, _, _, _, _, _, _, _, _, _, _, by (simp only [putAll, Act.put, List.setIfInBounds_toArray, List.set_cons_zero, List.set_cons_succ]; rfl), (fun h => absurd h (by rw [hL 0 (by decide)]; decide)), (fun h => absurd h (by rw [hL 1 (by decide)]; decide)), (fun h => absurd h (by rw [hL 2 (by decide)]; decide)), (fun h => absurd h (by rw [hL 3 (by decide)]; decide)), (fun h => absurd h (by rw [hL 4 (by decide)]; decide)), (fun h => absurd h (by rw [hL 5 (by decide)]; decide)), (fun h => absurd h (by rw [hL 6 (by decide)]; decide)), (fun h => absurd h (by rw [hL 7 (by decide)]; decide)), (fun h => absurd h (by rw [hL 8 (by decide)]; decide)), (fun h => absurd h (by rw [hL 9 (by decide)]; decide)), (fun h => absurd h (by rw [hL 10 (by decide)]; decide)), (fun h => absurd h (by rw [hL 11 (by decide)]; decide)), (fun h => absurd h (by rw [hL 12 (by decide)]; decide)), ⟨HBD.out, .inl ⟨hL 11 (by decide), rfl⟩⟩⟩
              refine Steps.cons (i := 0) rfl ?_ ?_
              · rintro L a u ⟨x0, x1, x2, x3, x4, x5, x6, x7, x8, x9, x10, x11, x12, rfl, h0, h1, h2, h3, h4, h5, h6, h7, h8, h9, h10, h11, h12, hm⟩ hi hd K hK
                simp only [putAll, Act.put, List.setIfInBounds_toArray, List.set_cons_zero, List.set_cons_succ]
                (try simp [Region.binds] at hd)
                replace h0 := Lib.hid h0
                replace h1 := Lib.hid h1
                replace h2 := Lib.hid h2
                replace h3 := Lib.hid h3
                replace h4 := Lib.hid h4
                replace h5 := Lib.hid h5
                replace h6 := Lib.hid h6
                replace h7 := Lib.hid h7
                replace h8 := Lib.hid h8
                replace h9 := Lib.hid h9
                replace h10 := Lib.hid h10
                replace h11 := Lib.hid h11
                replace h12 := Lib.hid h12
                go_simp
                exact hK.out _ _ ⟨_, _, _, _, _, _, _, _, _, _, _, _, _, by ((simp only [putAll, Act.put, List.setIfInBounds_toArray, List.set_cons_zero, List.set_cons_succ]) <;> rfl), (fun _ => rfl), h1.out, h2.out, h3.out, h4.out, h5.out, h6.out, h7.out, h8.out, h9.out, h10.out, h11.out, h12.out, hm⟩
              refine Steps.cons (i := 1) rfl ?_ ?_
              · rintro L a u ⟨x0, x1, x2, x3, x4, x5, x6, x7, x8, x9, x10, x11, x12, rfl, h0, h1, h2, h3, h4, h5, h6, h7, h8, h9, h10, h11, h12, hm⟩ hi hd K hK
                simp only [putAll, Act.put, List.setIfInBounds_toArray, List.set_cons_zero, List.set_cons_succ]
                (try simp [Region.binds] at hd)
                replace h0 := Lib.hid h0
                replace h1 := Lib.hid h1
                replace h2 := Lib.hid h2
                replace h3 := Lib.hid h3
                replace h4 := Lib.hid h4
                replace h5 := Lib.hid h5
                replace h6 := Lib.hid h6
                replace h7 := Lib.hid h7
                replace h8 := Lib.hid h8
                replace h9 := Lib.hid h9
                replace h10 := Lib.hid h10
                replace h11 := Lib.hid h11
                replace h12 := Lib.hid h12
                go_simp
                exact hK.out _ _ ⟨_, _, _, _, _, _, _, _, _, _, _, _, _, by ((simp only [putAll, Act.put, List.setIfInBounds_toArray, List.set_cons_zero, List.set_cons_succ]) <;> rfl), h0.out, (fun _ => rfl), h2.out, h3.out, h4.out, h5.out, h6.out, h7.out, h8.out, h9.out, h10.out, h11.out, h12.out, hm⟩
              refine Steps.cons (i := 2) rfl ?_ ?_
              · rintro L a u ⟨x0, x1, x2, x3, x4, x5, x6, x7, x8, x9, x10, x11, x12, rfl, h0, h1, h2, h3, h4, h5, h6, h7, h8, h9, h10, h11, h12, hm⟩ hi hd K hK
                simp only [putAll, Act.put, List.setIfInBounds_toArray, List.set_cons_zero, List.set_cons_succ]
                (try simp [Region.binds] at hd)
                replace h0 := Lib.hid h0
                replace h1 := Lib.hid h1
                replace h2 := Lib.hid h2
                replace h3 := Lib.hid h3
                replace h4 := Lib.hid h4
                replace h5 := Lib.hid h5
                replace h6 := Lib.hid h6
                replace h7 := Lib.hid h7
                replace h8 := Lib.hid h8
                replace h9 := Lib.hid h9
                replace h10 := Lib.hid h10
                replace h11 := Lib.hid h11
                replace h12 := Lib.hid h12
                go_simp
                exact hK.out _ _ ⟨_, _, _, _, _, _, _, _, _, _, _, _, _, by ((simp only [putAll, Act.put, List.setIfInBounds_toArray, List.set_cons_zero, List.set_cons_succ]) <;> rfl), h0.out, h1.out, (fun _ => rfl), h3.out, h4.out, h5.out, h6.out, h7.out, h8.out, h9.out, h10.out, h11.out, h12.out, hm⟩
              refine Steps.cons (i := 3) rfl ?_ ?_
              · rintro L a u ⟨x0, x1, x2, x3, x4, x5, x6, x7, x8, x9, x10, x11, x12, rfl, h0, h1, h2, h3, h4, h5, h6, h7, h8, h9, h10, h11, h12, hm⟩ hi hd K hK
                simp only [putAll, Act.put, List.setIfInBounds_toArray, List.set_cons_zero, List.set_cons_succ]
                (try simp [Region.binds] at hd)
                replace h0 := Lib.hid h0
                replace h1 := Lib.hid h1
                replace h2 := Lib.hid h2
                replace h3 := Lib.hid h3
                replace h4 := Lib.hid h4
                replace h5 := Lib.hid h5
                replace h6 := Lib.hid h6
                replace h7 := Lib.hid h7
                replace h8 := Lib.hid h8
                replace h9 := Lib.hid h9
                replace h10 := Lib.hid h10
                replace h11 := Lib.hid h11
                replace h12 := Lib.hid h12
                obtain rfl := (h1.out (by simp [hd])).symm
                obtain rfl := (h2.out (by simp [hd])).symm
                go_simp
                exact hK.out _ _ ⟨_, _, _, _, _, _, _, _, _, _, _, _, _, by ((simp only [putAll, Act.put, List.setIfInBounds_toArray, List.set_cons_zero, List.set_cons_succ]) <;> rfl), h0.out, h1.out, h2.out, (fun _ => rfl), h4.out, h5.out, h6.out, h7.out, h8.out, h9.out, h10.out, h11.out, h12.out, hm⟩
              refine Steps.cons (i := 4) rfl ?_ ?_
              · rintro L a u ⟨x0, x1, x2, x3, x4, x5, x6, x7, x8, x9, x10, x11, x12, rfl, h0, h1, h2, h3, h4, h5, h6, h7, h8, h9, h10, h11, h12, hm⟩ hi hd K hK
                simp only [putAll, Act.put, List.setIfInBounds_toArray, List.set_cons_zero, List.set_cons_succ]
                (try simp [Region.binds] at hd)
                replace h0 := Lib.hid h0
                replace h1 := Lib.hid h1
                replace h2 := Lib.hid h2
                replace h3 := Lib.hid h3
                replace h4 := Lib.hid h4
                replace h5 := Lib.hid h5
                replace h6 := Lib.hid h6
                replace h7 := Lib.hid h7
                replace h8 := Lib.hid h8
                replace h9 := Lib.hid h9
                replace h10 := Lib.hid h10
                replace h11 := Lib.hid h11
                replace h12 := Lib.hid h12
                obtain rfl := (h3.out (by simp [hd])).symm
                go_simp
                exact hK.out _ _ ⟨_, _, _, _, _, _, _, _, _, _, _, _, _, by ((simp only [putAll, Act.put, List.setIfInBounds_toArray, List.set_cons_zero, List.set_cons_succ]) <;> rfl), h0.out, h1.out, h2.out, h3.out, (fun _ => rfl), h5.out, h6.out, h7.out, h8.out, h9.out, h10.out, h11.out, h12.out, hm⟩
              refine Steps.cons (i := 5) rfl ?_ ?_
              · rintro L a u ⟨x0, x1, x2, x3, x4, x5, x6, x7, x8, x9, x10, x11, x12, rfl, h0, h1, h2, h3, h4, h5, h6, h7, h8, h9, h10, h11, h12, hm⟩ hi hd K hK
                simp only [putAll, Act.put, List.setIfInBounds_toArray, List.set_cons_zero, List.set_cons_succ]
                (try simp [Region.binds] at hd)
                replace h0 := Lib.hid h0
                replace h1 := Lib.hid h1
                replace h2 := Lib.hid h2
                replace h3 := Lib.hid h3
                replace h4 := Lib.hid h4
                replace h5 := Lib.hid h5
                replace h6 := Lib.hid h6
                replace h7 := Lib.hid h7
                replace h8 := Lib.hid h8
                replace h9 := Lib.hid h9
                replace h10 := Lib.hid h10
                replace h11 := Lib.hid h11
                replace h12 := Lib.hid h12
                obtain rfl := (h4.out (by simp [hd])).symm
                have c1 := HC1.out u hm.1
                go_simp
                exact hK.out _ _ ⟨_, _, _, _, _, _, _, _, _, _, _, _, _, by ((simp only [putAll, Act.put, List.setIfInBounds_toArray, List.set_cons_zero, List.set_cons_succ]) <;> rfl), h0.out, h1.out, h2.out, h3.out, h4.out, (fun _ => rfl), h6.out, h7.out, h8.out, h9.out, h10.out, h11.out, h12.out, hm⟩
              refine Steps.cons (i := 6) rfl ?_ ?_
              · rintro L a u ⟨x0, x1, x2, x3, x4, x5, x6, x7, x8, x9, x10, x11, x12, rfl, h0, h1, h2, h3, h4, h5, h6, h7, h8, h9, h10, h11, h12, hm⟩ hi hd K hK
                simp only [putAll, Act.put, List.setIfInBounds_toArray, List.set_cons_zero, List.set_cons_succ]
                (try simp [Region.binds] at hd)
                replace h0 := Lib.hid h0
                replace h1 := Lib.hid h1
                replace h2 := Lib.hid h2
                replace h3 := Lib.hid h3
                replace h4 := Lib.hid h4
                replace h5 := Lib.hid h5
                replace h6 := Lib.hid h6
                replace h7 := Lib.hid h7
                replace h8 := Lib.hid h8
                replace h9 := Lib.hid h9
                replace h10 := Lib.hid h10
                replace h11 := Lib.hid h11
                replace h12 := Lib.hid h12
                go_simp
                exact hK.out _ _ ⟨_, _, _, _, _, _, _, _, _, _, _, _, _, by ((simp only [putAll, Act.put, List.setIfInBounds_toArray, List.set_cons_zero, List.set_cons_succ]) <;> rfl), h0.out, h1.out, h2.out, h3.out, h4.out, h5.out, (fun _ => rfl), h7.out, h8.out, h9.out, h10.out, h11.out, h12.out, hm⟩
              refine Steps.cons (i := 7) rfl ?_ ?_
              · rintro L a u ⟨x0, x1, x2, x3, x4, x5, x6, x7, x8, x9, x10, x11, x12, rfl, h0, h1, h2, h3, h4, h5, h6, h7, h8, h9, h10, h11, h12, hm⟩ hi hd K hK
                simp only [putAll, Act.put, List.setIfInBounds_toArray, List.set_cons_zero, List.set_cons_succ]
                (try simp [Region.binds] at hd)
                replace h0 := Lib.hid h0
                replace h1 := Lib.hid h1
                replace h2 := Lib.hid h2
                replace h3 := Lib.hid h3
                replace h4 := Lib.hid h4
                replace h5 := Lib.hid h5
                replace h6 := Lib.hid h6
                replace h7 := Lib.hid h7
                replace h8 := Lib.hid h8
                replace h9 := Lib.hid h9
                replace h10 := Lib.hid h10
                replace h11 := Lib.hid h11
                replace h12 := Lib.hid h12
                go_simp
                exact hK.out _ _ ⟨_, _, _, _, _, _, _, _, _, _, _, _, _, by ((simp only [putAll, Act.put, List.setIfInBounds_toArray, List.set_cons_zero, List.set_cons_succ]) <;> rfl), h0.out, h1.out, h2.out, h3.out, h4.out, h5.out, h6.out, (fun _ => rfl), h8.out, h9.out, h10.out, h11.out, h12.out, hm⟩
              refine Steps.cons (i := 8) rfl ?_ ?_
              · rintro L a u ⟨x0, x1, x2, x3, x4, x5, x6, x7, x8, x9, x10, x11, x12, rfl, h0, h1, h2, h3, h4, h5, h6, h7, h8, h9, h10, h11, h12, hm⟩ hi hd K hK
                simp only [putAll, Act.put, List.setIfInBounds_toArray, List.set_cons_zero, List.set_cons_succ]
                (try simp [Region.binds] at hd)
                replace h0 := Lib.hid h0
                replace h1 := Lib.hid h1
                replace h2 := Lib.hid h2
                replace h3 := Lib.hid h3
                replace h4 := Lib.hid h4
                replace h5 := Lib.hid h5
                replace h6 := Lib.hid h6
                replace h7 := Lib.hid h7
                replace h8 := Lib.hid h8
                replace h9 := Lib.hid h9
                replace h10 := Lib.hid h10
                replace h11 := Lib.hid h11
                replace h12 := Lib.hid h12
                obtain rfl := (h6.out (by simp [hd])).symm
                obtain rfl := (h7.out (by simp [hd])).symm
                go_simp
                exact hK.out _ _ ⟨_, _, _, _, _, _, _, _, _, _, _, _, _, by ((simp only [putAll, Act.put, List.setIfInBounds_toArray, List.set_cons_zero, List.set_cons_succ]) <;> rfl), h0.out, h1.out, h2.out, h3.out, h4.out, h5.out, h6.out, h7.out, (fun _ => rfl), h9.out, h10.out, h11.out, h12.out, hm⟩
              refine Steps.cons (i := 9) rfl ?_ ?_
              · rintro L a u ⟨x0, x1, x2, x3, x4, x5, x6, x7, x8, x9, x10, x11, x12, rfl, h0, h1, h2, h3, h4, h5, h6, h7, h8, h9, h10, h11, h12, hm⟩ hi hd K hK
                simp only [putAll, Act.put, List.setIfInBounds_toArray, List.set_cons_zero, List.set_cons_succ]
                (try simp [Region.binds] at hd)
                replace h0 := Lib.hid h0
                replace h1 := Lib.hid h1
                replace h2 := Lib.hid h2
                replace h3 := Lib.hid h3
                replace h4 := Lib.hid h4
                replace h5 := Lib.hid h5
                replace h6 := Lib.hid h6
                replace h7 := Lib.hid h7
                replace h8 := Lib.hid h8
                replace h9 := Lib.hid h9
                replace h10 := Lib.hid h10
                replace h11 := Lib.hid h11
                replace h12 := Lib.hid h12
                obtain rfl := (h8.out (by simp [hd])).symm
                go_simp
                exact hK.out _ _ ⟨_, _, _, _, _, _, _, _, _, _, _, _, _, by ((simp only [putAll, Act.put, List.setIfInBounds_toArray, List.set_cons_zero, List.set_cons_succ]) <;> rfl), h0.out, h1.out, h2.out, h3.out, h4.out, h5.out, h6.out, h7.out, h8.out, (fun _ => rfl), h10.out, h11.out, h12.out, hm⟩
              refine Steps.cons (i := 10) rfl ?_ ?_
              · rintro L a u ⟨x0, x1, x2, x3, x4, x5, x6, x7, x8, x9, x10, x11, x12, rfl, h0, h1, h2, h3, h4, h5, h6, h7, h8, h9, h10, h11, h12, hm⟩ hi hd K hK
                simp only [putAll, Act.put, List.setIfInBounds_toArray, List.set_cons_zero, List.set_cons_succ]
                (try simp [Region.binds] at hd)
                replace h0 := Lib.hid h0
                replace h1 := Lib.hid h1
                replace h2 := Lib.hid h2
                replace h3 := Lib.hid h3
                replace h4 := Lib.hid h4
                replace h5 := Lib.hid h5
                replace h6 := Lib.hid h6
                replace h7 := Lib.hid h7
                replace h8 := Lib.hid h8
                replace h9 := Lib.hid h9
                replace h10 := Lib.hid h10
                replace h11 := Lib.hid h11
                replace h12 := Lib.hid h12
                obtain rfl := (h9.out (by simp [hd])).symm
                have c2 := HC2.out u hm.1
                go_simp
                exact hK.out _ _ ⟨_, _, _, _, _, _, _, _, _, _, _, _, _, by ((simp only [putAll, Act.put, List.setIfInBounds_toArray, List.set_cons_zero, List.set_cons_succ]) <;> rfl), h0.out, h1.out, h2.out, h3.out, h4.out, h5.out, h6.out, h7.out, h8.out, h9.out, (fun _ => rfl), h11.out, h12.out, hm⟩
              refine Steps.cons (i := 11) rfl ?_ ?_
              · rintro L a u ⟨x0, x1, x2, x3, x4, x5, x6, x7, x8, x9, x10, x11, x12, rfl, h0, h1, h2, h3, h4, h5, h6, h7, h8, h9, h10, h11, h12, hm⟩ hi hd K hK
                simp only [putAll, Act.put, List.setIfInBounds_toArray, List.set_cons_zero, List.set_cons_succ]
                (try simp [Region.binds] at hd)
                replace h0 := Lib.hid h0
                replace h1 := Lib.hid h1
                replace h2 := Lib.hid h2
                replace h3 := Lib.hid h3
                replace h4 := Lib.hid h4
                replace h5 := Lib.hid h5
                replace h6 := Lib.hid h6
                replace h7 := Lib.hid h7
                replace h8 := Lib.hid h8
                replace h9 := Lib.hid h9
                replace h10 := Lib.hid h10
                replace h11 := Lib.hid h11
                replace h12 := Lib.hid h12
                obtain rfl := (h0.out (by simp [hd])).symm
                obtain rfl := (h5.out (by simp [hd])).symm
                obtain rfl := (h10.out (by simp [hd])).symm
                obtain rfl : u = wr.drew := by rcases hm.2 with ⟨_, h⟩ | ⟨h, _⟩; exact h; rw [hi] at h; cases h
                go_simp
                refine KW.out.mono ?_
                rintro e u5 ⟨rfl, hA5⟩
                go_wp2_with fail
                exact hK.out _ _ ⟨_, _, _, _, _, _, _, _, _, _, _, _, _, by ((simp only [putAll, Act.put, List.setIfInBounds_toArray, List.set_cons_zero, List.set_cons_succ]) <;> rfl), (fun _ => rfl), h1.out, h2.out, h3.out, h4.out, (fun _ => rfl), h6.out, h7.out, h8.out, h9.out, (fun _ => rfl), (fun _ => rfl), h12.out, ⟨HBE.out _ u5 hA5, .inr ⟨rfl, hA5⟩⟩⟩
              refine Steps.cons (i := 12) rfl ?_ ?_
              · rintro L a u ⟨x0, x1, x2, x3, x4, x5, x6, x7, x8, x9, x10, x11, x12, rfl, h0, h1, h2, h3, h4, h5, h6, h7, h8, h9, h10, h11, h12, hm⟩ hi hd K hK
                simp only [putAll, Act.put, List.setIfInBounds_toArray, List.set_cons_zero, List.set_cons_succ]
                (try simp [Region.binds] at hd)
                replace h0 := Lib.hid h0
                replace h1 := Lib.hid h1
                replace h2 := Lib.hid h2
                replace h3 := Lib.hid h3
                replace h4 := Lib.hid h4
                replace h5 := Lib.hid h5
                replace h6 := Lib.hid h6
                replace h7 := Lib.hid h7
                replace h8 := Lib.hid h8
                replace h9 := Lib.hid h9
                replace h10 := Lib.hid h10
                replace h11 := Lib.hid h11
                replace h12 := Lib.hid h12
                obtain rfl := (h11.out (by simp [hd])).symm
                go_simp
                exact hK.out _ _ ⟨_, _, _, _, _, _, _, _, _, _, _, _, _, by ((simp only [putAll, Act.put, List.setIfInBounds_toArray, List.set_cons_zero, List.set_cons_succ]) <;> rfl), h0.out, h1.out, h2.out, h3.out, h4.out, h5.out, h6.out, h7.out, h8.out, h9.out, h10.out, h11.out, (fun _ => rfl), hm⟩
              · exact Steps.nil
              · rintro L a u ⟨x0, x1, x2, x3, x4, x5, x6, x7, x8, x9, x10, x11, x12, rfl, h0, h1, h2, h3, h4, h5, h6, h7, h8, h9, h10, h11, h12, hm⟩ hall
                rcases hm.2 with ⟨h, _⟩ | ⟨_, hA5⟩
                · rw [hall 11 (by decide)] at h; cases h
                obtain rfl := (h12 (hall 12 (by decide))).symm
                simp only [putAll, Act.put, List.setIfInBounds_toArray, List.set_cons_zero, List.set_cons_succ]
                go_wp2_with fail
                go_meet
                exact ⟨rfl, hA5⟩
            obtain ⟨rfl, hA5⟩ := hcut
            have H5 := Lib.hid hA5
            have HB5 := Lib.hid (HBE.out _ _ hA5)
            have HW5 := Lib.hid (own_keeps HWD.out hA5.2 (fun i hi ht => ht.2 hi))
            have c0 : wc.cell? ⟨ab, ao + j * 6, none⟩ = some (.int .u8 y.what) := HCS.out _ HB5.out 0 _ rfl
            have c1 := HC1.out _ HB5.out
            have c2 := HC2.out _ HB5.out
            have c3 : wc.cell? ⟨ab, ao + j * 6 + 3, none⟩ = some (.int .u64 (y.c.keep : Int)) := HCS.out _ HB5.out 3 _ rfl
            have c4 : wc.cell? ⟨ab, ao + j * 6 + 4, none⟩ = some (.int .i64 y.c.torn) := HCS.out _ HB5.out 4 _ rfl
            have c5 : wc.cell? ⟨ab, ao + j * 6 + 5, none⟩ = some (.int .i64 y.c.at') := HCS.out _ HB5.out 5 _ rfl
            have HX5 := Lib.hid hA5.1
            clear hA5 KW
            have HAL := Lib.hid (HW5.out.alloc (.cells y.cs.toArray TA))
            go_wp2_with (at_builtin; refine app_act rfl _ _ rfl w4.heap.size v A y rfl wc.heap.size 1 rfl HAL.out (Rw.new wc y.cs TA) (by omega) ?b ?k)
            case b => have := HB5.out.size; simp; omega
            intro v1 W6 hown1 hg1
            have T6 := Lib.hid ((HX5.out.later ((Below.refl _ wc).alloc (Nat.le_refl _) (.cells y.cs.toArray TA))).grown (own_lower HAL.out (Nat.zero_le _)) hg1)
            have HB6 := Lib.hid (((HB5.out.alloc HB5.out.size (.cells y.cs.toArray TA))).grown hg1 (by have := HB5.out.size; simp; omega) fun k hk => (World.ownsRow.lt HAL.out k hk).1)
            have HW6 := Lib.hid (show W6.ownsRow w4.heap.size TA 6 v1 (A ++ [y]).length (flatA (A ++ [y])) by rw [List.length_append]; exact hown1)
            clear hown1 hg1 c0 c1 c2 c3 c4 c5
            go_wp2_with fail
            go_roundw
            case rel => exact ⟨_, j + 1, y1, A ++ [y], rfl, by go_num, by omega, by simp; omega, HO1.out, T6.out.mono fun i hi => hi.elim (fun h => h.1) fun h => Nat.le_trans HBD.out.size h, HW6.out, HB6.out⟩
            case measure => simp [intOf]; omega
        · have hju : ¬ (j : Int) < (lm.length : Int) := by omega
          have hlen := op2_len HO.out
          have hP : yd.P.length ≤ 100000 := by omega
          go_wp2_with fail
          refine (os_copy HT.out HO.out.ok hP).mono ?_
          rintro e w6 ⟨gs, rfl, h6, b6⟩
          have T6 := Lib.hid ((HT.out.own (own_lower HW.out (Nat.zero_le _))).lt.later b6)
          have S6 := Lib.hid h6
          have W6 := Lib.hid (own_later' HW.out b6)
          have B6 := Lib.hid (HB.out.trans (b6.mono HB.out.size))
          have hq6 := Q1.out.later (B4.out.trans (B6.out.mono B4.out.size))
          have q0 : w6.cell? ⟨q, 0, none⟩ = some (.int .u64 (c.keep : Int)) := hq6.cell 0
          have q1 : w6.cell? ⟨q, 1, none⟩ = some (.int .i64 c.torn) := hq6.cell 1
          have q2 : w6.cell? ⟨q, 2, none⟩ = some (.int .i64 c.at') := hq6.cell 2
          clear h6 b6 hq6 HT HW HB
          go_wp2_with fail
          refine (os_crash T6.out HO.out.ok hP c HC.out).mono ?_
          rintro e w7 ⟨rfl, h7⟩
          have T7 := Lib.hid h7.1
          have S7 := Lib.hid (S6.out.keep h7.2 fun i hi ht => by have := ht.2; omega)
          have W7 := Lib.hid (own_keeps W6.out h7.2 fun i hi ht => ht.1.2 hi)
          have B7 := Lib.hid (B6.out.trans (h7.2.below (fun i hi => hi.1.1) B6.out.size))
          have D7 := Lib.hid (D4.out.later B7.out)
          have C7 := Lib.hid (C4.out.later B7.out)
          have Q7 := Lib.hid (Q1.out.later (B4.out.trans (B7.out.mono B4.out.size)))
          clear h7 T6 S6 W6 B6 D4 C4 q0 q1 q2 hlen hP
          go_wp2_with fail
          go_loopw [15] (fun i wr => ∃ n : Nat, i = .int .i64 (n : Int) ∧ n ≤ 8 ∧ Below w7.heap.size w7 wr) (fun i _ => 8 - (intOf i).toNat)
          case atStart => exact ⟨0, rfl, Nat.zero_le _, Below.refl _ _⟩
          case round =>
            obtain ⟨n, rfl, hn, hb⟩ := hrel
            have HB := Lib.hid hb
            clear hb
            by_cases hn8 : n < 8
            · have hn1 : (n : Int) < 8 := by omega
              obtain ⟨wb, hwb⟩ : ∃ B : ByteArray, B.data.toList = D.getD n [] := ⟨⟨(D.getD n []).toArray⟩, by simp⟩
              obtain ⟨tb, htb⟩ : ∃ B : ByteArray, B.data.toList = (yd.crash c).V.getD n [] := ⟨⟨((yd.crash c).V.getD n []).toArray⟩, by simp⟩
              obtain ⟨sb, hsb⟩ : ∃ B : ByteArray, B.data.toList = yd.V.getD n [] := ⟨⟨(yd.V.getD n []).toArray⟩, by simp⟩
              have hcr := HO.out.ok.crash c
              have hcl : (yd.crash c).D.length = 8 := by show (crashTo _ _ _ _).length = 8; rw [crashTo_len, HO.out.d]; exact H8.out
              have hws : wb.size = 64 := by rw [Lib.size_eq, hwb, List.getD_eq_getElem?_getD, List.getElem?_eq_getElem (by rw [H8.out]; exact hn8)]; exact HOK.out.d _ (List.getElem_mem _)
              have hts : tb.size = 64 := by rw [Lib.size_eq, htb, List.getD_eq_getElem?_getD, List.getElem?_eq_getElem (by rw [Dr.vlen, hcl]; exact hn8)]; exact hcr.v _ (List.getElem_mem _)
              have RW := Lib.hid (show ∀ u, Below w7.heap.size w7 u → Calls Try.prog 18 #[.pointer (some ⟨g, 0, Option.none⟩), .int .i64 (n : Int)] u fun e w' => e = .returned (.tuple #[.string wb, .int .i64 0]) ∧ Below u.heap.size u w' from fun u hu => os_read (D7.out.later hu) HOK.out n (by rw [H8.out]; exact hn8) wb hwb)
              have RC := Lib.hid (show ∀ u, Below w7.heap.size w7 u → Calls Try.prog 18 #[.pointer (some ⟨gc, 0, Option.none⟩), .int .i64 (n : Int)] u fun e w' => e = .returned (.tuple #[.string wb, .int .i64 0]) ∧ Below u.heap.size u w' from fun u hu => os_read (C7.out.later hu) HOK.out n (by rw [H8.out]; exact hn8) wb hwb)
              have RT := Lib.hid (show ∀ u, Below w7.heap.size w7 u → Calls Try.prog 18 #[.pointer (some ⟨gt, 0, Option.none⟩), .int .i64 (n : Int)] u fun e w' => e = .returned (.tuple #[.string tb, .int .i64 0]) ∧ Below u.heap.size u w' from fun u hu => os_read (T7.out.later hu) hcr n (by rw [hcl]; exact hn8) tb htb)
              have RS := Lib.hid (show ∀ u, Below w7.heap.size w7 u → Calls Try.prog 18 #[.pointer (some ⟨gs, 0, Option.none⟩), .int .i64 (n : Int)] u fun e w' => e = .returned (.tuple #[.string sb, .int .i64 0]) ∧ Below u.heap.size u w' from fun u hu => os_read (S7.out.later hu) HO.out.ok n (by rw [HO.out.d, H8.out]; exact hn8) sb hsb)
              have HWB := Lib.hid hwb
              have HTB := Lib.hid htb
              have HSB := Lib.hid hsb
              clear hwb htb hsb hcr hcl
              have e1 : ((tb.size : Int) != 64) = false := by rw [hts]; rfl
              have e2 : ((wb.size : Int) != 64) = false := by rw [hws]; rfl
              have HTS := Lib.hid hts
              have HWS := Lib.hid hws
              clear hts hws
              go_wp2_with fail
              refine (RW.out _ HB.out).mono ?_
              rintro e v1 ⟨rfl, b1⟩
              have HB1 := Lib.hid (HB.out.trans (b1.mono HB.out.size))
              clear b1
              go_wp2_with fail
              refine (RC.out _ HB1.out).mono ?_
              rintro e v2 ⟨rfl, b2⟩
              have HB2 := Lib.hid (HB1.out.trans (b2.mono HB1.out.size))
              clear b2
              go_wp2_with fail
              refine (RT.out _ HB2.out).mono ?_
              rintro e v3 ⟨rfl, b3⟩
              have HB3 := Lib.hid (HB2.out.trans (b3.mono HB2.out.size))
              clear b3 HB HB1 HB2
              go_wp2_with fail
              go_loopw [22] (fun i wr => ∃ k : Nat, i = .int .i64 (k : Int) ∧ k ≤ 64 ∧ Below w7.heap.size w7 wr) (fun i _ => 64 - (intOf i).toNat)
              case atStart => exact ⟨0, rfl, Nat.zero_le _, HB3.out⟩
              case round =>
                obtain ⟨k, rfl, hk, hb⟩ := hrel
                have HB := Lib.hid hb
                clear hb HB3
                by_cases hk64 : k < 64
                · have hkt : k < tb.size := by have := HTS.out; omega
                  have hkw : k < wb.size := by have := HWS.out; omega
                  have hkt' : (k : Int) < (tb.size : Int) := by omega
                  have hkw' : (k : Int) < (wb.size : Int) := by omega
                  have hk0 : (0 : Int) ≤ (k : Int) := by omega
                  have HBD := Lib.hid (show Below w7.heap.size w7 wr.drew from HB.out.trans ((Below.refl _ wr).drew))
                  have hgt : ((yd.crash c).V.getD n [])[k]? = some tb[k] := by rw [← HTB.out, List.getElem?_eq_getElem (by rw [← Lib.size_eq]; exact hkt)]; rfl
                  have hgw : (D.getD n [])[k]? = some wb[k] := by rw [← HWB.out, List.getElem?_eq_getElem (by rw [← Lib.size_eq]; exact hkw)]; rfl
                  have hsure := sure_byte HO.out c n k hk64 tb[k] hgt
                  rw [hgw] at hsure
                  have HSU := Lib.hid hsure
                  clear hgt hgw hsure
                  go_upto_region 32 with (fail)
                  by_cases hbk : tb[k] = wb[k]
                  · have e3 : ((tb[k].toNat : Int) != (wb[k].toNat : Int)) = false := by rw [hbk]; simp
                    clear hbk
                    go_cut [167] (fun b wx => b = .bool false ∧ Below w7.heap.size w7 wx)
                    case first =>
                      refine wp_region_inv (I := (fun A0 L a u => ∃ (x0 x1 x2 x3 x4 x5 x6 x7 x8 x9 x10 x11 x12 x13 x14 x15 x16 : Value), a = putAll A0 [(151, x0), (152, x1), (153, x2), (154, x3), (155, x4), (156, x5), (157, x6), (158, x7), (159, x8), (160, x9), (161, x10), (162, x11), (163, x12), (164, x13), (165, x14), (166, x15), (167, x16)] ∧ (L 0 = true → x0 = (.string tb)) ∧ (L 1 = true → x1 = (.int .i64 (k : Int))) ∧ (L 2 = true → x2 = (.int .u8 (tb[k].toNat : Int))) ∧ (L 3 = true → x3 = (.string wb)) ∧ (L 4 = true → x4 = (.int .i64 (k : Int))) ∧ (L 5 = true → x5 = (.int .u8 (wb[k].toNat : Int))) ∧ (L 6 = true → x6 = (.bool false)) ∧ (L 7 = true → x7 = (.bool false)) ∧ (L 8 = true → x8 = undef) ∧ (L 9 = true → x9 = undef) ∧ (L 10 = true → x10 = undef) ∧ (L 11 = true → x11 = undef) ∧ (L 12 = true → x12 = undef) ∧ (L 13 = true → x13 = undef) ∧ (L 14 = true → x14 = undef) ∧ (L 15 = true → x15 = undef) ∧ (L 16 = true → x16 = (.bool false)) ∧ Below w7.heap.size w7 u)) (by kernel_rfl) (by kernel_rfl) ?_ ?_ ?_
                      · intro L hL
                        exact ⟨_, _, _, _, _, _, _, _, _, _, _, _, _, _, _, _, _, by (simp only [putAll, Act.put, List.setIfInBounds_toArray, List.set_cons_zero, List.set_cons_succ]; rfl), (fun h => absurd h (by rw [hL 0 (by decide)]; decide)), (fun h => absurd h (by rw [hL 1 (by decide)]; decide)), (fun h => absurd h (by rw [hL 2 (by decide)]; decide)), (fun h => absurd h (by rw [hL 3 (by decide)]; decide)), (fun h => absurd h (by rw [hL 4 (by decide)]; decide)), (fun h => absurd h (by rw [hL 5 (by decide)]; decide)), (fun h => absurd h (by rw [hL 6 (by decide)]; decide)), (fun h => absurd h (by rw [hL 7 (by decide)]; decide)), (fun h => absurd h (by rw [hL 8 (by decide)]; decide)), (fun h => absurd h (by rw [hL 9 (by decide)]; decide)), (fun h => absurd h (by rw [hL 10 (by decide)]; decide)), (fun h => absurd h (by rw [hL 11 (by decide)]; decide)), (fun h => absurd h (by rw [hL 12 (by decide)]; decide)), (fun h => absurd h (by rw [hL 13 (by decide)]; decide)), (fun h => absurd h (by rw [hL 14 (by decide)]; decide)), (fun h => absurd h (by rw [hL 15 (by decide)]; decide)), (fun h => absurd h (by rw [hL 16 (by decide)]; decide)), HBD.out⟩
                      refine Steps.cons (i := 0) rfl ?_ ?_
                      · rintro L a u ⟨x0, x1, x2, x3, x4, x5, x6, x7, x8, x9, x10, x11, x12, x13, x14, x15, x16, rfl, h0, h1, h2, h3, h4, h5, h6, h7, h8, h9, h10, h11, h12, h13, h14, h15, h16, hm⟩ hi hd K hK
                        simp only [putAll, Act.put, List.setIfInBounds_toArray, List.set_cons_zero, List.set_cons_succ]
                        (try simp [Region.binds] at hd)
                        replace h0 := Lib.hid h0
                        replace h1 := Lib.hid h1
                        replace h2 := Lib.hid h2
                        replace h3 := Lib.hid h3
                        replace h4 := Lib.hid h4
                        replace h5 := Lib.hid h5
                        replace h6 := Lib.hid h6
                        replace h7 := Lib.hid h7
                        replace h8 := Lib.hid h8
                        replace h9 := Lib.hid h9
                        replace h10 := Lib.hid h10
                        replace h11 := Lib.hid h11
                        replace h12 := Lib.hid h12
                        replace h13 := Lib.hid h13
                        replace h14 := Lib.hid h14
                        replace h15 := Lib.hid h15
                        replace h16 := Lib.hid h16
                        go_simp
                        exact hK.out _ _ ⟨_, _, _, _, _, _, _, _, _, _, _, _, _, _, _, _, _, by ((simp only [putAll, Act.put, List.setIfInBounds_toArray, List.set_cons_zero, List.set_cons_succ]) <;> rfl), (fun _ => rfl), h1.out, h2.out, h3.out, h4.out, h5.out, h6.out, h7.out, h8.out, h9.out, h10.out, h11.out, h12.out, h13.out, h14.out, h15.out, h16.out, hm⟩
                      refine Steps.cons (i := 1) rfl ?_ ?_
                      · rintro L a u ⟨x0, x1, x2, x3, x4, x5, x6, x7, x8, x9, x10, x11, x12, x13, x14, x15, x16, rfl, h0, h1, h2, h3, h4, h5, h6, h7, h8, h9, h10, h11, h12, h13, h14, h15, h16, hm⟩ hi hd K hK
                        simp only [putAll, Act.put, List.setIfInBounds_toArray, List.set_cons_zero, List.set_cons_succ]
                        (try simp [Region.binds] at hd)
                        replace h0 := Lib.hid h0
                        replace h1 := Lib.hid h1
                        replace h2 := Lib.hid h2
                        replace h3 := Lib.hid h3
                        replace h4 := Lib.hid h4
                        replace h5 := Lib.hid h5
                        replace h6 := Lib.hid h6
                        replace h7 := Lib.hid h7
                        replace h8 := Lib.hid h8
                        replace h9 := Lib.hid h9
                        replace h10 := Lib.hid h10
                        replace h11 := Lib.hid h11
                        replace h12 := Lib.hid h12
                        replace h13 := Lib.hid h13
                        replace h14 := Lib.hid h14
                        replace h15 := Lib.hid h15
                        replace h16 := Lib.hid h16
                        go_simp
                        exact hK.out _ _ ⟨_, _, _, _, _, _, _, _, _, _, _, _, _, _, _, _, _, by ((simp only [putAll, Act.put, List.setIfInBounds_toArray, List.set_cons_zero, List.set_cons_succ]) <;> rfl), h0.out, (fun _ => rfl), h2.out, h3.out, h4.out, h5.out, h6.out, h7.out, h8.out, h9.out, h10.out, h11.out, h12.out, h13.out, h14.out, h15.out, h16.out, hm⟩
                      refine Steps.cons (i := 2) rfl ?_ ?_
                      · rintro L a u ⟨x0, x1, x2, x3, x4, x5, x6, x7, x8, x9, x10, x11, x12, x13, x14, x15, x16, rfl, h0, h1, h2, h3, h4, h5, h6, h7, h8, h9, h10, h11, h12, h13, h14, h15, h16, hm⟩ hi hd K hK
                        simp only [putAll, Act.put, List.setIfInBounds_toArray, List.set_cons_zero, List.set_cons_succ]
                        (try simp [Region.binds] at hd)
                        replace h0 := Lib.hid h0
                        replace h1 := Lib.hid h1
                        replace h2 := Lib.hid h2
                        replace h3 := Lib.hid h3
                        replace h4 := Lib.hid h4
                        replace h5 := Lib.hid h5
                        replace h6 := Lib.hid h6
                        replace h7 := Lib.hid h7
                        replace h8 := Lib.hid h8
                        replace h9 := Lib.hid h9
                        replace h10 := Lib.hid h10
                        replace h11 := Lib.hid h11
                        replace h12 := Lib.hid h12
                        replace h13 := Lib.hid h13
                        replace h14 := Lib.hid h14
                        replace h15 := Lib.hid h15
                        replace h16 := Lib.hid h16
                        obtain rfl := (h0.out (by simp [hd])).symm
                        obtain rfl := (h1.out (by simp [hd])).symm
                        go_simp
                        exact hK.out _ _ ⟨_, _, _, _, _, _, _, _, _, _, _, _, _, _, _, _, _, by ((simp only [putAll, Act.put, List.setIfInBounds_toArray, List.set_cons_zero, List.set_cons_succ]) <;> rfl), h0.out, h1.out, (fun _ => rfl), h3.out, h4.out, h5.out, h6.out, h7.out, h8.out, h9.out, h10.out, h11.out, h12.out, h13.out, h14.out, h15.out, h16.out, hm⟩
                      refine Steps.cons (i := 3) rfl ?_ ?_
                      · rintro L a u ⟨x0, x1, x2, x3, x4, x5, x6, x7, x8, x9, x10, x11, x12, x13, x14, x15, x16, rfl, h0, h1, h2, h3, h4, h5, h6, h7, h8, h9, h10, h11, h12, h13, h14, h15, h16, hm⟩ hi hd K hK
                        simp only [putAll, Act.put, List.setIfInBounds_toArray, List.set_cons_zero, List.set_cons_succ]
                        (try simp [Region.binds] at hd)
                        replace h0 := Lib.hid h0
                        replace h1 := Lib.hid h1
                        replace h2 := Lib.hid h2
                        replace h3 := Lib.hid h3
                        replace h4 := Lib.hid h4
                        replace h5 := Lib.hid h5
                        replace h6 := Lib.hid h6
                        replace h7 := Lib.hid h7
                        replace h8 := Lib.hid h8
                        replace h9 := Lib.hid h9
                        replace h10 := Lib.hid h10
                        replace h11 := Lib.hid h11
                        replace h12 := Lib.hid h12
                        replace h13 := Lib.hid h13
                        replace h14 := Lib.hid h14
                        replace h15 := Lib.hid h15
                        replace h16 := Lib.hid h16
                        go_simp
                        exact hK.out _ _ ⟨_, _, _, _, _, _, _, _, _, _, _, _, _, _, _, _, _, by ((simp only [putAll, Act.put, List.setIfInBounds_toArray, List.set_cons_zero, List.set_cons_succ]) <;> rfl), h0.out, h1.out, h2.out, (fun _ => rfl), h4.out, h5.out, h6.out, h7.out, h8.out, h9.out, h10.out, h11.out, h12.out, h13.out, h14.out, h15.out, h16.out, hm⟩
                      refine Steps.cons (i := 4) rfl ?_ ?_
                      · rintro L a u ⟨x0, x1, x2, x3, x4, x5, x6, x7, x8, x9, x10, x11, x12, x13, x14, x15, x16, rfl, h0, h1, h2, h3, h4, h5, h6, h7, h8, h9, h10, h11, h12, h13, h14, h15, h16, hm⟩ hi hd K hK
                        simp only [putAll, Act.put, List.setIfInBounds_toArray, List.set_cons_zero, List.set_cons_succ]
                        (try simp [Region.binds] at hd)
                        replace h0 := Lib.hid h0
                        replace h1 := Lib.hid h1
                        replace h2 := Lib.hid h2
                        replace h3 := Lib.hid h3
                        replace h4 := Lib.hid h4
                        replace h5 := Lib.hid h5
                        replace h6 := Lib.hid h6
                        replace h7 := Lib.hid h7
                        replace h8 := Lib.hid h8
                        replace h9 := Lib.hid h9
                        replace h10 := Lib.hid h10
                        replace h11 := Lib.hid h11
                        replace h12 := Lib.hid h12
                        replace h13 := Lib.hid h13
                        replace h14 := Lib.hid h14
                        replace h15 := Lib.hid h15
                        replace h16 := Lib.hid h16
                        go_simp
                        exact hK.out _ _ ⟨_, _, _, _, _, _, _, _, _, _, _, _, _, _, _, _, _, by ((simp only [putAll, Act.put, List.setIfInBounds_toArray, List.set_cons_zero, List.set_cons_succ]) <;> rfl), h0.out, h1.out, h2.out, h3.out, (fun _ => rfl), h5.out, h6.out, h7.out, h8.out, h9.out, h10.out, h11.out, h12.out, h13.out, h14.out, h15.out, h16.out, hm⟩
                      refine Steps.cons (i := 5) rfl ?_ ?_
                      · rintro L a u ⟨x0, x1, x2, x3, x4, x5, x6, x7, x8, x9, x10, x11, x12, x13, x14, x15, x16, rfl, h0, h1, h2, h3, h4, h5, h6, h7, h8, h9, h10, h11, h12, h13, h14, h15, h16, hm⟩ hi hd K hK
                        simp only [putAll, Act.put, List.setIfInBounds_toArray, List.set_cons_zero, List.set_cons_succ]
                        (try simp [Region.binds] at hd)
                        replace h0 := Lib.hid h0
                        replace h1 := Lib.hid h1
                        replace h2 := Lib.hid h2
                        replace h3 := Lib.hid h3
                        replace h4 := Lib.hid h4
                        replace h5 := Lib.hid h5
                        replace h6 := Lib.hid h6
                        replace h7 := Lib.hid h7
                        replace h8 := Lib.hid h8
                        replace h9 := Lib.hid h9
                        replace h10 := Lib.hid h10
                        replace h11 := Lib.hid h11
                        replace h12 := Lib.hid h12
                        replace h13 := Lib.hid h13
                        replace h14 := Lib.hid h14
                        replace h15 := Lib.hid h15
                        replace h16 := Lib.hid h16
                        obtain rfl := (h3.out (by simp [hd])).symm
                        obtain rfl := (h4.out (by simp [hd])).symm
                        go_simp
                        exact hK.out _ _ ⟨_, _, _, _, _, _, _, _, _, _, _, _, _, _, _, _, _, by ((simp only [putAll, Act.put, List.setIfInBounds_toArray, List.set_cons_zero, List.set_cons_succ]) <;> rfl), h0.out, h1.out, h2.out, h3.out, h4.out, (fun _ => rfl), h6.out, h7.out, h8.out, h9.out, h10.out, h11.out, h12.out, h13.out, h14.out, h15.out, h16.out, hm⟩
                      refine Steps.cons (i := 6) rfl ?_ ?_
                      · rintro L a u ⟨x0, x1, x2, x3, x4, x5, x6, x7, x8, x9, x10, x11, x12, x13, x14, x15, x16, rfl, h0, h1, h2, h3, h4, h5, h6, h7, h8, h9, h10, h11, h12, h13, h14, h15, h16, hm⟩ hi hd K hK
                        simp only [putAll, Act.put, List.setIfInBounds_toArray, List.set_cons_zero, List.set_cons_succ]
                        (try simp [Region.binds] at hd)
                        replace h0 := Lib.hid h0
                        replace h1 := Lib.hid h1
                        replace h2 := Lib.hid h2
                        replace h3 := Lib.hid h3
                        replace h4 := Lib.hid h4
                        replace h5 := Lib.hid h5
                        replace h6 := Lib.hid h6
                        replace h7 := Lib.hid h7
                        replace h8 := Lib.hid h8
                        replace h9 := Lib.hid h9
                        replace h10 := Lib.hid h10
                        replace h11 := Lib.hid h11
                        replace h12 := Lib.hid h12
                        replace h13 := Lib.hid h13
                        replace h14 := Lib.hid h14
                        replace h15 := Lib.hid h15
                        replace h16 := Lib.hid h16
                        obtain rfl := (h2.out (by simp [hd])).symm
                        obtain rfl := (h5.out (by simp [hd])).symm
                        go_simp
                        exact hK.out _ _ ⟨_, _, _, _, _, _, _, _, _, _, _, _, _, _, _, _, _, by ((simp only [putAll, Act.put, List.setIfInBounds_toArray, List.set_cons_zero, List.set_cons_succ]) <;> rfl), h0.out, h1.out, h2.out, h3.out, h4.out, h5.out, (fun _ => rfl), h7.out, h8.out, h9.out, h10.out, h11.out, h12.out, h13.out, h14.out, h15.out, h16.out, hm⟩
                      refine Steps.cons (i := 7) rfl ?_ ?_
                      · rintro L a u ⟨x0, x1, x2, x3, x4, x5, x6, x7, x8, x9, x10, x11, x12, x13, x14, x15, x16, rfl, h0, h1, h2, h3, h4, h5, h6, h7, h8, h9, h10, h11, h12, h13, h14, h15, h16, hm⟩ hi hd K hK
                        simp only [putAll, Act.put, List.setIfInBounds_toArray, List.set_cons_zero, List.set_cons_succ]
                        (try simp [Region.binds] at hd)
                        replace h0 := Lib.hid h0
                        replace h1 := Lib.hid h1
                        replace h2 := Lib.hid h2
                        replace h3 := Lib.hid h3
                        replace h4 := Lib.hid h4
                        replace h5 := Lib.hid h5
                        replace h6 := Lib.hid h6
                        replace h7 := Lib.hid h7
                        replace h8 := Lib.hid h8
                        replace h9 := Lib.hid h9
                        replace h10 := Lib.hid h10
                        replace h11 := Lib.hid h11
                        replace h12 := Lib.hid h12
                        replace h13 := Lib.hid h13
                        replace h14 := Lib.hid h14
                        replace h15 := Lib.hid h15
                        replace h16 := Lib.hid h16
                        obtain rfl := (h6.out (by simp [hd])).symm
                        go_simp
                        exact hK.out _ _ ⟨_, _, _, _, _, _, _, _, _, _, _, _, _, _, _, _, _, by ((simp only [putAll, Act.put, List.setIfInBounds_toArray, List.set_cons_zero, List.set_cons_succ]) <;> rfl), h0.out, h1.out, h2.out, h3.out, h4.out, h5.out, h6.out, (fun _ => rfl), h8.out, h9.out, h10.out, h11.out, h12.out, h13.out, h14.out, h15.out, h16.out, hm⟩
                      refine Steps.cons (i := 8) rfl ?_ ?_
                      · rintro L a u ⟨x0, x1, x2, x3, x4, x5, x6, x7, x8, x9, x10, x11, x12, x13, x14, x15, x16, rfl, h0, h1, h2, h3, h4, h5, h6, h7, h8, h9, h10, h11, h12, h13, h14, h15, h16, hm⟩ hi hd K hK
                        simp only [putAll, Act.put, List.setIfInBounds_toArray, List.set_cons_zero, List.set_cons_succ]
                        (try simp [Region.binds] at hd)
                        replace h0 := Lib.hid h0
                        replace h1 := Lib.hid h1
                        replace h2 := Lib.hid h2
                        replace h3 := Lib.hid h3
                        replace h4 := Lib.hid h4
                        replace h5 := Lib.hid h5
                        replace h6 := Lib.hid h6
                        replace h7 := Lib.hid h7
                        replace h8 := Lib.hid h8
                        replace h9 := Lib.hid h9
                        replace h10 := Lib.hid h10
                        replace h11 := Lib.hid h11
                        replace h12 := Lib.hid h12
                        replace h13 := Lib.hid h13
                        replace h14 := Lib.hid h14
                        replace h15 := Lib.hid h15
                        replace h16 := Lib.hid h16
                        obtain rfl := (h7.out (by simp [hd])).symm
                        go_simp
                        exact hK.out _ _ ⟨_, _, _, _, _, _, _, _, _, _, _, _, _, _, _, _, _, by ((simp only [putAll, Act.put, List.setIfInBounds_toArray, List.set_cons_zero, List.set_cons_succ]) <;> rfl), h0.out, h1.out, h2.out, h3.out, h4.out, h5.out, h6.out, h7.out, (fun _ => rfl), h9.out, h10.out, h11.out, h12.out, h13.out, h14.out, h15.out, h16.out, hm⟩
                      refine Steps.cons (i := 9) rfl ?_ ?_
                      · rintro L a u ⟨x0, x1, x2, x3, x4, x5, x6, x7, x8, x9, x10, x11, x12, x13, x14, x15, x16, rfl, h0, h1, h2, h3, h4, h5, h6, h7, h8, h9, h10, h11, h12, h13, h14, h15, h16, hm⟩ hi hd K hK
                        simp only [putAll, Act.put, List.setIfInBounds_toArray, List.set_cons_zero, List.set_cons_succ]
                        (try simp [Region.binds] at hd)
                        replace h0 := Lib.hid h0
                        replace h1 := Lib.hid h1
                        replace h2 := Lib.hid h2
                        replace h3 := Lib.hid h3
                        replace h4 := Lib.hid h4
                        replace h5 := Lib.hid h5
                        replace h6 := Lib.hid h6
                        replace h7 := Lib.hid h7
                        replace h8 := Lib.hid h8
                        replace h9 := Lib.hid h9
                        replace h10 := Lib.hid h10
                        replace h11 := Lib.hid h11
                        replace h12 := Lib.hid h12
                        replace h13 := Lib.hid h13
                        replace h14 := Lib.hid h14
                        replace h15 := Lib.hid h15
                        replace h16 := Lib.hid h16
                        obtain rfl := (h7.out (by simp [hd])).symm
                        go_simp
                        exact hK.out _ _ ⟨_, _, _, _, _, _, _, _, _, _, _, _, _, _, _, _, _, by ((simp only [putAll, Act.put, List.setIfInBounds_toArray, List.set_cons_zero, List.set_cons_succ]) <;> rfl), h0.out, h1.out, h2.out, h3.out, h4.out, h5.out, h6.out, h7.out, h8.out, (fun _ => rfl), h10.out, h11.out, h12.out, h13.out, h14.out, h15.out, h16.out, hm⟩
                      refine Steps.cons (i := 10) rfl ?_ ?_
                      · rintro L a u ⟨x0, x1, x2, x3, x4, x5, x6, x7, x8, x9, x10, x11, x12, x13, x14, x15, x16, rfl, h0, h1, h2, h3, h4, h5, h6, h7, h8, h9, h10, h11, h12, h13, h14, h15, h16, hm⟩ hi hd K hK
                        simp only [putAll, Act.put, List.setIfInBounds_toArray, List.set_cons_zero, List.set_cons_succ]
                        (try simp [Region.binds] at hd)
                        replace h0 := Lib.hid h0
                        replace h1 := Lib.hid h1
                        replace h2 := Lib.hid h2
                        replace h3 := Lib.hid h3
                        replace h4 := Lib.hid h4
                        replace h5 := Lib.hid h5
                        replace h6 := Lib.hid h6
                        replace h7 := Lib.hid h7
                        replace h8 := Lib.hid h8
                        replace h9 := Lib.hid h9
                        replace h10 := Lib.hid h10
                        replace h11 := Lib.hid h11
                        replace h12 := Lib.hid h12
                        replace h13 := Lib.hid h13
                        replace h14 := Lib.hid h14
                        replace h15 := Lib.hid h15
                        replace h16 := Lib.hid h16
                        obtain rfl := (h7.out (by simp [hd])).symm
                        go_simp
                        exact hK.out _ _ ⟨_, _, _, _, _, _, _, _, _, _, _, _, _, _, _, _, _, by ((simp only [putAll, Act.put, List.setIfInBounds_toArray, List.set_cons_zero, List.set_cons_succ]) <;> rfl), h0.out, h1.out, h2.out, h3.out, h4.out, h5.out, h6.out, h7.out, h8.out, h9.out, (fun _ => rfl), h11.out, h12.out, h13.out, h14.out, h15.out, h16.out, hm⟩
                      refine Steps.cons (i := 11) rfl ?_ ?_
                      · rintro L a u ⟨x0, x1, x2, x3, x4, x5, x6, x7, x8, x9, x10, x11, x12, x13, x14, x15, x16, rfl, h0, h1, h2, h3, h4, h5, h6, h7, h8, h9, h10, h11, h12, h13, h14, h15, h16, hm⟩ hi hd K hK
                        simp only [putAll, Act.put, List.setIfInBounds_toArray, List.set_cons_zero, List.set_cons_succ]
                        (try simp [Region.binds] at hd)
                        replace h0 := Lib.hid h0
                        replace h1 := Lib.hid h1
                        replace h2 := Lib.hid h2
                        replace h3 := Lib.hid h3
                        replace h4 := Lib.hid h4
                        replace h5 := Lib.hid h5
                        replace h6 := Lib.hid h6
                        replace h7 := Lib.hid h7
                        replace h8 := Lib.hid h8
                        replace h9 := Lib.hid h9
                        replace h10 := Lib.hid h10
                        replace h11 := Lib.hid h11
                        replace h12 := Lib.hid h12
                        replace h13 := Lib.hid h13
                        replace h14 := Lib.hid h14
                        replace h15 := Lib.hid h15
                        replace h16 := Lib.hid h16
                        obtain rfl := (h7.out (by simp [hd])).symm
                        go_simp
                        exact hK.out _ _ ⟨_, _, _, _, _, _, _, _, _, _, _, _, _, _, _, _, _, by ((simp only [putAll, Act.put, List.setIfInBounds_toArray, List.set_cons_zero, List.set_cons_succ]) <;> rfl), h0.out, h1.out, h2.out, h3.out, h4.out, h5.out, h6.out, h7.out, h8.out, h9.out, h10.out, (fun _ => rfl), h12.out, h13.out, h14.out, h15.out, h16.out, hm⟩
                      refine Steps.cons (i := 12) rfl ?_ ?_
                      · rintro L a u ⟨x0, x1, x2, x3, x4, x5, x6, x7, x8, x9, x10, x11, x12, x13, x14, x15, x16, rfl, h0, h1, h2, h3, h4, h5, h6, h7, h8, h9, h10, h11, h12, h13, h14, h15, h16, hm⟩ hi hd K hK
                        simp only [putAll, Act.put, List.setIfInBounds_toArray, List.set_cons_zero, List.set_cons_succ]
                        (try simp [Region.binds] at hd)
                        replace h0 := Lib.hid h0
                        replace h1 := Lib.hid h1
                        replace h2 := Lib.hid h2
                        replace h3 := Lib.hid h3
                        replace h4 := Lib.hid h4
                        replace h5 := Lib.hid h5
                        replace h6 := Lib.hid h6
                        replace h7 := Lib.hid h7
                        replace h8 := Lib.hid h8
                        replace h9 := Lib.hid h9
                        replace h10 := Lib.hid h10
                        replace h11 := Lib.hid h11
                        replace h12 := Lib.hid h12
                        replace h13 := Lib.hid h13
                        replace h14 := Lib.hid h14
                        replace h15 := Lib.hid h15
                        replace h16 := Lib.hid h16
                        obtain rfl := (h7.out (by simp [hd])).symm
                        go_simp
                        exact hK.out _ _ ⟨_, _, _, _, _, _, _, _, _, _, _, _, _, _, _, _, _, by ((simp only [putAll, Act.put, List.setIfInBounds_toArray, List.set_cons_zero, List.set_cons_succ]) <;> rfl), h0.out, h1.out, h2.out, h3.out, h4.out, h5.out, h6.out, h7.out, h8.out, h9.out, h10.out, h11.out, (fun _ => rfl), h13.out, h14.out, h15.out, h16.out, hm⟩
                      refine Steps.cons (i := 13) rfl ?_ ?_
                      · rintro L a u ⟨x0, x1, x2, x3, x4, x5, x6, x7, x8, x9, x10, x11, x12, x13, x14, x15, x16, rfl, h0, h1, h2, h3, h4, h5, h6, h7, h8, h9, h10, h11, h12, h13, h14, h15, h16, hm⟩ hi hd K hK
                        simp only [putAll, Act.put, List.setIfInBounds_toArray, List.set_cons_zero, List.set_cons_succ]
                        (try simp [Region.binds] at hd)
                        replace h0 := Lib.hid h0
                        replace h1 := Lib.hid h1
                        replace h2 := Lib.hid h2
                        replace h3 := Lib.hid h3
                        replace h4 := Lib.hid h4
                        replace h5 := Lib.hid h5
                        replace h6 := Lib.hid h6
                        replace h7 := Lib.hid h7
                        replace h8 := Lib.hid h8
                        replace h9 := Lib.hid h9
                        replace h10 := Lib.hid h10
                        replace h11 := Lib.hid h11
                        replace h12 := Lib.hid h12
                        replace h13 := Lib.hid h13
                        replace h14 := Lib.hid h14
                        replace h15 := Lib.hid h15
                        replace h16 := Lib.hid h16
                        obtain rfl := (h7.out (by simp [hd])).symm
                        go_simp
                        exact hK.out _ _ ⟨_, _, _, _, _, _, _, _, _, _, _, _, _, _, _, _, _, by ((simp only [putAll, Act.put, List.setIfInBounds_toArray, List.set_cons_zero, List.set_cons_succ]) <;> rfl), h0.out, h1.out, h2.out, h3.out, h4.out, h5.out, h6.out, h7.out, h8.out, h9.out, h10.out, h11.out, h12.out, (fun _ => rfl), h14.out, h15.out, h16.out, hm⟩
                      refine Steps.cons (i := 14) rfl ?_ ?_
                      · rintro L a u ⟨x0, x1, x2, x3, x4, x5, x6, x7, x8, x9, x10, x11, x12, x13, x14, x15, x16, rfl, h0, h1, h2, h3, h4, h5, h6, h7, h8, h9, h10, h11, h12, h13, h14, h15, h16, hm⟩ hi hd K hK
                        simp only [putAll, Act.put, List.setIfInBounds_toArray, List.set_cons_zero, List.set_cons_succ]
                        (try simp [Region.binds] at hd)
                        replace h0 := Lib.hid h0
                        replace h1 := Lib.hid h1
                        replace h2 := Lib.hid h2
                        replace h3 := Lib.hid h3
                        replace h4 := Lib.hid h4
                        replace h5 := Lib.hid h5
                        replace h6 := Lib.hid h6
                        replace h7 := Lib.hid h7
                        replace h8 := Lib.hid h8
                        replace h9 := Lib.hid h9
                        replace h10 := Lib.hid h10
                        replace h11 := Lib.hid h11
                        replace h12 := Lib.hid h12
                        replace h13 := Lib.hid h13
                        replace h14 := Lib.hid h14
                        replace h15 := Lib.hid h15
                        replace h16 := Lib.hid h16
                        obtain rfl := (h7.out (by simp [hd])).symm
                        go_simp
                        exact hK.out _ _ ⟨_, _, _, _, _, _, _, _, _, _, _, _, _, _, _, _, _, by ((simp only [putAll, Act.put, List.setIfInBounds_toArray, List.set_cons_zero, List.set_cons_succ]) <;> rfl), h0.out, h1.out, h2.out, h3.out, h4.out, h5.out, h6.out, h7.out, h8.out, h9.out, h10.out, h11.out, h12.out, h13.out, (fun _ => rfl), h15.out, h16.out, hm⟩
                      refine Steps.cons (i := 15) rfl ?_ ?_
                      · rintro L a u ⟨x0, x1, x2, x3, x4, x5, x6, x7, x8, x9, x10, x11, x12, x13, x14, x15, x16, rfl, h0, h1, h2, h3, h4, h5, h6, h7, h8, h9, h10, h11, h12, h13, h14, h15, h16, hm⟩ hi hd K hK
                        simp only [putAll, Act.put, List.setIfInBounds_toArray, List.set_cons_zero, List.set_cons_succ]
                        (try simp [Region.binds] at hd)
                        replace h0 := Lib.hid h0
                        replace h1 := Lib.hid h1
                        replace h2 := Lib.hid h2
                        replace h3 := Lib.hid h3
                        replace h4 := Lib.hid h4
                        replace h5 := Lib.hid h5
                        replace h6 := Lib.hid h6
                        replace h7 := Lib.hid h7
                        replace h8 := Lib.hid h8
                        replace h9 := Lib.hid h9
                        replace h10 := Lib.hid h10
                        replace h11 := Lib.hid h11
                        replace h12 := Lib.hid h12
                        replace h13 := Lib.hid h13
                        replace h14 := Lib.hid h14
                        replace h15 := Lib.hid h15
                        replace h16 := Lib.hid h16
                        obtain rfl := (h7.out (by simp [hd])).symm
                        go_simp
                        exact hK.out _ _ ⟨_, _, _, _, _, _, _, _, _, _, _, _, _, _, _, _, _, by ((simp only [putAll, Act.put, List.setIfInBounds_toArray, List.set_cons_zero, List.set_cons_succ]) <;> rfl), h0.out, h1.out, h2.out, h3.out, h4.out, h5.out, h6.out, h7.out, h8.out, h9.out, h10.out, h11.out, h12.out, h13.out, h14.out, (fun _ => rfl), h16.out, hm⟩
                      refine Steps.cons (i := 16) rfl ?_ ?_
                      · rintro L a u ⟨x0, x1, x2, x3, x4, x5, x6, x7, x8, x9, x10, x11, x12, x13, x14, x15, x16, rfl, h0, h1, h2, h3, h4, h5, h6, h7, h8, h9, h10, h11, h12, h13, h14, h15, h16, hm⟩ hi hd K hK
                        simp only [putAll, Act.put, List.setIfInBounds_toArray, List.set_cons_zero, List.set_cons_succ]
                        (try simp [Region.binds] at hd)
                        replace h0 := Lib.hid h0
                        replace h1 := Lib.hid h1
                        replace h2 := Lib.hid h2
                        replace h3 := Lib.hid h3
                        replace h4 := Lib.hid h4
                        replace h5 := Lib.hid h5
                        replace h6 := Lib.hid h6
                        replace h7 := Lib.hid h7
                        replace h8 := Lib.hid h8
                        replace h9 := Lib.hid h9
                        replace h10 := Lib.hid h10
                        replace h11 := Lib.hid h11
                        replace h12 := Lib.hid h12
                        replace h13 := Lib.hid h13
                        replace h14 := Lib.hid h14
                        replace h15 := Lib.hid h15
                        replace h16 := Lib.hid h16
                        obtain rfl := (h7.out (by simp [hd])).symm
                        go_simp
                        exact hK.out _ _ ⟨_, _, _, _, _, _, _, _, _, _, _, _, _, _, _, _, _, by ((simp only [putAll, Act.put, List.setIfInBounds_toArray, List.set_cons_zero, List.set_cons_succ]) <;> rfl), h0.out, h1.out, h2.out, h3.out, h4.out, h5.out, h6.out, h7.out, h8.out, h9.out, h10.out, h11.out, h12.out, h13.out, h14.out, h15.out, (fun _ => rfl), hm⟩
                      · exact Steps.nil
                      · rintro L a u ⟨x0, x1, x2, x3, x4, x5, x6, x7, x8, x9, x10, x11, x12, x13, x14, x15, x16, rfl, h0, h1, h2, h3, h4, h5, h6, h7, h8, h9, h10, h11, h12, h13, h14, h15, h16, hm⟩ hall
                        obtain rfl := (h16 (hall 16 (by decide))).symm
                        simp only [putAll, Act.put, List.setIfInBounds_toArray, List.set_cons_zero, List.set_cons_succ]
                        go_wp2_with fail
                        go_meet
                        exact ⟨rfl, hm⟩
                    obtain ⟨rfl, hm⟩ := hcut
                    have HM := Lib.hid hm
                    clear hm
                    go_wp2_with fail
                    go_roundw
                    case rel => exact ⟨k + 1, by go_num, by omega, HM.out⟩
                    case measure => simp [intOf]; omega
                  · have e3 : ((tb[k].toNat : Int) != (wb[k].toNat : Int)) = true := by
                      simp only [bne_iff_ne, ne_eq, Int.ofNat_inj]
                      exact fun h2 => hbk (UInt8.toNat_inj.1 h2)
                    obtain ⟨i0, hi0, hin, hib⟩ := HSU.out.resolve_left fun h => hbk (Option.some.inj h).symm
                    have hAl : A.length ≤ 100000 := by omega
                    obtain ⟨ap, acap, rfl, hacs⟩ := acs_own W7.out rfl (by omega)
                    have KW := Lib.hid (show ∀ u, Below w7.heap.size w7 u → Calls Try.prog 20 #[.slice ap A.length acap, .int .i64 (n : Int), .int .i64 (k : Int), .int .u8 (tb[k].toNat : Int)] u fun e w' => e = .returned (.bool true) ∧ u = w' from fun u hu => wrote_c A ap acap k i0 n tb[k] u (hacs.later hu) (fun x hx => (HO.out.a x hx).2) hAl hk64 hi0 hin hib)
                    clear hbk hin hib hacs
                    go_cut [167] (fun b wx => b = .bool false ∧ Below w7.heap.size w7 wx)
                    case first =>
                      refine wp_region_inv (I := (fun A0 L a u => ∃ (x0 x1 x2 x3 x4 x5 x6 x7 x8 x9 x10 x11 x12 x13 x14 x15 x16 : Value), a = putAll A0 [(151, x0), (152, x1), (153, x2), (154, x3), (155, x4), (156, x5), (157, x6), (158, x7), (159, x8), (160, x9), (161, x10), (162, x11), (163, x12), (164, x13), (165, x14), (166, x15), (167, x16)] ∧ (L 0 = true → x0 = (.string tb)) ∧ (L 1 = true → x1 = (.int .i64 (k : Int))) ∧ (L 2 = true → x2 = (.int .u8 (tb[k].toNat : Int))) ∧ (L 3 = true → x3 = (.string wb)) ∧ (L 4 = true → x4 = (.int .i64 (k : Int))) ∧ (L 5 = true → x5 = (.int .u8 (wb[k].toNat : Int))) ∧ (L 6 = true → x6 = (.bool true)) ∧ (L 7 = true → x7 = (.bool true)) ∧ (L 8 = true → x8 = (.slice ap A.length acap)) ∧ (L 9 = true → x9 = (.int .i64 (n : Int))) ∧ (L 10 = true → x10 = (.int .i64 (k : Int))) ∧ (L 11 = true → x11 = (.string tb)) ∧ (L 12 = true → x12 = (.int .i64 (k : Int))) ∧ (L 13 = true → x13 = (.int .u8 (tb[k].toNat : Int))) ∧ (L 14 = true → x14 = (.bool true)) ∧ (L 15 = true → x15 = (.bool false)) ∧ (L 16 = true → x16 = (.bool false)) ∧ Below w7.heap.size w7 u)) (by kernel_rfl) (by kernel_rfl) ?_ ?_ ?_
                      · intro L hL
                        exact ⟨_, _, _, _, _, _, _, _, _, _, _, _, _, _, _, _, _, by (simp only [putAll, Act.put, List.setIfInBounds_toArray, List.set_cons_zero, List.set_cons_succ]; rfl), (fun h => absurd h (by rw [hL 0 (by decide)]; decide)), (fun h => absurd h (by rw [hL 1 (by decide)]; decide)), (fun h => absurd h (by rw [hL 2 (by decide)]; decide)), (fun h => absurd h (by rw [hL 3 (by decide)]; decide)), (fun h => absurd h (by rw [hL 4 (by decide)]; decide)), (fun h => absurd h (by rw [hL 5 (by decide)]; decide)), (fun h => absurd h (by rw [hL 6 (by decide)]; decide)), (fun h => absurd h (by rw [hL 7 (by decide)]; decide)), (fun h => absurd h (by rw [hL 8 (by decide)]; decide)), (fun h => absurd h (by rw [hL 9 (by decide)]; decide)), (fun h => absurd h (by rw [hL 10 (by decide)]; decide)), (fun h => absurd h (by rw [hL 11 (by decide)]; decide)), (fun h => absurd h (by rw [hL 12 (by decide)]; decide)), (fun h => absurd h (by rw [hL 13 (by decide)]; decide)), (fun h => absurd h (by rw [hL 14 (by decide)]; decide)), (fun h => absurd h (by rw [hL 15 (by decide)]; decide)), (fun h => absurd h (by rw [hL 16 (by decide)]; decide)), HBD.out⟩
                      refine Steps.cons (i := 0) rfl ?_ ?_
                      · rintro L a u ⟨x0, x1, x2, x3, x4, x5, x6, x7, x8, x9, x10, x11, x12, x13, x14, x15, x16, rfl, h0, h1, h2, h3, h4, h5, h6, h7, h8, h9, h10, h11, h12, h13, h14, h15, h16, hm⟩ hi hd K hK
                        simp only [putAll, Act.put, List.setIfInBounds_toArray, List.set_cons_zero, List.set_cons_succ]
                        (try simp [Region.binds] at hd)
                        replace h0 := Lib.hid h0
                        replace h1 := Lib.hid h1
                        replace h2 := Lib.hid h2
                        replace h3 := Lib.hid h3
                        replace h4 := Lib.hid h4
                        replace h5 := Lib.hid h5
                        replace h6 := Lib.hid h6
                        replace h7 := Lib.hid h7
                        replace h8 := Lib.hid h8
                        replace h9 := Lib.hid h9
                        replace h10 := Lib.hid h10
                        replace h11 := Lib.hid h11
                        replace h12 := Lib.hid h12
                        replace h13 := Lib.hid h13
                        replace h14 := Lib.hid h14
                        replace h15 := Lib.hid h15
                        replace h16 := Lib.hid h16
                        go_simp
                        exact hK.out _ _ ⟨_, _, _, _, _, _, _, _, _, _, _, _, _, _, _, _, _, by ((simp only [putAll, Act.put, List.setIfInBounds_toArray, List.set_cons_zero, List.set_cons_succ]) <;> rfl), (fun _ => rfl), h1.out, h2.out, h3.out, h4.out, h5.out, h6.out, h7.out, h8.out, h9.out, h10.out, h11.out, h12.out, h13.out, h14.out, h15.out, h16.out, hm⟩
                      refine Steps.cons (i := 1) rfl ?_ ?_
                      · rintro L a u ⟨x0, x1, x2, x3, x4, x5, x6, x7, x8, x9, x10, x11, x12, x13, x14, x15, x16, rfl, h0, h1, h2, h3, h4, h5, h6, h7, h8, h9, h10, h11, h12, h13, h14, h15, h16, hm⟩ hi hd K hK
                        simp only [putAll, Act.put, List.setIfInBounds_toArray, List.set_cons_zero, List.set_cons_succ]
                        (try simp [Region.binds] at hd)
                        replace h0 := Lib.hid h0
                        replace h1 := Lib.hid h1
                        replace h2 := Lib.hid h2
                        replace h3 := Lib.hid h3
                        replace h4 := Lib.hid h4
                        replace h5 := Lib.hid h5
                        replace h6 := Lib.hid h6
                        replace h7 := Lib.hid h7
                        replace h8 := Lib.hid h8
                        replace h9 := Lib.hid h9
                        replace h10 := Lib.hid h10
                        replace h11 := Lib.hid h11
                        replace h12 := Lib.hid h12
                        replace h13 := Lib.hid h13
                        replace h14 := Lib.hid h14
                        replace h15 := Lib.hid h15
                        replace h16 := Lib.hid h16
                        go_simp
                        exact hK.out _ _ ⟨_, _, _, _, _, _, _, _, _, _, _, _, _, _, _, _, _, by ((simp only [putAll, Act.put, List.setIfInBounds_toArray, List.set_cons_zero, List.set_cons_succ]) <;> rfl), h0.out, (fun _ => rfl), h2.out, h3.out, h4.out, h5.out, h6.out, h7.out, h8.out, h9.out, h10.out, h11.out, h12.out, h13.out, h14.out, h15.out, h16.out, hm⟩
                      refine Steps.cons (i := 2) rfl ?_ ?_
                      · rintro L a u ⟨x0, x1, x2, x3, x4, x5, x6, x7, x8, x9, x10, x11, x12, x13, x14, x15, x16, rfl, h0, h1, h2, h3, h4, h5, h6, h7, h8, h9, h10, h11, h12, h13, h14, h15, h16, hm⟩ hi hd K hK
                        simp only [putAll, Act.put, List.setIfInBounds_toArray, List.set_cons_zero, List.set_cons_succ]
                        (try simp [Region.binds] at hd)
                        replace h0 := Lib.hid h0
                        replace h1 := Lib.hid h1
                        replace h2 := Lib.hid h2
                        replace h3 := Lib.hid h3
                        replace h4 := Lib.hid h4
                        replace h5 := Lib.hid h5
                        replace h6 := Lib.hid h6
                        replace h7 := Lib.hid h7
                        replace h8 := Lib.hid h8
                        replace h9 := Lib.hid h9
                        replace h10 := Lib.hid h10
                        replace h11 := Lib.hid h11
                        replace h12 := Lib.hid h12
                        replace h13 := Lib.hid h13
                        replace h14 := Lib.hid h14
                        replace h15 := Lib.hid h15
                        replace h16 := Lib.hid h16
                        obtain rfl := (h0.out (by simp [hd])).symm
                        obtain rfl := (h1.out (by simp [hd])).symm
                        go_simp
                        exact hK.out _ _ ⟨_, _, _, _, _, _, _, _, _, _, _, _, _, _, _, _, _, by ((simp only [putAll, Act.put, List.setIfInBounds_toArray, List.set_cons_zero, List.set_cons_succ]) <;> rfl), h0.out, h1.out, (fun _ => rfl), h3.out, h4.out, h5.out, h6.out, h7.out, h8.out, h9.out, h10.out, h11.out, h12.out, h13.out, h14.out, h15.out, h16.out, hm⟩
                      refine Steps.cons (i := 3) rfl ?_ ?_
                      · rintro L a u ⟨x0, x1, x2, x3, x4, x5, x6, x7, x8, x9, x10, x11, x12, x13, x14, x15, x16, rfl, h0, h1, h2, h3, h4, h5, h6, h7, h8, h9, h10, h11, h12, h13, h14, h15, h16, hm⟩ hi hd K hK
                        simp only [putAll, Act.put, List.setIfInBounds_toArray, List.set_cons_zero, List.set_cons_succ]
                        (try simp [Region.binds] at hd)
                        replace h0 := Lib.hid h0
                        replace h1 := Lib.hid h1
                        replace h2 := Lib.hid h2
                        replace h3 := Lib.hid h3
                        replace h4 := Lib.hid h4
                        replace h5 := Lib.hid h5
                        replace h6 := Lib.hid h6
                        replace h7 := Lib.hid h7
                        replace h8 := Lib.hid h8
                        replace h9 := Lib.hid h9
                        replace h10 := Lib.hid h10
                        replace h11 := Lib.hid h11
                        replace h12 := Lib.hid h12
                        replace h13 := Lib.hid h13
                        replace h14 := Lib.hid h14
                        replace h15 := Lib.hid h15
                        replace h16 := Lib.hid h16
                        go_simp
                        exact hK.out _ _ ⟨_, _, _, _, _, _, _, _, _, _, _, _, _, _, _, _, _, by ((simp only [putAll, Act.put, List.setIfInBounds_toArray, List.set_cons_zero, List.set_cons_succ]) <;> rfl), h0.out, h1.out, h2.out, (fun _ => rfl), h4.out, h5.out, h6.out, h7.out, h8.out, h9.out, h10.out, h11.out, h12.out, h13.out, h14.out, h15.out, h16.out, hm⟩
                      refine Steps.cons (i := 4) rfl ?_ ?_
                      · rintro L a u ⟨x0, x1, x2, x3, x4, x5, x6, x7, x8, x9, x10, x11, x12, x13, x14, x15, x16, rfl, h0, h1, h2, h3, h4, h5, h6, h7, h8, h9, h10, h11, h12, h13, h14, h15, h16, hm⟩ hi hd K hK
                        simp only [putAll, Act.put, List.setIfInBounds_toArray, List.set_cons_zero, List.set_cons_succ]
                        (try simp [Region.binds] at hd)
                        replace h0 := Lib.hid h0
                        replace h1 := Lib.hid h1
                        replace h2 := Lib.hid h2
                        replace h3 := Lib.hid h3
                        replace h4 := Lib.hid h4
                        replace h5 := Lib.hid h5
                        replace h6 := Lib.hid h6
                        replace h7 := Lib.hid h7
                        replace h8 := Lib.hid h8
                        replace h9 := Lib.hid h9
                        replace h10 := Lib.hid h10
                        replace h11 := Lib.hid h11
                        replace h12 := Lib.hid h12
                        replace h13 := Lib.hid h13
                        replace h14 := Lib.hid h14
                        replace h15 := Lib.hid h15
                        replace h16 := Lib.hid h16
                        go_simp
                        exact hK.out _ _ ⟨_, _, _, _, _, _, _, _, _, _, _, _, _, _, _, _, _, by ((simp only [putAll, Act.put, List.setIfInBounds_toArray, List.set_cons_zero, List.set_cons_succ]) <;> rfl), h0.out, h1.out, h2.out, h3.out, (fun _ => rfl), h5.out, h6.out, h7.out, h8.out, h9.out, h10.out, h11.out, h12.out, h13.out, h14.out, h15.out, h16.out, hm⟩
                      refine Steps.cons (i := 5) rfl ?_ ?_
                      · rintro L a u ⟨x0, x1, x2, x3, x4, x5, x6, x7, x8, x9, x10, x11, x12, x13, x14, x15, x16, rfl, h0, h1, h2, h3, h4, h5, h6, h7, h8, h9, h10, h11, h12, h13, h14, h15, h16, hm⟩ hi hd K hK
                        simp only [putAll, Act.put, List.setIfInBounds_toArray, List.set_cons_zero, List.set_cons_succ]
                        (try simp [Region.binds] at hd)
                        replace h0 := Lib.hid h0
                        replace h1 := Lib.hid h1
                        replace h2 := Lib.hid h2
                        replace h3 := Lib.hid h3
                        replace h4 := Lib.hid h4
                        replace h5 := Lib.hid h5
                        replace h6 := Lib.hid h6
                        replace h7 := Lib.hid h7
                        replace h8 := Lib.hid h8
                        replace h9 := Lib.hid h9
                        replace h10 := Lib.hid h10
                        replace h11 := Lib.hid h11
                        replace h12 := Lib.hid h12
                        replace h13 := Lib.hid h13
                        replace h14 := Lib.hid h14
                        replace h15 := Lib.hid h15
                        replace h16 := Lib.hid h16
                        obtain rfl := (h3.out (by simp [hd])).symm
                        obtain rfl := (h4.out (by simp [hd])).symm
                        go_simp
                        exact hK.out _ _ ⟨_, _, _, _, _, _, _, _, _, _, _, _, _, _, _, _, _, by ((simp only [putAll, Act.put, List.setIfInBounds_toArray, List.set_cons_zero, List.set_cons_succ]) <;> rfl), h0.out, h1.out, h2.out, h3.out, h4.out, (fun _ => rfl), h6.out, h7.out, h8.out, h9.out, h10.out, h11.out, h12.out, h13.out, h14.out, h15.out, h16.out, hm⟩
                      refine Steps.cons (i := 6) rfl ?_ ?_
                      · rintro L a u ⟨x0, x1, x2, x3, x4, x5, x6, x7, x8, x9, x10, x11, x12, x13, x14, x15, x16, rfl, h0, h1, h2, h3, h4, h5, h6, h7, h8, h9, h10, h11, h12, h13, h14, h15, h16, hm⟩ hi hd K hK
                        simp only [putAll, Act.put, List.setIfInBounds_toArray, List.set_cons_zero, List.set_cons_succ]
                        (try simp [Region.binds] at hd)
                        replace h0 := Lib.hid h0
                        replace h1 := Lib.hid h1
                        replace h2 := Lib.hid h2
                        replace h3 := Lib.hid h3
                        replace h4 := Lib.hid h4
                        replace h5 := Lib.hid h5
                        replace h6 := Lib.hid h6
                        replace h7 := Lib.hid h7
                        replace h8 := Lib.hid h8
                        replace h9 := Lib.hid h9
                        replace h10 := Lib.hid h10
                        replace h11 := Lib.hid h11
                        replace h12 := Lib.hid h12
                        replace h13 := Lib.hid h13
                        replace h14 := Lib.hid h14
                        replace h15 := Lib.hid h15
                        replace h16 := Lib.hid h16
                        obtain rfl := (h2.out (by simp [hd])).symm
                        obtain rfl := (h5.out (by simp [hd])).symm
                        go_simp
                        exact hK.out _ _ ⟨_, _, _, _, _, _, _, _, _, _, _, _, _, _, _, _, _, by ((simp only [putAll, Act.put, List.setIfInBounds_toArray, List.set_cons_zero, List.set_cons_succ]) <;> rfl), h0.out, h1.out, h2.out, h3.out, h4.out, h5.out, (fun _ => rfl), h7.out, h8.out, h9.out, h10.out, h11.out, h12.out, h13.out, h14.out, h15.out, h16.out, hm⟩
                      refine Steps.cons (i := 7) rfl ?_ ?_
                      · rintro L a u ⟨x0, x1, x2, x3, x4, x5, x6, x7, x8, x9, x10, x11, x12, x13, x14, x15, x16, rfl, h0, h1, h2, h3, h4, h5, h6, h7, h8, h9, h10, h11, h12, h13, h14, h15, h16, hm⟩ hi hd K hK
                        simp only [putAll, Act.put, List.setIfInBounds_toArray, List.set_cons_zero, List.set_cons_succ]
                        (try simp [Region.binds] at hd)
                        replace h0 := Lib.hid h0
                        replace h1 := Lib.hid h1
                        replace h2 := Lib.hid h2
                        replace h3 := Lib.hid h3
                        replace h4 := Lib.hid h4
                        replace h5 := Lib.hid h5
                        replace h6 := Lib.hid h6
                        replace h7 := Lib.hid h7
                        replace h8 := Lib.hid h8
                        replace h9 := Lib.hid h9
                        replace h10 := Lib.hid h10
                        replace h11 := Lib.hid h11
                        replace h12 := Lib.hid h12
                        replace h13 := Lib.hid h13
                        replace h14 := Lib.hid h14
                        replace h15 := Lib.hid h15
                        replace h16 := Lib.hid h16
                        obtain rfl := (h6.out (by simp [hd])).symm
                        go_simp
                        exact hK.out _ _ ⟨_, _, _, _, _, _, _, _, _, _, _, _, _, _, _, _, _, by ((simp only [putAll, Act.put, List.setIfInBounds_toArray, List.set_cons_zero, List.set_cons_succ]) <;> rfl), h0.out, h1.out, h2.out, h3.out, h4.out, h5.out, h6.out, (fun _ => rfl), h8.out, h9.out, h10.out, h11.out, h12.out, h13.out, h14.out, h15.out, h16.out, hm⟩
                      refine Steps.cons (i := 8) rfl ?_ ?_
                      · rintro L a u ⟨x0, x1, x2, x3, x4, x5, x6, x7, x8, x9, x10, x11, x12, x13, x14, x15, x16, rfl, h0, h1, h2, h3, h4, h5, h6, h7, h8, h9, h10, h11, h12, h13, h14, h15, h16, hm⟩ hi hd K hK
                        simp only [putAll, Act.put, List.setIfInBounds_toArray, List.set_cons_zero, List.set_cons_succ]
                        (try simp [Region.binds] at hd)
                        replace h0 := Lib.hid h0
                        replace h1 := Lib.hid h1
                        replace h2 := Lib.hid h2
                        replace h3 := Lib.hid h3
                        replace h4 := Lib.hid h4
                        replace h5 := Lib.hid h5
                        replace h6 := Lib.hid h6
                        replace h7 := Lib.hid h7
                        replace h8 := Lib.hid h8
                        replace h9 := Lib.hid h9
                        replace h10 := Lib.hid h10
                        replace h11 := Lib.hid h11
                        replace h12 := Lib.hid h12
                        replace h13 := Lib.hid h13
                        replace h14 := Lib.hid h14
                        replace h15 := Lib.hid h15
                        replace h16 := Lib.hid h16
                        obtain rfl := (h7.out (by simp [hd])).symm
                        go_simp
                        exact hK.out _ _ ⟨_, _, _, _, _, _, _, _, _, _, _, _, _, _, _, _, _, by ((simp only [putAll, Act.put, List.setIfInBounds_toArray, List.set_cons_zero, List.set_cons_succ]) <;> rfl), h0.out, h1.out, h2.out, h3.out, h4.out, h5.out, h6.out, h7.out, (fun _ => rfl), h9.out, h10.out, h11.out, h12.out, h13.out, h14.out, h15.out, h16.out, hm⟩
                      refine Steps.cons (i := 9) rfl ?_ ?_
                      · rintro L a u ⟨x0, x1, x2, x3, x4, x5, x6, x7, x8, x9, x10, x11, x12, x13, x14, x15, x16, rfl, h0, h1, h2, h3, h4, h5, h6, h7, h8, h9, h10, h11, h12, h13, h14, h15, h16, hm⟩ hi hd K hK
                        simp only [putAll, Act.put, List.setIfInBounds_toArray, List.set_cons_zero, List.set_cons_succ]
                        (try simp [Region.binds] at hd)
                        replace h0 := Lib.hid h0
                        replace h1 := Lib.hid h1
                        replace h2 := Lib.hid h2
                        replace h3 := Lib.hid h3
                        replace h4 := Lib.hid h4
                        replace h5 := Lib.hid h5
                        replace h6 := Lib.hid h6
                        replace h7 := Lib.hid h7
                        replace h8 := Lib.hid h8
                        replace h9 := Lib.hid h9
                        replace h10 := Lib.hid h10
                        replace h11 := Lib.hid h11
                        replace h12 := Lib.hid h12
                        replace h13 := Lib.hid h13
                        replace h14 := Lib.hid h14
                        replace h15 := Lib.hid h15
                        replace h16 := Lib.hid h16
                        obtain rfl := (h7.out (by simp [hd])).symm
                        go_simp
                        exact hK.out _ _ ⟨_, _, _, _, _, _, _, _, _, _, _, _, _, _, _, _, _, by ((simp only [putAll, Act.put, List.setIfInBounds_toArray, List.set_cons_zero, List.set_cons_succ]) <;> rfl), h0.out, h1.out, h2.out, h3.out, h4.out, h5.out, h6.out, h7.out, h8.out, (fun _ => rfl), h10.out, h11.out, h12.out, h13.out, h14.out, h15.out, h16.out, hm⟩
                      refine Steps.cons (i := 10) rfl ?_ ?_
                      · rintro L a u ⟨x0, x1, x2, x3, x4, x5, x6, x7, x8, x9, x10, x11, x12, x13, x14, x15, x16, rfl, h0, h1, h2, h3, h4, h5, h6, h7, h8, h9, h10, h11, h12, h13, h14, h15, h16, hm⟩ hi hd K hK
                        simp only [putAll, Act.put, List.setIfInBounds_toArray, List.set_cons_zero, List.set_cons_succ]
                        (try simp [Region.binds] at hd)
                        replace h0 := Lib.hid h0
                        replace h1 := Lib.hid h1
                        replace h2 := Lib.hid h2
                        replace h3 := Lib.hid h3
                        replace h4 := Lib.hid h4
                        replace h5 := Lib.hid h5
                        replace h6 := Lib.hid h6
                        replace h7 := Lib.hid h7
                        replace h8 := Lib.hid h8
                        replace h9 := Lib.hid h9
                        replace h10 := Lib.hid h10
                        replace h11 := Lib.hid h11
                        replace h12 := Lib.hid h12
                        replace h13 := Lib.hid h13
                        replace h14 := Lib.hid h14
                        replace h15 := Lib.hid h15
                        replace h16 := Lib.hid h16
                        obtain rfl := (h7.out (by simp [hd])).symm
                        go_simp
                        exact hK.out _ _ ⟨_, _, _, _, _, _, _, _, _, _, _, _, _, _, _, _, _, by ((simp only [putAll, Act.put, List.setIfInBounds_toArray, List.set_cons_zero, List.set_cons_succ]) <;> rfl), h0.out, h1.out, h2.out, h3.out, h4.out, h5.out, h6.out, h7.out, h8.out, h9.out, (fun _ => rfl), h11.out, h12.out, h13.out, h14.out, h15.out, h16.out, hm⟩
                      refine Steps.cons (i := 11) rfl ?_ ?_
                      · rintro L a u ⟨x0, x1, x2, x3, x4, x5, x6, x7, x8, x9, x10, x11, x12, x13, x14, x15, x16, rfl, h0, h1, h2, h3, h4, h5, h6, h7, h8, h9, h10, h11, h12, h13, h14, h15, h16, hm⟩ hi hd K hK
                        simp only [putAll, Act.put, List.setIfInBounds_toArray, List.set_cons_zero, List.set_cons_succ]
                        (try simp [Region.binds] at hd)
                        replace h0 := Lib.hid h0
                        replace h1 := Lib.hid h1
                        replace h2 := Lib.hid h2
                        replace h3 := Lib.hid h3
                        replace h4 := Lib.hid h4
                        replace h5 := Lib.hid h5
                        replace h6 := Lib.hid h6
                        replace h7 := Lib.hid h7
                        replace h8 := Lib.hid h8
                        replace h9 := Lib.hid h9
                        replace h10 := Lib.hid h10
                        replace h11 := Lib.hid h11
                        replace h12 := Lib.hid h12
                        replace h13 := Lib.hid h13
                        replace h14 := Lib.hid h14
                        replace h15 := Lib.hid h15
                        replace h16 := Lib.hid h16
                        obtain rfl := (h7.out (by simp [hd])).symm
                        go_simp
                        exact hK.out _ _ ⟨_, _, _, _, _, _, _, _, _, _, _, _, _, _, _, _, _, by ((simp only [putAll, Act.put, List.setIfInBounds_toArray, List.set_cons_zero, List.set_cons_succ]) <;> rfl), h0.out, h1.out, h2.out, h3.out, h4.out, h5.out, h6.out, h7.out, h8.out, h9.out, h10.out, (fun _ => rfl), h12.out, h13.out, h14.out, h15.out, h16.out, hm⟩
                      refine Steps.cons (i := 12) rfl ?_ ?_
                      · rintro L a u ⟨x0, x1, x2, x3, x4, x5, x6, x7, x8, x9, x10, x11, x12, x13, x14, x15, x16, rfl, h0, h1, h2, h3, h4, h5, h6, h7, h8, h9, h10, h11, h12, h13, h14, h15, h16, hm⟩ hi hd K hK
                        simp only [putAll, Act.put, List.setIfInBounds_toArray, List.set_cons_zero, List.set_cons_succ]
                        (try simp [Region.binds] at hd)
                        replace h0 := Lib.hid h0
                        replace h1 := Lib.hid h1
                        replace h2 := Lib.hid h2
                        replace h3 := Lib.hid h3
                        replace h4 := Lib.hid h4
                        replace h5 := Lib.hid h5
                        replace h6 := Lib.hid h6
                        replace h7 := Lib.hid h7
                        replace h8 := Lib.hid h8
                        replace h9 := Lib.hid h9
                        replace h10 := Lib.hid h10
                        replace h11 := Lib.hid h11
                        replace h12 := Lib.hid h12
                        replace h13 := Lib.hid h13
                        replace h14 := Lib.hid h14
                        replace h15 := Lib.hid h15
                        replace h16 := Lib.hid h16
                        obtain rfl := (h7.out (by simp [hd])).symm
                        go_simp
                        exact hK.out _ _ ⟨_, _, _, _, _, _, _, _, _, _, _, _, _, _, _, _, _, by ((simp only [putAll, Act.put, List.setIfInBounds_toArray, List.set_cons_zero, List.set_cons_succ]) <;> rfl), h0.out, h1.out, h2.out, h3.out, h4.out, h5.out, h6.out, h7.out, h8.out, h9.out, h10.out, h11.out, (fun _ => rfl), h13.out, h14.out, h15.out, h16.out, hm⟩
                      refine Steps.cons (i := 13) rfl ?_ ?_
                      · rintro L a u ⟨x0, x1, x2, x3, x4, x5, x6, x7, x8, x9, x10, x11, x12, x13, x14, x15, x16, rfl, h0, h1, h2, h3, h4, h5, h6, h7, h8, h9, h10, h11, h12, h13, h14, h15, h16, hm⟩ hi hd K hK
                        simp only [putAll, Act.put, List.setIfInBounds_toArray, List.set_cons_zero, List.set_cons_succ]
                        (try simp [Region.binds] at hd)
                        replace h0 := Lib.hid h0
                        replace h1 := Lib.hid h1
                        replace h2 := Lib.hid h2
                        replace h3 := Lib.hid h3
                        replace h4 := Lib.hid h4
                        replace h5 := Lib.hid h5
                        replace h6 := Lib.hid h6
                        replace h7 := Lib.hid h7
                        replace h8 := Lib.hid h8
                        replace h9 := Lib.hid h9
                        replace h10 := Lib.hid h10
                        replace h11 := Lib.hid h11
                        replace h12 := Lib.hid h12
                        replace h13 := Lib.hid h13
                        replace h14 := Lib.hid h14
                        replace h15 := Lib.hid h15
                        replace h16 := Lib.hid h16
                        obtain rfl := (h7.out (by simp [hd])).symm
                        obtain rfl := (h11.out (by simp [hd])).symm
                        obtain rfl := (h12.out (by simp [hd])).symm
                        go_simp
                        exact hK.out _ _ ⟨_, _, _, _, _, _, _, _, _, _, _, _, _, _, _, _, _, by ((simp only [putAll, Act.put, List.setIfInBounds_toArray, List.set_cons_zero, List.set_cons_succ]) <;> rfl), h0.out, h1.out, h2.out, h3.out, h4.out, h5.out, h6.out, h7.out, h8.out, h9.out, h10.out, h11.out, h12.out, (fun _ => rfl), h14.out, h15.out, h16.out, hm⟩
                      refine Steps.cons (i := 14) rfl ?_ ?_
                      · rintro L a u ⟨x0, x1, x2, x3, x4, x5, x6, x7, x8, x9, x10, x11, x12, x13, x14, x15, x16, rfl, h0, h1, h2, h3, h4, h5, h6, h7, h8, h9, h10, h11, h12, h13, h14, h15, h16, hm⟩ hi hd K hK
                        simp only [putAll, Act.put, List.setIfInBounds_toArray, List.set_cons_zero, List.set_cons_succ]
                        (try simp [Region.binds] at hd)
                        replace h0 := Lib.hid h0
                        replace h1 := Lib.hid h1
                        replace h2 := Lib.hid h2
                        replace h3 := Lib.hid h3
                        replace h4 := Lib.hid h4
                        replace h5 := Lib.hid h5
                        replace h6 := Lib.hid h6
                        replace h7 := Lib.hid h7
                        replace h8 := Lib.hid h8
                        replace h9 := Lib.hid h9
                        replace h10 := Lib.hid h10
                        replace h11 := Lib.hid h11
                        replace h12 := Lib.hid h12
                        replace h13 := Lib.hid h13
                        replace h14 := Lib.hid h14
                        replace h15 := Lib.hid h15
                        replace h16 := Lib.hid h16
                        obtain rfl := (h7.out (by simp [hd])).symm
                        obtain rfl := (h8.out (by simp [hd])).symm
                        obtain rfl := (h9.out (by simp [hd])).symm
                        obtain rfl := (h10.out (by simp [hd])).symm
                        obtain rfl := (h13.out (by simp [hd])).symm
                        go_simp
                        refine (KW.out u hm).mono ?_
                        rintro e u5 ⟨rfl, rfl⟩
                        go_wp2_with fail
                        exact hK.out _ _ ⟨_, _, _, _, _, _, _, _, _, _, _, _, _, _, _, _, _, by ((simp only [putAll, Act.put, List.setIfInBounds_toArray, List.set_cons_zero, List.set_cons_succ]) <;> rfl), h0.out, h1.out, h2.out, h3.out, h4.out, h5.out, h6.out, (fun _ => rfl), (fun _ => rfl), (fun _ => rfl), (fun _ => rfl), h11.out, h12.out, (fun _ => rfl), (fun _ => rfl), h15.out, h16.out, hm⟩
                      refine Steps.cons (i := 15) rfl ?_ ?_
                      · rintro L a u ⟨x0, x1, x2, x3, x4, x5, x6, x7, x8, x9, x10, x11, x12, x13, x14, x15, x16, rfl, h0, h1, h2, h3, h4, h5, h6, h7, h8, h9, h10, h11, h12, h13, h14, h15, h16, hm⟩ hi hd K hK
                        simp only [putAll, Act.put, List.setIfInBounds_toArray, List.set_cons_zero, List.set_cons_succ]
                        (try simp [Region.binds] at hd)
                        replace h0 := Lib.hid h0
                        replace h1 := Lib.hid h1
                        replace h2 := Lib.hid h2
                        replace h3 := Lib.hid h3
                        replace h4 := Lib.hid h4
                        replace h5 := Lib.hid h5
                        replace h6 := Lib.hid h6
                        replace h7 := Lib.hid h7
                        replace h8 := Lib.hid h8
                        replace h9 := Lib.hid h9
                        replace h10 := Lib.hid h10
                        replace h11 := Lib.hid h11
                        replace h12 := Lib.hid h12
                        replace h13 := Lib.hid h13
                        replace h14 := Lib.hid h14
                        replace h15 := Lib.hid h15
                        replace h16 := Lib.hid h16
                        obtain rfl := (h7.out (by simp [hd])).symm
                        obtain rfl := (h14.out (by simp [hd])).symm
                        go_simp
                        exact hK.out _ _ ⟨_, _, _, _, _, _, _, _, _, _, _, _, _, _, _, _, _, by ((simp only [putAll, Act.put, List.setIfInBounds_toArray, List.set_cons_zero, List.set_cons_succ]) <;> rfl), h0.out, h1.out, h2.out, h3.out, h4.out, h5.out, h6.out, h7.out, h8.out, h9.out, h10.out, h11.out, h12.out, h13.out, h14.out, (fun _ => rfl), h16.out, hm⟩
                      refine Steps.cons (i := 16) rfl ?_ ?_
                      · rintro L a u ⟨x0, x1, x2, x3, x4, x5, x6, x7, x8, x9, x10, x11, x12, x13, x14, x15, x16, rfl, h0, h1, h2, h3, h4, h5, h6, h7, h8, h9, h10, h11, h12, h13, h14, h15, h16, hm⟩ hi hd K hK
                        simp only [putAll, Act.put, List.setIfInBounds_toArray, List.set_cons_zero, List.set_cons_succ]
                        (try simp [Region.binds] at hd)
                        replace h0 := Lib.hid h0
                        replace h1 := Lib.hid h1
                        replace h2 := Lib.hid h2
                        replace h3 := Lib.hid h3
                        replace h4 := Lib.hid h4
                        replace h5 := Lib.hid h5
                        replace h6 := Lib.hid h6
                        replace h7 := Lib.hid h7
                        replace h8 := Lib.hid h8
                        replace h9 := Lib.hid h9
                        replace h10 := Lib.hid h10
                        replace h11 := Lib.hid h11
                        replace h12 := Lib.hid h12
                        replace h13 := Lib.hid h13
                        replace h14 := Lib.hid h14
                        replace h15 := Lib.hid h15
                        replace h16 := Lib.hid h16
                        obtain rfl := (h7.out (by simp [hd])).symm
                        obtain rfl := (h15.out (by simp [hd])).symm
                        go_simp
                        exact hK.out _ _ ⟨_, _, _, _, _, _, _, _, _, _, _, _, _, _, _, _, _, by ((simp only [putAll, Act.put, List.setIfInBounds_toArray, List.set_cons_zero, List.set_cons_succ]) <;> rfl), h0.out, h1.out, h2.out, h3.out, h4.out, h5.out, h6.out, h7.out, h8.out, h9.out, h10.out, h11.out, h12.out, h13.out, h14.out, h15.out, (fun _ => rfl), hm⟩
                      · exact Steps.nil
                      · rintro L a u ⟨x0, x1, x2, x3, x4, x5, x6, x7, x8, x9, x10, x11, x12, x13, x14, x15, x16, rfl, h0, h1, h2, h3, h4, h5, h6, h7, h8, h9, h10, h11, h12, h13, h14, h15, h16, hm⟩ hall
                        obtain rfl := (h16 (hall 16 (by decide))).symm
                        simp only [putAll, Act.put, List.setIfInBounds_toArray, List.set_cons_zero, List.set_cons_succ]
                        go_wp2_with fail
                        go_meet
                        exact ⟨rfl, hm⟩
                    obtain ⟨rfl, hm⟩ := hcut
                    have HM := Lib.hid hm
                    clear hm
                    go_wp2_with fail
                    go_roundw
                    case rel => exact ⟨k + 1, by go_num, by omega, HM.out⟩
                    case measure => simp [intOf]; omega
                · have hkt' : ¬ (k : Int) < (tb.size : Int) := by have := HTS.out; omega
                  have hqr := Q7.out.later HB.out
                  have q0 : wr.cell? ⟨q, 0, none⟩ = some (.int .u64 (c.keep : Int)) := hqr.cell 0
                  have q1 : wr.cell? ⟨q, 1, none⟩ = some (.int .i64 c.torn) := hqr.cell 1
                  clear hqr
                  by_cases hkeep : c.keep = 18446744073709551615
                  · have e4 : ((c.keep : Int) == 18446744073709551615) = true := by rw [hkeep]; rfl
                    by_cases ht : c.torn < 0
                    · have hst : sb = tb := by
                        have h1 : sb.data.toList = tb.data.toList := by rw [HSB.out, HTB.out, sure_all HO.out c hkeep ht]

                        exact bytes_ext h1
                      have RS2 := Lib.hid (hst ▸ RS.out)
                      clear hst hkeep
                      go_wp2_with fail
                      refine (RS2.out _ HB.out).mono ?_
                      rintro e v4 ⟨rfl, b4⟩
                      have HB4 := Lib.hid (HB.out.trans (b4.mono HB.out.size))
                      clear b4
                      go_wp2_with fail
                      go_roundw
                      case rel => exact ⟨n + 1, by go_num, by omega, HB4.out⟩
                      case measure => simp [intOf]; omega
                    · clear hkeep
                      go_wp2_with fail
                      go_roundw
                      case rel => exact ⟨n + 1, by go_num, by omega, HB.out⟩
                      case measure => simp [intOf]; omega
                  · have e4 : ((c.keep : Int) == 18446744073709551615) = false := by
                      simp only [beq_eq_false_iff_ne, ne_eq]
                      omega
                    go_wp2_with fail
                    go_roundw
                    case rel => exact ⟨n + 1, by go_num, by omega, HB.out⟩
                    case measure => simp [intOf]; omega
            · have hn1 : ¬ (n : Int) < 8 := by omega
              go_wp2_with fail
              refine (head_c _).mono ?_
              rintro e w8 ⟨rfl, b8⟩
              go_wp2_with fail
              go_ret
              have x1 := HB0.out.trans (B4.out.mono HB0.out.size)
              have x2 := x1.trans (B7.out.mono x1.size)
              have x3 := x2.trans (HB.out.mono x2.size)
              exact ⟨rfl, x3.trans (b8.mono x3.size)⟩
end Go.Proofs.Ythoafaaemikiaaa.Dv
