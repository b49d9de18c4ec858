/- Package drive: New. -/
import Derived.Test.YtjlncjabiofklaaDoorDwCrash
import Derived.Laws.MakeOwn
namespace Go.Proofs.YtjlncjabiofklaaDoor.Dv
open Go Go.RowKit Rf
theorem rep_get (N : Nat) (v : Value) (j : Nat) (hj : j < N) : (List.replicate N v)[j]? = some v := by simp [hj]
theorem rep_get' (N : Nat) (v : Value) (j : Nat) (hj : j < N) : (List.replicate N v).toArray[j]! = v := by simp [hj]
theorem flat_rep (n : Nat) : (madeCells ZS (n * 64)).toList = flat (List.replicate n zs) := by
  apply List.ext_getElem?
  intro i
  have hl : (flat (List.replicate n zs)).length = n * 64 := by
    rw [flat_len (fun s hs => by rw [(List.mem_replicate.1 hs).2]; decide), List.length_replicate]
  by_cases hi : i < n * 64
  · have h1 := flat_at (L := List.replicate n zs) (fun s hs => by rw [(List.mem_replicate.1 hs).2]; decide) (i / 64) (by simp; omega)
    have h2 : (flat (List.replicate n zs))[i]? = (sc zs)[i % 64]? := by
      have : (flat (List.replicate n zs))[i / 64 * 64 + i % 64]? = (((flat (List.replicate n zs)).drop (i / 64 * 64)).take 64)[i % 64]? := by
        rw [List.getElem?_take_of_lt (by omega), List.getElem?_drop]
      rw [show i / 64 * 64 + i % 64 = i by omega] at this
      rw [this, h1, List.getElem_replicate]
    rw [h2]
    unfold madeCells
    have hs : sc zs = List.replicate 64 (.int .u8 0) := by unfold sc zs; rw [List.map_replicate]; rfl
    have hz : ∀ j, j < 64 → ZS[j]! = .int .u8 0 := fun j hj => by unfold ZS; rw [hs]; exact rep_get' 64 _ j hj
    have hz2 : ∀ j, j < 64 → (sc zs)[j]? = some (.int .u8 0) := fun j hj => by rw [hs]; exact rep_get 64 _ j hj
    simp [hi]
    rw [hz2 _ (by omega), ZS_size, hz _ (by omega)]
  · rw [List.getElem?_eq_none (by rw [Array.length_toList, size_madeCells]; omega), List.getElem?_eq_none (by rw [hl]; omega)]
theorem infoS3 : (Tryd.prog.info? TS).map (fun i => (i.zero, i.size, i.bytes)) = some (some (.agg ZS), 64, 64) := by kernel_rfl
theorem mkS (n : Nat) (hn : n ≤ 100000) (u : World) : (Instr.makeSlice 47 (.int .i64 (n : Int)) (.int .i64 (n : Int))).run Tryd.prog u = .ok (.slice (some ⟨u.heap.size, 0, none⟩) n n) (u.alloc (.cells (flat (List.replicate n zs)).toArray TS)) := by
  obtain ⟨i0, hi, hz0, hz1, hz2⟩ := info_parts infoS3
  have h := run_make (P := Tryd.prog) u 47 TS i0 (.agg ZS) Tryd.underlying47 hi hz0 .i64 .i64 (n : Int) (n : Int) (by omega) (Int.le_refl _) (by rw [hz2]; omega) (by omega)
  rw [hz1] at h
  rw [h, ← flat_rep]
  simp [Value.cells]
/-- A drive as it is made. -/
def Dr.new (n : Nat) : Dr := ⟨List.replicate n zs, [], none⟩
theorem Dr.new_ok (n : Nat) (h1 : 1 ≤ n) (h2 : n ≤ 4096) : (Dr.new n).Ok := ⟨by simpa [Dr.new] using h1, by simpa [Dr.new] using h2, fun s hs => by rw [(List.mem_replicate.1 hs).2]; decide, fun q hq => (by cases hq), fun k hk => (by cases hk)⟩
/-- What is made, in whatever order. -/
def Mk (W : World) (N : Nat) (Z : List Value) (f1 f3 f4 f5 f6 : Bool) (x1 x3 x4 x5 x6 : Value) (u : World) : Prop :=
  Below W.heap.size W u ∧ (f1 = true → ∃ b, x1 = .slice (some ⟨b, 0, none⟩) N N ∧ Rw u b TS Z ∧ W.heap.size ≤ b) ∧ (f3 = true → ∃ b, x3 = .slice (some ⟨b, 0, none⟩) N N ∧ Rw u b TS Z ∧ W.heap.size ≤ b) ∧ (f1 = true → f3 = true → x1 ≠ x3) ∧
    (f4 = true → f1 = true ∧ f3 = true ∧ x4 = .agg #[x1, x3, .slice none 0 0, .pointer none]) ∧ (f5 = true → f4 = true ∧ ∃ g, x5 = .pointer (some ⟨g, 0, none⟩) ∧ Rw u g TD [x1, x3, .slice none 0 0, .pointer none] ∧ W.heap.size ≤ g) ∧ (f6 = true → f5 = true ∧ x6 = x5)
theorem ne_new {u : World} {b N : Nat} {t : TypeId} {Z : List Value} (h : Rw u b t Z) : Value.slice (some ⟨u.heap.size, 0, none⟩) N N ≠ .slice (some ⟨b, 0, none⟩) N N := by
  intro e
  injection e with e
  injection e with e
  injection e with e
  have := h.lt
  omega
theorem Mk.s1 {W u : World} {N : Nat} {Z : List Value} {f1 f3 f4 f5 f6 : Bool} {x1 x3 x4 x5 x6 : Value} (h : Mk W N Z f1 f3 f4 f5 f6 x1 x3 x4 x5 x6 u) (h1 : f1 = false) : Mk W N Z true f3 f4 f5 f6 (.slice (some ⟨u.heap.size, 0, none⟩) N N) x3 x4 x5 x6 (u.alloc (.cells Z.toArray TS)) := by
  obtain ⟨a, b, c, d, e, f, g⟩ := h
  have hb : Below u.heap.size u (u.alloc (.cells Z.toArray TS)) := (Below.refl _ u).alloc (Nat.le_refl _) _
  have h4 : f4 = true → False := fun h => by have := (e h).1; rw [h1] at this; cases this
  have h5 : f5 = true → False := fun h => h4 (f h).1
  refine ⟨a.trans (hb.mono a.size), fun _ => ⟨_, rfl, Rw.new u Z TS, a.size⟩, fun h => ?_, fun _ h e => ?_, fun h => (h4 h).elim, fun h => (h5 h).elim, fun h => (h5 (g h).1).elim⟩
  · obtain ⟨b3, r1, r2, r3⟩ := c h
    exact ⟨b3, r1, r2.later hb, r3⟩
  · obtain ⟨b3, r1, r2, r3⟩ := c h
    rw [r1] at e
    exact ne_new r2 e
theorem Mk.s3 {W u : World} {N : Nat} {Z : List Value} {f1 f3 f4 f5 f6 : Bool} {x1 x3 x4 x5 x6 : Value} (h : Mk W N Z f1 f3 f4 f5 f6 x1 x3 x4 x5 x6 u) (h1 : f3 = false) : Mk W N Z f1 true f4 f5 f6 x1 (.slice (some ⟨u.heap.size, 0, none⟩) N N) x4 x5 x6 (u.alloc (.cells Z.toArray TS)) := by
  obtain ⟨a, b, c, d, e, f, g⟩ := h
  have hb : Below u.heap.size u (u.alloc (.cells Z.toArray TS)) := (Below.refl _ u).alloc (Nat.le_refl _) _
  have h4 : f4 = true → False := fun h => by have := (e h).2.1; rw [h1] at this; cases this
  have h5 : f5 = true → False := fun h => h4 (f h).1
  refine ⟨a.trans (hb.mono a.size), fun h => ?_, fun _ => ⟨_, rfl, Rw.new u Z TS, a.size⟩, fun h _ e => ?_, fun h => (h4 h).elim, fun h => (h5 h).elim, fun h => (h5 (g h).1).elim⟩
  · obtain ⟨b3, r1, r2, r3⟩ := b h
    exact ⟨b3, r1, r2.later hb, r3⟩
  · obtain ⟨b3, r1, r2, r3⟩ := b h
    rw [r1] at e
    exact ne_new r2 e.symm
theorem Mk.s5 {W u : World} {N : Nat} {Z : List Value} {f1 f3 f4 f5 f6 : Bool} {x1 x3 x4 x5 x6 : Value} (h : Mk W N Z f1 f3 f4 f5 f6 x1 x3 x4 x5 x6 u) (h1 : f5 = false) (h4 : f4 = true) : Mk W N Z f1 f3 f4 true f6 x1 x3 x4 (.pointer (some ⟨u.heap.size, 0, none⟩)) x6 (u.alloc (.cells [x1, x3, .slice none 0 0, .pointer none].toArray TD)) := by
  obtain ⟨a, b, c, d, e, f, g⟩ := h
  have hb : Below u.heap.size u (u.alloc (.cells [x1, x3, .slice none 0 0, .pointer none].toArray TD)) := (Below.refl _ u).alloc (Nat.le_refl _) _
  have h5 : f6 = true → False := fun h => by have := (g h).1; rw [h1] at this; cases this
  refine ⟨a.trans (hb.mono a.size), fun h => ?_, fun h => ?_, d, e, fun _ => ⟨h4, _, rfl, Rw.new u _ TD, a.size⟩, fun h => (h5 h).elim⟩
  · obtain ⟨b3, r1, r2, r3⟩ := b h
    exact ⟨b3, r1, r2.later hb, r3⟩
  · obtain ⟨b3, r1, r2, r3⟩ := c h
    exact ⟨b3, r1, r2.later hb, r3⟩
set_option maxHeartbeats 1600000 in
theorem new_no (n : Int) (w : World) (h : n < 8 ∨ 4096 < n) : Calls Tryd.prog 4 #[.int .i64 n] w fun e w' => e = .returned (.tuple #[.pointer none, .int .i64 2]) ∧ w = w' := by
  rcases (show n < 8 ∨ (8 ≤ n ∧ 4096 < n) by omega) with h | ⟨h0, h⟩
  all_goals
    go_enter Tryd.func4, Tryd.ntmps4
    go_wp2_with fail
    go_ret2
    exact ⟨rfl, rfl⟩
def NewRes (x : Dr) (w : World) (e : Ending) (w' : World) : Prop := ∃ g bv bd pv fv, e = .returned (.tuple #[.pointer (some ⟨g, 0, none⟩), .int .i64 0]) ∧ At w' g bv bd pv fv x ∧ Below w.heap.size w w' ∧ ∀ j, Bs g bv bd pv fv j → w.heap.size ≤ j
set_option maxRecDepth 100000 in
set_option maxHeartbeats 4000000 in
theorem new_yes (n : Nat) (w : World) (h1 : 8 ≤ n) (h2 : n ≤ 4096) : Calls Tryd.prog 4 #[.int .i64 (n : Int)] w (NewRes (Dr.new n) w) := by
  have HMK := Lib.hid (mkS n (by omega))
  have g1 : decide ((n : Int) < 8) = false := by simp; omega
  have g2 : decide (4096 < (n : Int)) = false := by simp; omega
  go_enter Tryd.func4, Tryd.ntmps4
  go_wp2_with fail
  refine wp_region_inv (I := (fun A0 L a u => ∃ (x0 x1 x2 x3 x4 x5 x6 x7 : Value), a = putAll A0 [(10, x0), (11, x1), (12, x2), (13, x3), (14, x4), (15, x5), (2, x6), (3, x7)] ∧ (L 0 = true → x0 = (.int .i64 (n : Int))) ∧ (L 2 = true → x2 = (.int .i64 (n : Int))) ∧ (L 7 = true → x7 = (.int .i64 0)) ∧ Mk w n (flat (List.replicate n zs)) (L 1) (L 3) (L 4) (L 5) (L 6) x1 x3 x4 x5 x6 u)) (by kernel_rfl) (by kernel_rfl) ?_ ?_ ?_
  · intro L hL
    exact ⟨_, _, _, _, _, _, _, _, by (simp only [putAll, Act.put, List.setIfInBounds_toArray, List.set_cons_zero, List.set_cons_succ]; rfl), (fun h => absurd h (by rw [hL 0 (by decide)]; decide)), (fun h => absurd h (by rw [hL 2 (by decide)]; decide)), (fun h => absurd h (by rw [hL 7 (by decide)]; decide)), ⟨(Below.refl _ w).drew, (fun h => absurd h (by rw [hL 1 (by decide)]; decide)), (fun h => absurd h (by rw [hL 3 (by decide)]; decide)), (fun h => absurd h (by rw [hL 1 (by decide)]; decide)), (fun h => absurd h (by rw [hL 4 (by decide)]; decide)), (fun h => absurd h (by rw [hL 5 (by decide)]; decide)), (fun h => absurd h (by rw [hL 6 (by decide)]; decide))⟩⟩
  refine Steps.cons (i := 0) rfl ?_ ?_
  · rintro L a u ⟨x0, x1, x2, x3, x4, x5, x6, x7, rfl, h0, h2, h7, hm⟩ hi hd K hK
    simp only [putAll, Act.put, List.setIfInBounds_toArray, List.set_cons_zero, List.set_cons_succ]
    (try simp [Region.binds] at hd)
    replace h0 := Lib.hid h0
    replace h2 := Lib.hid h2
    replace h7 := Lib.hid h7
    go_simp
    exact hK.out _ _ ⟨_, _, _, _, _, _, _, _, by ((simp only [putAll, Act.put, List.setIfInBounds_toArray, List.set_cons_zero, List.set_cons_succ]) <;> rfl), (fun _ => rfl), h2.out, h7.out, hm⟩
  refine Steps.cons (i := 1) rfl ?_ ?_
  · rintro L a u ⟨x0, x1, x2, x3, x4, x5, x6, x7, rfl, h0, h2, h7, hm⟩ hi hd K hK
    simp only [putAll, Act.put, List.setIfInBounds_toArray, List.set_cons_zero, List.set_cons_succ]
    (try simp [Region.binds] at hd)
    replace h0 := Lib.hid h0
    replace h2 := Lib.hid h2
    replace h7 := Lib.hid h7
    obtain rfl := (h0.out (by simp [hd])).symm
    have hmk := HMK.out u
    go_simp
    exact hK.out _ _ ⟨_, _, _, _, _, _, _, _, by ((simp only [putAll, Act.put, List.setIfInBounds_toArray, List.set_cons_zero, List.set_cons_succ]) <;> rfl), h0.out, h2.out, h7.out, hm.s1 hi⟩
  refine Steps.cons (i := 2) rfl ?_ ?_
  · rintro L a u ⟨x0, x1, x2, x3, x4, x5, x6, x7, rfl, h0, h2, h7, hm⟩ hi hd K hK
    simp only [putAll, Act.put, List.setIfInBounds_toArray, List.set_cons_zero, List.set_cons_succ]
    (try simp [Region.binds] at hd)
    replace h0 := Lib.hid h0
    replace h2 := Lib.hid h2
    replace h7 := Lib.hid h7
    go_simp
    exact hK.out _ _ ⟨_, _, _, _, _, _, _, _, by ((simp only [putAll, Act.put, List.setIfInBounds_toArray, List.set_cons_zero, List.set_cons_succ]) <;> rfl), h0.out, (fun _ => rfl), h7.out, hm⟩
  refine Steps.cons (i := 3) rfl ?_ ?_
  · rintro L a u ⟨x0, x1, x2, x3, x4, x5, x6, x7, rfl, h0, h2, h7, hm⟩ hi hd K hK
    simp only [putAll, Act.put, List.setIfInBounds_toArray, List.set_cons_zero, List.set_cons_succ]
    (try simp [Region.binds] at hd)
    replace h0 := Lib.hid h0
    replace h2 := Lib.hid h2
    replace h7 := Lib.hid h7
    obtain rfl := (h2.out (by simp [hd])).symm
    have hmk := HMK.out u
    go_simp
    exact hK.out _ _ ⟨_, _, _, _, _, _, _, _, by ((simp only [putAll, Act.put, List.setIfInBounds_toArray, List.set_cons_zero, List.set_cons_succ]) <;> rfl), h0.out, h2.out, h7.out, hm.s3 hi⟩
  refine Steps.cons (i := 4) rfl ?_ ?_
  · rintro L a u ⟨x0, x1, x2, x3, x4, x5, x6, x7, rfl, h0, h2, h7, hm⟩ hi hd K hK
    simp only [putAll, Act.put, List.setIfInBounds_toArray, List.set_cons_zero, List.set_cons_succ]
    (try simp [Region.binds] at hd)
    replace h0 := Lib.hid h0
    replace h2 := Lib.hid h2
    replace h7 := Lib.hid h7
    have d1 : L 1 = true := by simp [hd]
    have d3 : L 3 = true := by simp [hd]
    obtain ⟨a1, b1, c1, e1, f1, g1, k1⟩ := hm
    obtain ⟨p1, rfl, r1⟩ := b1 d1
    obtain ⟨p3, rfl, r3⟩ := c1 d3
    go_simp
    exact hK.out _ _ ⟨_, _, _, _, _, _, _, _, by ((simp only [putAll, Act.put, List.setIfInBounds_toArray, List.set_cons_zero, List.set_cons_succ]) <;> rfl), h0.out, h2.out, h7.out, ⟨a1, (fun _ => ⟨p1, rfl, r1⟩), (fun _ => ⟨p3, rfl, r3⟩), e1, (fun _ => ⟨d1, d3, rfl⟩), (fun h => absurd (g1 h).1 (by rw [hi]; decide)), (fun h => absurd (g1 (k1 h).1).1 (by rw [hi]; decide))⟩⟩
  refine Steps.cons (i := 5) rfl ?_ ?_
  · rintro L a u ⟨x0, x1, x2, x3, x4, x5, x6, x7, rfl, h0, h2, h7, hm⟩ hi hd K hK
    simp only [putAll, Act.put, List.setIfInBounds_toArray, List.set_cons_zero, List.set_cons_succ]
    (try simp [Region.binds] at hd)
    replace h0 := Lib.hid h0
    replace h2 := Lib.hid h2
    replace h7 := Lib.hid h7
    have d4 : L 4 = true := by simp [hd]
    obtain ⟨d1, d3, rfl⟩ := hm.2.2.2.2.1 d4
    obtain ⟨p1, rfl, r1⟩ := hm.2.1 d1
    obtain ⟨p3, rfl, r3⟩ := hm.2.2.1 d3
    go_simp
    exact hK.out _ _ ⟨_, _, _, _, _, _, _, _, by ((simp only [putAll, Act.put, List.setIfInBounds_toArray, List.set_cons_zero, List.set_cons_succ]) <;> rfl), h0.out, h2.out, h7.out, hm.s5 hi d4⟩
  refine Steps.cons (i := 6) rfl ?_ ?_
  · rintro L a u ⟨x0, x1, x2, x3, x4, x5, x6, x7, rfl, h0, h2, h7, hm⟩ hi hd K hK
    simp only [putAll, Act.put, List.setIfInBounds_toArray, List.set_cons_zero, List.set_cons_succ]
    (try simp [Region.binds] at hd)
    replace h0 := Lib.hid h0
    replace h2 := Lib.hid h2
    replace h7 := Lib.hid h7
    have d5 : L 5 = true := by simp [hd]
    go_simp
    exact hK.out _ _ ⟨_, _, _, _, _, _, _, _, by ((simp only [putAll, Act.put, List.setIfInBounds_toArray, List.set_cons_zero, List.set_cons_succ]) <;> rfl), h0.out, h2.out, h7.out, ⟨hm.1, hm.2.1, hm.2.2.1, hm.2.2.2.1, hm.2.2.2.2.1, hm.2.2.2.2.2.1, fun _ => ⟨d5, rfl⟩⟩⟩
  refine Steps.cons (i := 7) rfl ?_ ?_
  · rintro L a u ⟨x0, x1, x2, x3, x4, x5, x6, x7, rfl, h0, h2, h7, hm⟩ hi hd K hK
    simp only [putAll, Act.put, List.setIfInBounds_toArray, List.set_cons_zero, List.set_cons_succ]
    (try simp [Region.binds] at hd)
    replace h0 := Lib.hid h0
    replace h2 := Lib.hid h2
    replace h7 := Lib.hid h7
    go_simp
    exact hK.out _ _ ⟨_, _, _, _, _, _, _, _, by ((simp only [putAll, Act.put, List.setIfInBounds_toArray, List.set_cons_zero, List.set_cons_succ]) <;> rfl), h0.out, h2.out, (fun _ => rfl), hm⟩
  · exact Steps.nil
  · rintro L a u ⟨x0, x1, x2, x3, x4, x5, x6, x7, rfl, h0, h2, h7, hm⟩ hall
    obtain ⟨a1, b1, c1, e1, f1, k1, m1⟩ := hm
    have hne := e1 (hall 1 (by decide)) (hall 3 (by decide))
    obtain ⟨p1, rfl, r1, s1⟩ := b1 (hall 1 (by decide))
    obtain ⟨p3, rfl, r3, s3⟩ := c1 (hall 3 (by decide))
    obtain ⟨-, q, hq1, hq2, hq3⟩ := k1 (hall 5 (by decide))
    obtain ⟨-, hx6⟩ := m1 (hall 6 (by decide))
    subst hq1
    subst hx6
    obtain rfl := (h7 (hall 7 (by decide))).symm
    clear b1 c1 e1 f1 k1 m1 h0 h2 h7 hall
    simp only [putAll, Act.put, List.setIfInBounds_toArray, List.set_cons_zero, List.set_cons_succ]
    have HQ := Lib.hid hq2
    have HR1 := Lib.hid r1
    have HR3 := Lib.hid r3
    have HBE := Lib.hid a1
    have HNE := Lib.hid hne
    clear hq2 r1 r3 a1 hne
    go_wp2_with fail
    go_ret2
    refine ⟨q, p1, p3, .slice none 0 0, .pointer none, rfl, ⟨?_, HR1.out, HR3.out, World.ownsRow_nil _ _ _ _, .inl ⟨rfl, rfl⟩, ?_⟩, HBE.out, ?_⟩
    · show Rw u q TD [.slice _ (List.replicate n zs).length (List.replicate n zs).length, .slice _ (List.replicate n zs).length (List.replicate n zs).length, _, _]; rw [List.length_replicate]; exact HQ.out
    · intro e; subst e; exact HNE.out rfl
    rintro j (rfl | rfl | rfl | hj | hj)
    · exact hq3
    · exact s1
    · exact s3
    · cases hj
    · cases hj
end Go.Proofs.YtjlncjabiofklaaDoor.Dv
