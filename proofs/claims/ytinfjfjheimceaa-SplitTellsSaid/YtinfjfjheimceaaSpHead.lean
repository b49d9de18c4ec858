/- Package split: the comparison of two rows, slices by equal weights, and the statements' own calls. -/
import Derived.Test.YtinfjfjheimceaaSpSplit
import Derived.BigQuiet
import Derived.Deep.QuietTactic
namespace Go.Proofs.Ytinfjfjheimceaa.Sp
open Go Go.RowKit Go.Lib Go.Proofs.Ytinfjfjheimceaa.So Rf Cm
/-- The slices, as integers. -/
def outl (T A : Int) (l : List Int) : List Int := (List.range l.length).map (slice T A l)
theorem outl_len (T A : Int) (l : List Int) : (outl T A l).length = l.length := by unfold outl; simp
theorem outl_at (T A : Int) (l : List Int) (i : Nat) (h : i < l.length) : (outl T A l).getD i 0 = slice T A l i := by unfold outl; simp [h]
theorem ints_row {w : World} {g : Nat} {T A : Int} {l : List Int} (h : RowAt w g (outs T A l)) : Ints w (some ⟨g, 0, none⟩) (outl T A l) := by
  refine Or.inr ⟨g, 0, rfl, h.lt, fun j hj => ?_⟩
  rw [outl_len] at hj
  have := h.cell j (by unfold outs; simpa using hj)
  rw [Nat.zero_add, this, outl_at _ _ _ _ hj]
  simp [outs]
theorem Ints.at_ {w : World} {a : Option Addr} {l : List Int} (h : Ints w a l) {k : Nat} (hk : k < l.length) : ∃ b off, a = some ⟨b, off, none⟩ ∧ b < w.heap.size ∧ w.cell? ⟨b, off + k, none⟩ = some (.int .i64 (l.getD k 0)) := by
  rcases h with h | ⟨b, off, h1, h2, h3⟩
  · rw [h] at hk; simp at hk
  · exact ⟨b, off, h1, h2, h3 k hk⟩
theorem getD_ext {l m : List Int} (hl : l.length = m.length) (h : ∀ j, j < l.length → l.getD j 0 = m.getD j 0) : l = m := by
  refine List.ext_getElem hl fun j h1 h2 => ?_
  have := h j h1
  simpa [h1, h2] using this
set_option maxRecDepth 100000 in
set_option maxHeartbeats 1600000 in
theorem same_c (a b : Option Addr) (ca cb : Nat) (l m : List Int) (w : World) (hl : Ints w a l) (hm : Ints w b m) (h1 : l.length ≤ 9223372036854775807) (_h2 : m.length ≤ 9223372036854775807) (z : Bool) (hz : decide (l = m) = z) :
    Calls Try.prog 11 #[.slice a l.length ca, .slice b m.length cb] w fun e w' => e = .returned (.bool z) ∧ Below w.heap.size w w' := by
  have HL := Lib.hid hl
  have HM := Lib.hid hm
  have HZ := Lib.hid hz
  clear hl hm hz
  by_cases hlen : l.length = m.length
  · obtain ⟨n, hn⟩ : ∃ n, n = l.length := ⟨_, rfl⟩
    rw [← hlen, ← hn]
    have HN : Hid (n = l.length ∧ n = m.length) := ⟨hn, by omega⟩
    rw [← hn] at h1
    clear hlen hn
    go_enter Try.func11, Try.ntmps11
    go_wp2_with fail
    go_loopw [5] (fun s wr => ∃ k : Nat, k ≤ n ∧ s = .int .i64 (k : Int) ∧ Hid (∀ j, j < k → l.getD j 0 = m.getD j 0) ∧ Hid (Below w.heap.size w wr)) (fun s _ => n - (intOf s).toNat)
    case atStart => exact ⟨0, Nat.zero_le _, rfl, fun j hj => by omega, Below.refl _ _⟩
    case round =>
      obtain ⟨k, hk, rfl, HP, HB⟩ := hrel
      by_cases hlt : k < n
      · obtain ⟨ba, oa, rfl, hba, hca⟩ := HL.out.at_ (k := k) (by have := HN.out.1; omega)
        obtain ⟨bb, ob, rfl, hbb, hcb⟩ := HM.out.at_ (k := k) (by have := HN.out.2; omega)
        rw [← HB.out.cell (by exact hba)] at hca
        rw [← HB.out.cell (by exact hbb)] at hcb
        obtain ⟨x, hx⟩ : ∃ x, x = l.getD k 0 := ⟨_, rfl⟩
        obtain ⟨y, hy⟩ : ∃ y, y = m.getD k 0 := ⟨_, rfl⟩
        rw [← hx] at hca
        rw [← hy] at hcb
        have HX := Lib.hid (And.intro hx hy)
        clear hx hy
        have hkz : (k : Int) < (n : Int) := by omega
        have hbw : Hid (Below w.heap.size w wr) := HB
        by_cases he : x = y
        · have e1 : (x == y) = true := by simpa using he
          have e2 : (x != y) = false := by simpa using he
          have HE := Lib.hid he
          clear he
          go_wp2_with fail
          go_quiet (fail)
          go_wp2_with fail
          refine ⟨⟨k + 1, by omega, by go_num, fun j hj => ?_, HB.out.trans ⟨rfl, rfl, rfl, Nat.le_refl _, fun _ _ => rfl⟩⟩, by simp [intOf]; omega⟩
          by_cases ej : j = k
          · rw [ej, ← HX.out.1, ← HX.out.2]; exact HE.out
          · exact HP.out j (by omega)
        · have e1 : (x == y) = false := by simpa using he
          have e2 : (x != y) = true := by simpa using he
          obtain rfl : false = z := by
            rw [← HZ.out]
            exact (decide_eq_false (fun e => he (by rw [HX.out.1, HX.out.2, e]))).symm
          clear he
          go_wp2_with fail
          go_quiet (fail)
          go_wp2_with fail
          go_ret
          exact ⟨rfl, HB.out.trans ⟨rfl, rfl, rfl, Nat.le_refl _, fun _ _ => rfl⟩⟩
      · obtain rfl : true = z := by
          rw [← HZ.out]
          exact (decide_eq_true (getD_ext (by have := HN.out; omega) (fun j hj => HP.out j (by have := HN.out; omega)))).symm
        have hkz : ¬ (k : Int) < (n : Int) := by omega
        go_wp2_with fail
        go_ret
        exact ⟨rfl, HB.out⟩
  · obtain rfl : false = z := by
      rw [← HZ.out]
      exact (decide_eq_false (fun e => hlen (by rw [e]))).symm
    have e1 : ((l.length : Int) == (m.length : Int)) = false := by simp; omega
    have e2 : ((l.length : Int) != (m.length : Int)) = true := by simp; omega
    have e3 : ¬ (l.length : Int) = (m.length : Int) := by omega
    go_enter Try.func11, Try.ntmps11
    go_wp2_with fail
    go_ret
    exact ⟨rfl, Below.refl _ _⟩
theorem split_ok (T : Int) (a : Option Addr) (cap : Nat) (l : List Int) (w : World) (hI : Ints w a l) (hr : ∀ x ∈ l, -9223372036854775808 ≤ x ∧ x ≤ 9223372036854775807) (hg : good l = true) (h0 : 0 ≤ T) (h1 : T < 4611686018427387904) :
    Calls Try.prog 9 #[.int .i64 T, .slice a l.length cap] w fun e w' => ∃ g, e = .returned (.tuple #[.slice (some ⟨g, 0, none⟩) l.length l.length, .int .i64 0]) ∧ Ints w' (some ⟨g, 0, none⟩) (outl T l.sum l) ∧ Below w.heap.size w w' ∧ (∃ d, Sorted T l.sum l d) :=
  (split_yes T a cap l w hI hr hg h0 h1).mono fun _ _ ⟨g, e, r, _, b, s⟩ => ⟨g, e, ints_row r, b, s⟩
/-- n weights 1, of which k are laid. -/
def ones (n k : Nat) : List Value := (List.range n).map fun i => .int .i64 (if i < k then 1 else 0)
theorem ones_set (n k : Nat) : (ones n k).set k (.int .i64 1) = ones n (k + 1) := by
  refine List.ext_getElem (by simp [ones]) fun j h1 h2 => ?_
  by_cases e : k = j
  · subst e; rw [List.getElem_set_self]; simp [ones]
  · rw [List.getElem_set_ne e]
    simp only [ones, List.getElem_map, List.getElem_range]
    by_cases q : j < k
    · rw [if_pos q, if_pos (by omega)]
    · rw [if_neg q, if_neg (by omega)]
theorem ones_zero (n : Nat) : ones n 0 = (madeCells #[.int .i64 0] (n * 1)).toList := by
  refine List.ext_getElem (by simp [ones, size_madeCells]) fun j h1 h2 => ?_
  simp [ones, madeCells, Nat.mod_one]
theorem sum_rep (n : Nat) : (List.replicate n (1 : Int)).sum = (n : Int) := by
  induction n with
  | zero => rfl
  | succ n ih => rw [List.replicate_succ, List.sum_cons, ih]; omega
theorem good_rep {n : Nat} (h1 : 1 ≤ n) (h2 : n ≤ 4096) : good (List.replicate n 1) = true :=
  (good_iff _).2 ⟨by simp; exact h2, fun x hx => by rw [(List.mem_replicate.1 hx).2]; omega, by rw [sum_rep]; omega, by rw [sum_rep]; omega⟩
theorem ints_ones {w : World} {g n : Nat} (h : RowAt w g (ones n n)) : Ints w (some ⟨g, 0, none⟩) (List.replicate n 1) := by
  refine Or.inr ⟨g, 0, rfl, h.lt, fun j hj => ?_⟩
  have hj : j < n := by simpa using hj
  rw [Nat.zero_add, h.cell j (by simp [ones]; exact hj)]
  simp [ones, hj]
theorem ints_new (W : World) (l : List Int) (t : TypeId) : Ints (W.alloc (.cells (l.map (Value.int .i64)).toArray t)) (some ⟨W.heap.size, 0, none⟩) l := by
  refine Or.inr ⟨_, 0, rfl, by simp, fun j hj => ?_⟩
  rw [World.cell?_alloc_at _ _ _ _ rfl]
  simp [hj]
theorem rep_i64 (n : Nat) : ∀ x ∈ List.replicate n (1 : Int), -9223372036854775808 ≤ x ∧ x ≤ 9223372036854775807 := fun x hx => by rw [(List.mem_replicate.1 hx).2]; omega
set_option maxRecDepth 100000 in
set_option maxHeartbeats 1600000 in
theorem even_walk (T : Int) (n : Nat) (w : World) (h1 : 1 ≤ n) (h2 : n ≤ 4096) (R : Ending → World → Prop)
    (K : ∀ (g : Nat) (w' : World), Below w.heap.size w w' → Ints w' (some ⟨g, 0, none⟩) (List.replicate n 1) → Calls Try.prog 9 #[.int .i64 T, .slice (some ⟨g, 0, none⟩) n n] w' fun e w'' => ∃ (v : Value) (f : Int), e = .returned (.tuple #[v, .int .i64 f]) ∧ R (.returned (.tuple #[v, .int .i64 f])) w'') :
    Calls Try.prog 12 #[.int .i64 T, .int .i64 n] w R := by
  obtain ⟨i1, hj, hy0, hy1, hy2⟩ := info_parts infoI64
  obtain ⟨w5, hmk, hown5, hgrow5⟩ := run_make_full (P := Try.prog) (w := w) w.heap.size 22 2 i1 (.int .i64 0) 1 Try.underlying22 hj hy0 hy1 .i64 .i64 n (by rw [hy2]; omega) (by unfold maxLen; omega) (Nat.le_refl _)
  have b5 : Below w.heap.size w w5 := (Below.refl _ w).grown hgrow5 (Nat.le_refl _) (fun j ej => by cases ej)
  have R5 : RowAt w5 w.heap.size (ones n 0) := by
    have := row_own hown5
    rwa [ones_zero]
  have P5 := Lib.hid (And.intro R5 b5)
  have KH := Lib.hid K
  have h1z : ¬ (n : Int) < 1 := by omega
  have h1d : decide ((n : Int) < 1) = false := decide_eq_false h1z
  have h2z : ¬ (4096 : Int) < (n : Int) := by omega
  clear R5 b5 hown5 hgrow5 K
  go_enter Try.func12, Try.ntmps12
  go_wp2_with fail
  go_loopw [18] (fun s wr => ∃ k : Nat, k ≤ n ∧ s = .int .i64 (k : Int) ∧ Hid (RowAt wr w.heap.size (ones n k) ∧ Below w.heap.size w wr)) (fun s _ => n - (intOf s).toNat)
  case atStart => exact ⟨0, Nat.zero_le _, rfl, P5⟩
  case round =>
    clear P5
    obtain ⟨k, hk, rfl, HP⟩ := hrel
    by_cases hlt : k < n
    · have hkz : (k : Int) < (n : Int) := by omega
      have hck := HP.out.1.cell k (by simp [ones]; exact hlt)
      have hfk := HP.out.1.free k (by simp [ones]; exact hlt)
      generalize (ones n k)[k]'(by simp [ones]; exact hlt) = y at hck
      go_wp2_with fail
      exact ⟨⟨k + 1, by omega, by go_num, Lib.hid ⟨ones_set n k ▸ HP.out.1.set k _, HP.out.2.setCell (by simp) _⟩⟩, by simp [intOf]; omega⟩
    · obtain rfl : n = k := by omega
      have hkz : ¬ (n : Int) < (n : Int) := by omega
      go_wp2_with fail
      refine (KH.out _ _ HP.out.2 (ints_ones HP.out.1)).mono ?_
      rintro e w' ⟨v, f, rfl, hR⟩
      go_wp2_with fail
      exact hR
theorem even_ok (T : Int) (n : Nat) (w : World) (h1 : 1 ≤ n) (h2 : n ≤ 4096) (h3 : 0 ≤ T) (h4 : T < 4611686018427387904) :
    Calls Try.prog 12 #[.int .i64 T, .int .i64 n] w fun e w' => ∃ g, e = .returned (.tuple #[.slice (some ⟨g, 0, none⟩) n n, .int .i64 0]) ∧ Ints w' (some ⟨g, 0, none⟩) (outl T n (List.replicate n 1)) ∧ Below w.heap.size w w' ∧ (∃ d, Sorted T n (List.replicate n 1) d) := by
  refine even_walk T n w h1 h2 _ fun g w' b hI => ?_
  have K := split_ok T (some ⟨g, 0, none⟩) n (List.replicate n 1) w' hI (rep_i64 n) (good_rep h1 h2) h3 h4
  rw [List.length_replicate, sum_rep] at K
  exact K.mono fun e w'' ⟨g', he, hi, hb, hs⟩ => ⟨_, _, he, g', rfl, hi, b.trans (hb.mono b.size), hs⟩
theorem even_no1 (T : Int) (n : Nat) (w : World) (h1 : 1 ≤ n) (h2 : n ≤ 4096) (h : T < 0 ∨ 4611686018427387904 ≤ T) :
    Calls Try.prog 12 #[.int .i64 T, .int .i64 n] w fun e w' => e = .returned (.tuple #[.slice none 0 0, .int .i64 2]) ∧ Below w.heap.size w w' := by
  refine even_walk T n w h1 h2 _ fun g w' b hI => ?_
  have K := split_no T (some ⟨g, 0, none⟩) n (List.replicate n 1) w' hI (rep_i64 n) (by simp; omega) (Or.inr h)
  rw [List.length_replicate] at K
  exact K.mono fun e w'' ⟨he, hb⟩ => ⟨_, _, he, rfl, b.trans (hb.mono b.size)⟩
set_option maxRecDepth 100000 in
set_option maxHeartbeats 1600000 in
theorem even_no2 (T n : Int) (w : World) (h : n < 1 ∨ 4096 < n) :
    Calls Try.prog 12 #[.int .i64 T, .int .i64 n] w fun e w' => e = .returned (.tuple #[.slice none 0 0, .int .i64 2]) ∧ Below w.heap.size w w' := by
  rcases h with h | h
  · go_enter Try.func12, Try.ntmps12
    go_wp2_with fail
    go_ret2
    exact ⟨rfl, Below.refl _ _⟩
  · have h1 : ¬ n < 1 := by omega
    have h1d : decide (n < 1) = false := decide_eq_false h1
    go_enter Try.func12, Try.ntmps12
    go_wp2_with fail
    go_ret2
    exact ⟨rfl, Below.refl _ _⟩
/-! The statements' own calls. -/
def Got (l : List Int) (n : Nat) (w : World) (e : Ending) (w' : World) : Prop := ∃ g, e = .returned (.tuple #[.slice (some ⟨g, 0, none⟩) n n, .int .i64 0]) ∧ Ints w' (some ⟨g, 0, none⟩) l ∧ Below w.heap.size w w'
theorem ex1 (a : Option Addr) (w : World) (h : Ints w a [1, 1, 1]) : Calls Try.prog 9 #[.int .i64 100, .slice a 3 3] w (Got [34, 33, 33] 3 w) :=
  (split_ok 100 a 3 [1, 1, 1] w h (by decide) (by decide) (by decide) (by decide)).mono fun _ _ ⟨g, he, hi, hb, _⟩ => ⟨g, he, (show outl 100 (List.sum [1, 1, 1]) [1, 1, 1] = [34, 33, 33] by decide +kernel) ▸ hi, hb⟩
theorem ex2 (a : Option Addr) (w : World) (h : Ints w a [3, 3, 1]) : Calls Try.prog 9 #[.int .i64 5, .slice a 3 3] w (Got [2, 2, 1] 3 w) :=
  (split_ok 5 a 3 [3, 3, 1] w h (by decide) (by decide) (by decide) (by decide)).mono fun _ _ ⟨g, he, hi, hb, _⟩ => ⟨g, he, (show outl 5 (List.sum [3, 3, 1]) [3, 3, 1] = [2, 2, 1] by decide +kernel) ▸ hi, hb⟩
theorem ex3 (w : World) : Calls Try.prog 12 #[.int .i64 7, .int .i64 3] w (Got [3, 2, 2] 3 w) :=
  (even_ok 7 3 w (by decide) (by decide) (by decide) (by decide)).mono fun _ _ ⟨g, he, hi, hb, _⟩ => ⟨g, he, (show outl 7 ((3 : Nat) : Int) (List.replicate 3 1) = [3, 2, 2] by decide +kernel) ▸ hi, hb⟩
theorem ex4 (a : Option Addr) (w : World) (h : Ints w a [0, 0]) : Calls Try.prog 9 #[.int .i64 1, .slice a 2 2] w fun e w' => e = .returned (.tuple #[.slice none 0 0, .int .i64 2]) ∧ Below w.heap.size w w' :=
  split_no 1 a 2 [0, 0] w h (by decide) (by decide) (Or.inl (by decide))
theorem ex5 (w : World) : Calls Try.prog 9 #[.int .i64 1, .slice none 0 0] w fun e w' => e = .returned (.tuple #[.slice none 0 0, .int .i64 2]) ∧ Below w.heap.size w w' :=
  split_no 1 none 0 [] w (Or.inl rfl) (by decide) (by decide) (Or.inl (by decide))
theorem ex6 (a : Option Addr) (w : World) (h : Ints w a [1, 1]) : Calls Try.prog 9 #[.int .i64 101, .slice a 2 2] w (Got [51, 50] 2 w) :=
  (split_ok 101 a 2 [1, 1] w h (by decide) (by decide) (by decide) (by decide)).mono fun _ _ ⟨g, he, hi, hb, _⟩ => ⟨g, he, (show outl 101 (List.sum [1, 1]) [1, 1] = [51, 50] by decide +kernel) ▸ hi, hb⟩
theorem exs (a b : Option Addr) (l : List Int) (w : World) (hl : Ints w a l) (hm : Ints w b l) (h3 : l.length = 3) : Calls Try.prog 11 #[.slice a 3 3, .slice b 3 3] w fun e w' => e = .returned (.bool true) ∧ Below w.heap.size w w' := by
  have := same_c a b 3 3 l l w hl hm (by omega) (by omega) true (by simp)
  rwa [h3] at this
set_option maxRecDepth 100000 in
set_option maxHeartbeats 1600000 in
theorem head_c (w : World) : Calls Try.prog 8 #[] w fun e w' => e = .returned (.bool true) ∧ Below w.heap.size w w' := by
  have B0 := Lib.hid (Below.refl w.heap.size w)
  go_enter Try.func8, Try.ntmps8
  go_wp2_with fail
  have i1 := ints_new w [1, 1, 1] 2
  refine (ex1 _ _ i1).mono ?_
  rintro e w1 ⟨g1, rfl, I1, b1⟩
  have B1 : Hid (Below w.heap.size w w1) := (B0.out.alloc (Nat.le_refl _) _).trans (b1.mono (by simp))
  have J1 := Lib.hid I1
  have z1 := B1.out.size
  clear i1 I1 b1 B0
  go_wp2_with fail
  have i2 := ints_new w1 [3, 3, 1] 2
  refine (ex2 _ _ i2).mono ?_
  rintro e w2 ⟨g2, rfl, I2, b2⟩
  have b2' := ((Below.refl w1.heap.size w1).alloc (Nat.le_refl _) (.cells #[.int .i64 3, .int .i64 3, .int .i64 1] 2)).trans (b2.mono (by simp))
  have B2 : Hid (Below w.heap.size w w2) := B1.out.trans (b2'.mono z1)
  have K1 := Lib.hid (J1.out.later b2')
  have K2 := Lib.hid I2
  have z2 := B2.out.size
  clear i2 I2 b2 b2' B1 J1 z1
  go_wp2_with fail
  refine (ex3 _).mono ?_
  rintro e w3 ⟨g3, rfl, I3, b3⟩
  have B3 : Hid (Below w.heap.size w w3) := B2.out.trans (b3.mono z2)
  have L1 := Lib.hid (K1.out.later b3)
  have L2 := Lib.hid (K2.out.later b3)
  have L3 := Lib.hid I3
  have z3 := B3.out.size
  clear I3 b3 B2 K1 K2 z2
  go_wp2_with fail
  have i4 := ints_new w3 [0, 0] 2
  refine (ex4 _ _ i4).mono ?_
  rintro e w4 ⟨rfl, b4⟩
  have b4' := ((Below.refl w3.heap.size w3).alloc (Nat.le_refl _) (.cells #[.int .i64 0, .int .i64 0] 2)).trans (b4.mono (by simp))
  have B4 : Hid (Below w.heap.size w w4) := B3.out.trans (b4'.mono z3)
  have M1 := Lib.hid (L1.out.later b4')
  have M2 := Lib.hid (L2.out.later b4')
  have M3 := Lib.hid (L3.out.later b4')
  have z4 := B4.out.size
  clear i4 b4 b4' B3 L1 L2 L3 z3
  go_wp2_with fail
  refine (ex5 _).mono ?_
  rintro e w5 ⟨rfl, b5⟩
  have B5 : Hid (Below w.heap.size w w5) := B4.out.trans (b5.mono z4)
  have N1 := Lib.hid (M1.out.later b5)
  have N2 := Lib.hid (M2.out.later b5)
  have N3 := Lib.hid (M3.out.later b5)
  have z5 := B5.out.size
  clear b5 B4 M1 M2 M3 z4
  go_wp2_with fail
  have i6 := ints_new w5 [34, 33, 33] 2
  have y6 := (Below.refl w5.heap.size w5).alloc (Nat.le_refl _) (.cells #[.int .i64 34, .int .i64 33, .int .i64 33] 2)
  refine (exs _ _ _ _ (N1.out.later y6) i6 rfl).mono ?_
  rintro e w6 ⟨rfl, b6⟩
  have b6' := y6.trans (b6.mono (by simp))
  have B6 : Hid (Below w.heap.size w w6) := B5.out.trans (b6'.mono z5)
  have O2 := Lib.hid (N2.out.later b6')
  have O3 := Lib.hid (N3.out.later b6')
  have z6 := B6.out.size
  clear i6 y6 b6 b6' B5 N1 N2 N3 z5
  go_wp2_with fail
  have i7 := ints_new w6 [2, 2, 1] 2
  have y7 := (Below.refl w6.heap.size w6).alloc (Nat.le_refl _) (.cells #[.int .i64 2, .int .i64 2, .int .i64 1] 2)
  refine (exs _ _ _ _ (O2.out.later y7) i7 rfl).mono ?_
  rintro e w7 ⟨rfl, b7⟩
  have b7' := y7.trans (b7.mono (by simp))
  have B7 : Hid (Below w.heap.size w w7) := B6.out.trans (b7'.mono z6)
  have P3 := Lib.hid (O3.out.later b7')
  have z7 := B7.out.size
  clear i7 y7 b7 b7' B6 O2 O3 z6
  go_wp2_with fail
  have i8 := ints_new w7 [3, 2, 2] 2
  have y8 := (Below.refl w7.heap.size w7).alloc (Nat.le_refl _) (.cells #[.int .i64 3, .int .i64 2, .int .i64 2] 2)
  refine (exs _ _ _ _ (P3.out.later y8) i8 rfl).mono ?_
  rintro e w8 ⟨rfl, b8⟩
  have b8' := y8.trans (b8.mono (by simp))
  have B8 : Hid (Below w.heap.size w w8) := B7.out.trans (b8'.mono z7)
  clear i8 y8 b8 b8' B7 P3 z7
  go_wp2_with fail
  go_ret
  exact ⟨rfl, B8.out⟩
end Go.Proofs.Ytinfjfjheimceaa.Sp
