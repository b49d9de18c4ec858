/- The document's slices, unit by unit. -/
import Derived.Test.YtinfjfjheimceaaSpWhole
import Derived.Maps.AppendAt
namespace Go.Proofs.Ytinfjfjheimceaa.Sp
open Go Go.RowKit Go.Lib Go.Proofs.Ytinfjfjheimceaa.So Rf Cm Ar Bw
theorem good_part {l : List Int} {k : Nat} (hk : k < l.length) (_hn : ∀ j, j < k → 0 ≤ l.getD j 0) (h : l.getD k 0 < 0 ∨ 4611686018427387904 ≤ (l.take k).sum + l.getD k 0) : good l = false := by
  refine good_no fun hg => ?_
  obtain ⟨_, g2, g3, g4⟩ := hg
  have hx := g2 (l.getD k 0) (by simp [hk])
  rcases h with h | h
  · omega
  · have h1 := sm_list l l.length (Nat.le_refl _)
    rw [List.take_length] at h1
    have h2 := sm_mono (f := fun i => l.getD i 0) (n := l.length) (m := k + 1) (fun j hj => g2 _ (by simp [hj])) (by omega)
    have h3 := sm_list l k (by omega)
    rw [sm, h1, h3] at h2
    omega
theorem take_sum (l : List Int) (k : Nat) (h : k < l.length) : (l.take (k + 1)).sum = (l.take k).sum + l.getD k 0 := by
  rw [← sm_list l (k + 1) h, ← sm_list l k (by omega), sm]
set_option maxRecDepth 100000 in
set_option maxHeartbeats 1600000 in
theorem rall_c (a : Option Addr) (cap : Nat) (l : List Int) (w : World) (hI : Ints w a l) (hr : ∀ x ∈ l, -9223372036854775808 ≤ x ∧ x ≤ 9223372036854775807) (hlen : l.length ≤ 9223372036854775807) :
    Calls Try.prog 21 #[.slice a l.length cap] w (WRes l w) := by
  by_cases h1 : l.length < 1
  · have h0 : l = [] := List.length_eq_zero_iff.1 (by omega)
    have HG := Lib.hid (good_no (l := l) (fun g => by rw [h0] at g; simp at g))
    have hz : (l.length : Int) < 1 := by omega
    have hzd : decide ((l.length : Int) < 1) = true := decide_eq_true hz
    clear hI hr h0
    go_enter Try.func21, Try.ntmps21
    go_wp2_with fail
    go_ret2
    exact wres_no 0 HG.out (Below.refl _ _)
  have hz : ¬ (l.length : Int) < 1 := by omega
  have hzd : decide ((l.length : Int) < 1) = false := decide_eq_false hz
  by_cases h2 : 4096 < l.length
  · have HG := Lib.hid (good_no (l := l) (fun g => by omega))
    have hy : (4096 : Int) < (l.length : Int) := by omega
    have hyd : decide ((4096 : Int) < (l.length : Int)) = true := decide_eq_true hy
    clear hI hr
    go_enter Try.func21, Try.ntmps21
    go_wp2_with fail
    go_ret2
    exact wres_no 0 HG.out (Below.refl _ _)
  · have hy : ¬ (4096 : Int) < (l.length : Int) := by omega
    have hyd : decide ((4096 : Int) < (l.length : Int)) = false := decide_eq_false hy
    have HI := Lib.hid hI
    have HR := Lib.hid hr
    clear hI hr
    obtain ⟨n, hn⟩ : ∃ n, n = l.length := ⟨_, rfl⟩
    rw [← hn] at hz hzd hy hyd hlen h1 h2 ⊢
    have HN := Lib.hid hn
    clear hn
    go_enter Try.func21, Try.ntmps21
    go_wp2_with fail
    go_loop [4, 5] (fun s4 s5 => ∃ (k : Nat) (s : Int), s4 = .int .i64 s ∧ s5 = .int .i64 (k : Int) ∧ k ≤ n ∧ 0 ≤ s ∧ s < 4611686018427387904 ∧ Hid (s = (l.take k).sum) ∧ Hid (∀ j, j < k → 0 ≤ l.getD j 0)) (fun _ s5 => n - (intOf s5).toNat)
    case atStart => exact ⟨0, 0, rfl, rfl, Nat.zero_le _, by omega, by omega, rfl, fun j hj => by omega⟩
    case round =>
      obtain ⟨k, s, rfl, rfl, hk, s0, s1, HS, HP⟩ := hrel
      by_cases hlt : k < n
      · have hkz : (k : Int) < (n : Int) := by omega
        have hkl : k < l.length := by rw [← HN.out]; exact hlt
        obtain ⟨b, off, rfl, _, ck⟩ := HI.out.at_ hkl
        have hx := HR.out (l.getD k 0) (by simp [hkl])
        obtain ⟨x, hx0⟩ : ∃ x, x = l.getD k 0 := ⟨_, rfl⟩
        rw [← hx0] at ck hx
        have HX := Lib.hid hx0
        clear hx0
        obtain ⟨x1, x2⟩ := hx
        by_cases c1 : x < 0
        · have HG := Lib.hid (good_part hkl HP.out (Or.inl (by rw [← HX.out]; exact c1)))
          have d1 : decide (x < 0) = true := decide_eq_true c1
          go_wp2_with fail
          go_ret2
          exact wres_no 0 HG.out (Below.refl _ _)
        · have d1 : decide (x < 0) = false := decide_eq_false c1
          by_cases c2 : 4611686018427387904 ≤ x
          · have HG := Lib.hid (good_part hkl HP.out (Or.inr (by rw [← HX.out, ← HS.out]; omega)))
            have d2 : decide (4611686018427387904 ≤ x) = true := decide_eq_true c2
            go_wp2_with fail
            go_ret2
            exact wres_no 0 HG.out (Below.refl _ _)
          · have d2 : decide (4611686018427387904 ≤ x) = false := decide_eq_false c2
            by_cases c3 : 4611686018427387904 ≤ s + x
            · have HG := Lib.hid (good_part hkl HP.out (Or.inr (by rw [← HX.out, ← HS.out]; exact c3)))
              have d3 : decide (4611686018427387904 ≤ s + x) = true := decide_eq_true c3
              go_wp2_with fail
              go_ret2
              exact wres_no 0 HG.out (Below.refl _ _)
            · have d3 : decide (4611686018427387904 ≤ s + x) = false := decide_eq_false c3
              go_wp2_with fail
              go_round
              case rel => exact ⟨k + 1, s + x, rfl, by go_num, by omega, by omega, by omega, by show s + x = _; rw [take_sum l k hkl, ← HX.out, ← HS.out], fun j hj => by
                by_cases e : j = k
                · rw [e, ← HX.out]; omega
                · exact HP.out j (by omega)⟩
              case measure => simp [intOf]; omega
      · have hkz : ¬ (k : Int) < (n : Int) := by omega
        obtain rfl : n = k := by omega
        have hs : s = l.sum := by have := HS.out; rwa [List.take_of_length_le (by rw [← HN.out]; exact Nat.le_refl _)] at this
        have hall : ∀ x ∈ l, 0 ≤ x := all_of fun j hj => HP.out j (by rw [HN.out]; exact hj)
        by_cases c1 : 0 < s
        · have HG := Lib.hid ((good_iff l).2 ⟨by rw [← HN.out]; omega, hall, by rw [← hs]; exact c1, by rw [← hs]; exact s1⟩)
          have d1 : decide (0 < s) = true := decide_eq_true c1
          have HS2 := Lib.hid hs
          clear hs hall
          go_wp2_with fail
          go_ret2
          exact wres_yes HG.out HS2.out (Below.refl _ _)
        · have HG := Lib.hid (good_no (l := l) (fun g => by rw [← hs] at g; omega))
          obtain rfl : s = 0 := by omega
          clear hs hall c1 s0
          go_wp2_with fail
          go_ret2
          exact wres_no 0 HG.out (Below.refl _ _)
theorem rmuldiv_r (a b c q r : Int) (w : World) (ha : I64 a) (hb : I64 b) (c1 : 1 ≤ c) (c2 : c ≤ 9223372036854775807) (hq : a * b / c = q) (hr : a * b % c = r) (q1 : -9223372036854775808 ≤ q) (q2 : q ≤ 9223372036854775807) :
    Calls Try.prog 32 #[.int .i64 a, .int .i64 b, .int .i64 c] w fun e w' => e = .returned (.tuple #[.int .i64 q, .int .i64 r, .bool true]) ∧ Below w.heap.size w w' := by
  subst hq hr
  have h := Bw.rmuldiv_c a b c w ha hb c1 c2
  rw [(ok_in q1 q2).2, (ok_in q1 q2).1, mdr, (ok_in q1 q2).1, if_pos rfl] at h
  exact h
/-- The shares' state. -/
structure RS (T A : Int) (l : List Int) (w : World) (k : Nat) (v1 v2 : Value) (wr : World) : Prop where
  r1 : wr.ownsRow w.heap.size 2 1 v1 k ((List.range k).map fun i => .int .i64 (T * l.getD i 0 / A))
  r2 : wr.ownsRow w.heap.size 2 1 v2 k (rests T A l k)
  sep : ∀ b, v1.ownBlock = some b → v2.ownBlock = some b → False
  below : Below w.heap.size w wr
theorem sep_ne {v1 v2 : Value} (h : ∀ b, v1.ownBlock = some b → v2.ownBlock = some b → False) : (v1.ownBlock = none ∨ v1.ownBlock ≠ v2.ownBlock) ∧ (v2.ownBlock = none ∨ v2.ownBlock ≠ v1.ownBlock) := by
  constructor
  · cases e : v1.ownBlock with
    | none => exact Or.inl rfl
    | some b => exact Or.inr fun h2 => h b e h2.symm
  · cases e : v2.ownBlock with
    | none => exact Or.inl rfl
    | some b => exact Or.inr fun h2 => h b h2.symm e
theorem range_snoc (f : Nat → Value) (k : Nat) : (List.range (k + 1)).map f = (List.range k).map f ++ [f k] := by rw [List.range_succ, List.map_append]; rfl
theorem one_at (W : World) (a : Value) (t : TypeId) : ∀ (j : Nat) (u : Value), [a][j]? = some u → (W.alloc (.cells #[a] t)).cell? (Addr.add ⟨W.heap.size, 0, none⟩ j) = some u := one_new W a t
def ShRes (T A : Int) (l : List Int) (w : World) (e : Ending) (w' : World) : Prop := ∃ g1 c1 g2 c2, e = .returned (.tuple #[.slice (some ⟨g1, 0, none⟩) l.length c1, .slice (some ⟨g2, 0, none⟩) l.length c2]) ∧ g1 ≠ g2 ∧ w.heap.size ≤ g1 ∧ w.heap.size ≤ g2 ∧
  RowAt w' g1 ((List.range l.length).map fun i => .int .i64 (T * l.getD i 0 / A)) ∧ RowAt w' g2 (rests T A l l.length) ∧ Below w.heap.size w w'
set_option maxRecDepth 100000 in
set_option maxHeartbeats 4000000 in
theorem rshares_c (T A : Int) (a : Option Addr) (cap : Nat) (l : List Int) (w : World) (hI : Ints w a l) (hr : ∀ x ∈ l, -9223372036854775808 ≤ x ∧ x ≤ 9223372036854775807) (hg : good l = true) (F : Fine T A l) :
    Calls Try.prog 22 #[.int .i64 T, .slice a l.length cap] w (ShRes T A l w) := by
  have hn2 : l.length ≤ 4096 := ((good_iff l).1 hg).1
  have K := Lib.hid (rall_c a cap l w hI hr (by omega))
  have FI := Lib.hid F
  have HG := Lib.hid hg
  have HI := Lib.hid hI
  have hn1 : 1 ≤ l.length := by
    rcases Nat.eq_zero_or_pos l.length with e | e
    · have e1 := F.a0; have e2 := F.sum; rw [List.length_eq_zero_iff.1 e] at e2; simp at e2; omega
    · exact e
  have ha0 := F.a0
  have ha1 := F.a1
  have ht0 := F.t0
  have ht1 := F.t1
  obtain ⟨n, hn⟩ : ∃ n, n = l.length := ⟨_, rfl⟩
  rw [← hn] at K hn1 hn2 ⊢
  have HN := Lib.hid hn
  obtain ⟨i1, hj, hy0, hy1, hy2⟩ := info_parts infoI64
  clear hI hr hg F hn
  go_enter Try.func22, Try.ntmps22
  go_wp2_with fail
  refine K.out.mono ?_
  rintro e w1 ⟨v, rfl, hv, hb⟩
  obtain rfl : v = A := by rw [hv HG.out]; exact FI.out.sum
  clear hv
  rw [HG.out]
  have HB := Lib.hid hb
  clear hb K
  go_wp2_with fail
  have W0 : Hid (RS T v l w1 0 (.slice none 0 0) (.slice none 0 0) w1) := ⟨World.ownsRow_nil _ _ _ _, World.ownsRow_nil _ _ _ _, fun b h => by simp [Value.ownBlock] at h, Below.refl _ _⟩
  go_loopw [8, 9, 10] (fun s8 s9 s10 wr => ∃ (k : Nat) (v1 v2 : Value), v1 = s8 ∧ v2 = s9 ∧ s10 = .int .i64 (k : Int) ∧ k ≤ n ∧ Hid (RS T v l w1 k v1 v2 wr)) (fun _ _ s10 _ => n - (intOf s10).toNat)
  case atStart => exact ⟨0, _, _, rfl, rfl, rfl, Nat.zero_le _, W0⟩
  case round =>
    clear W0
    obtain ⟨k, v1, v2, rfl, rfl, rfl, hk, HW⟩ := hrel
    by_cases hlt : k < n
    · have hkz : (k : Int) < (n : Int) := by omega
      have hkl : k < l.length := by rw [← HN.out]; exact hlt
      obtain ⟨b, off, rfl, _, ck⟩ := ((HI.out.later HB.out).later HW.out.below).at_ hkl
      obtain ⟨q0, q1, r0, r1⟩ := FI.out.q k hkl
      have x0 := FI.out.pos k hkl
      have x1 := FI.out.le k hkl
      have HM := Lib.hid (range_snoc (fun i => .int .i64 (T * l.getD i 0 / v)) k)
      have HR := Lib.hid (rests_snoc T v l k)
      have KM := Lib.hid (fun w => rmuldiv_r T (l.getD k 0) v _ _ w ⟨by omega, by omega⟩ ⟨by omega, by omega⟩ (by omega) (by omega) rfl rfl (by omega) (by omega))
      generalize l.getD k 0 = x at *
      generalize T * x / v = q at *
      generalize T * x % v = r at *
      go_wp2_with fail
      refine (KM.out _).mono ?_
      rintro e w4 ⟨rfl, b4⟩
      have W4 : Hid (RS T v l w1 k v1 v2 w4) := ⟨own_later HW.out.r1 b4, own_later HW.out.r2 b4, HW.out.sep, HW.out.below.trans (b4.mono HW.out.below.size)⟩
      have s4 := W4.out.below.size
      clear HW b4 ck
      go_wp2_with (at_builtin; refine wpList_append_own_at _ rfl _ _ 22 rfl w1.heap.size 2 i1 (.int .i64 0) 1 8 Try.underlying22 hj hy0 hy1 hy2 rfl (by decide) _ _ _ rfl (W4.out.r1.alloc _) ⟨w4.heap.size, 0, none⟩ 1 1 [.int .i64 q] rfl rfl ?c0 ?c1 ?c2 ?c3 ?c4 ?_)
      case c0 => exact one_at _ _ _
      case c1 => simp [Value.oneCell']
      case c2 => unfold maxLen; omega
      case c3 => omega
      case c4 => simp; omega
      intro v1' w5 hown hgrow hnil hat
      clear hnil
      have R1 : Hid (w5.ownsRow w1.heap.size 2 1 v1' (k + 1) ((List.range (k + 1)).map fun i => .int .i64 (T * l.getD i 0 / v))) := by show w5.ownsRow _ _ _ _ _ _; rw [HM.out]; exact hown
      have R2 : Hid (w5.ownsRow w1.heap.size 2 1 v2 k (rests T v l k)) := (W4.out.r2.alloc _).kept hgrow (sep_ne W4.out.sep).2
      have S5 : Hid (∀ b, v1'.ownBlock = some b → v2.ownBlock = some b → False) := fun b h1 h2 => by
        rcases hat with h | h
        · exact W4.out.sep b (h ▸ h1) h2
        · rw [h] at h1
          have := (W4.out.r2.lt b h2).2
          simp at h1; omega
      have B5 : Hid (Below w1.heap.size w1 w5) := W4.out.below.trans (grown_below W4.out.r1 s4 hgrow)
      have s5 := B5.out.size
      clear W4 hown hgrow hat s4
      go_wp2_with (at_builtin; refine wpList_append_own_at _ rfl _ _ 22 rfl w1.heap.size 2 i1 (.int .i64 0) 1 8 Try.underlying22 hj hy0 hy1 hy2 rfl (by decide) _ _ _ rfl (R2.out.alloc _) ⟨w5.heap.size, 0, none⟩ 1 1 [.int .i64 r] rfl rfl ?d0 ?d1 ?d2 ?d3 ?d4 ?_)
      case d0 => exact one_at _ _ _
      case d1 => simp [Value.oneCell']
      case d2 => unfold maxLen; omega
      case d3 => omega
      case d4 => simp; omega
      intro v2' w6 hown hgrow hnil hat
      clear hnil
      have W6 : Hid (RS T v l w1 (k + 1) v1' v2' w6) := ⟨(R1.out.alloc _).kept hgrow (sep_ne S5.out).1, by rw [HR.out]; exact hown, fun b h1 h2 => by
        rcases hat with h | h
        · exact S5.out b h1 (h ▸ h2)
        · rw [h] at h2
          have := (R1.out.lt b h1).2
          simp at h2; omega, B5.out.trans (grown_below R2.out s5 hgrow)⟩
      clear R1 R2 S5 B5 hown hgrow hat
      go_wp2_with fail
      exact ⟨⟨k + 1, v1', v2', rfl, rfl, by go_num, by omega, W6⟩, by simp [intOf]; omega⟩
    · obtain rfl : n = k := by omega
      have hkz : ¬ (n : Int) < (n : Int) := by omega
      obtain ⟨g1, c1, rfl⟩ := own_form HW.out.r1 hn1
      obtain ⟨g2, c2, rfl⟩ := own_form HW.out.r2 hn1
      go_wp2_with fail
      go_ret2
      have hs := HB.out.size
      refine ⟨g1, c1, g2, c2, by rw [← HN.out]; rfl, fun e => HW.out.sep g1 rfl (by rw [e]; rfl), Nat.le_trans hs (HW.out.r1.lt g1 rfl).1, Nat.le_trans hs (HW.out.r2.lt g2 rfl).1, ?_, ?_, HB.out.trans (HW.out.below.mono hs)⟩
      · have := row_own HW.out.r1; rwa [HN.out] at this
      · have := row_own HW.out.r2; rwa [HN.out] at this
/-! Unit by unit. -/
/-- The rests, of which those of the first t are struck out. -/
def rr (T A : Int) (l : List Int) (t j : Nat) : Int := if cnt T A l j < t then -1 else T * l.getD j 0 % A
def rrow (T A : Int) (l : List Int) (t : Nat) : List Value := (List.range l.length).map fun j => .int .i64 (rr T A l t j)
/-- The slices behind t units. -/
def orow (T A : Int) (l : List Int) (t : Nat) : List Value := (List.range l.length).map fun j => .int .i64 (T * l.getD j 0 / A + if cnt T A l j < t then 1 else 0)
section
variable {T A : Int} {l : List Int} {d : Array Sh}
theorem best_is (S : Sorted T A l d) (F : Fine T A l) {t b : Nat} (ht : t < l.length) (hb : b < l.length) (h1 : ∀ j, j < l.length → rr T A l t j ≤ rr T A l t b) (h2 : ∀ j, j < b → rr T A l t j < rr T A l t b) : cnt T A l b = t := by
  obtain ⟨j, hj, ej⟩ := S.surj t ht
  have hq := (F.q j hj).2.2.1
  have hj1 := h1 j hj
  have ej1 : rr T A l t j = T * l.getD j 0 % A := by unfold rr; rw [if_neg (by omega)]
  have hge : t ≤ cnt T A l b := by
    rcases Nat.lt_or_ge (cnt T A l b) t with h | h
    · have : rr T A l t b = -1 := by unfold rr; rw [if_pos h]
      omega
    · exact h
  have eb1 : rr T A l t b = T * l.getD b 0 % A := by unfold rr; rw [if_neg (by omega)]
  rcases Nat.lt_or_eq_of_le hge with h | h
  · exfalso
    have hne : j ≠ b := fun e => by subst e; omega
    have hbf : T * l.getD b 0 % A < T * l.getD j 0 % A ∨ T * l.getD j 0 % A = T * l.getD b 0 % A ∧ j < b := cnt_inv hb hne (by omega)
    rcases hbf with h3 | ⟨h3, h4⟩
    · omega
    · have := h2 j h4; omega
  · exact h.symm
theorem rrow_at (t j : Nat) (h : j < l.length) : (rrow T A l t)[j]? = some (.int .i64 (rr T A l t j)) := by unfold rrow; simp [h]
theorem orow_at (t j : Nat) (h : j < l.length) : (orow T A l t)[j]? = some (.int .i64 (T * l.getD j 0 / A + if cnt T A l j < t then 1 else 0)) := by unfold orow; simp [h]
theorem rrow_len (t : Nat) : (rrow T A l t).length = l.length := by unfold rrow; simp
theorem orow_len (t : Nat) : (orow T A l t).length = l.length := by unfold orow; simp
theorem cnt_other {b j t : Nat} (hb : b < l.length) (hj : j < l.length) (h : cnt T A l b = t) (e : b ≠ j) : cnt T A l j ≠ t := fun hq => by
  rcases bf_total (x := sh T A l b) (y := sh T A l j) e with h1 | h1
  · have := cnt_lt hb h1; omega
  · have := cnt_lt hj h1; omega
theorem rrow_set {b t : Nat} (hb : b < l.length) (h : cnt T A l b = t) : (rrow T A l t).set b (.int .i64 (-1)) = rrow T A l (t + 1) := by
  refine List.ext_getElem (by simp [rrow_len]) fun j h1 h2 => ?_
  have hj : j < l.length := by rw [rrow_len] at h2; exact h2
  by_cases e : b = j
  · subst e; rw [List.getElem_set_self]; simp only [rrow, rr, List.getElem_map, List.getElem_range]; rw [if_pos (by omega)]
  · rw [List.getElem_set_ne e]
    have := cnt_other hb hj h e
    simp only [rrow, rr, List.getElem_map, List.getElem_range]
    by_cases q : cnt T A l j < t
    · rw [if_pos q, if_pos (by omega)]
    · rw [if_neg q, if_neg (by omega)]
theorem orow_set {b t : Nat} (hb : b < l.length) (h : cnt T A l b = t) (v : Int) (hv : v = T * l.getD b 0 / A + 1) : (orow T A l t).set b (.int .i64 v) = orow T A l (t + 1) := by
  subst hv
  refine List.ext_getElem (by simp [orow_len]) fun j h1 h2 => ?_
  have hj : j < l.length := by rw [orow_len] at h2; exact h2
  by_cases e : b = j
  · subst e; rw [List.getElem_set_self]; simp only [orow, List.getElem_map, List.getElem_range]; rw [if_pos (by omega)]
  · rw [List.getElem_set_ne e]
    have := cnt_other hb hj h e
    simp only [orow, List.getElem_map, List.getElem_range]
    by_cases q : cnt T A l j < t
    · rw [if_pos q, if_pos (by omega)]
    · rw [if_neg q, if_neg (by omega)]
theorem rrow_zero : rrow T A l 0 = rests T A l l.length := by unfold rrow rests rr; simp
theorem orow_zero : orow T A l 0 = (List.range l.length).map fun i => .int .i64 (T * l.getD i 0 / A) := by unfold orow; simp
theorem orow_all (_F : Fine T A l) {t : Nat} (h : (t : Int) = Sp.left T A l) : orow T A l t = outs T A l := by
  unfold orow outs slice
  refine List.map_congr_left fun i _ => ?_
  by_cases q : cnt T A l i < t
  · rw [if_pos q, if_pos (by omega)]
  · rw [if_neg q, if_neg (by omega)]
end
end Go.Proofs.Ytinfjfjheimceaa.Sp
