/- The law of slices over all layers. -/
import Derived.Test.YtinfjfjheimceaaSpSum
namespace Go.Proofs.Ytinfjfjheimceaa.Sp
open Go Go.RowKit Go.Lib Go.Proofs.Ytinfjfjheimceaa.So Rf Cm
theorem sum_any (a : Option Addr) (cap : Nat) (l : List Int) (w : World) (hI : Ints w a l) (hr : ∀ x ∈ l, -9223372036854775808 ≤ x ∧ x ≤ 9223372036854775807) (hl : l.length ≤ 9223372036854775807) :
    Calls Try.prog 13 #[.slice a l.length cap] w (Told l.sum w) := by
  rcases hI with h | ⟨b, off, rfl, hb, hc⟩
  · subst h
    have E := ok_in (n := 0) (by omega) (by omega)
    exact (sum_0 a cap w).mono fun e w' ⟨he, hb⟩ => ⟨by rw [he]; simp [E.1, E.2], hb⟩
  · have K := sum_w b off l.length cap l w hb (Nat.le_refl _) hl hr hc
    rwa [List.take_length] at K
set_option maxRecDepth 100000 in
set_option maxHeartbeats 1600000 in
theorem halves_c (w : World) : Calls Try.prog 16 #[] w fun e w' => e = .returned (.bool true) ∧ Below w.heap.size w w' := by
  have i1 := ints_new w [1, 1] 2
  have K := Lib.hid (ex6 _ _ i1)
  have y := Lib.hid ((Below.refl w.heap.size w).alloc (Nat.le_refl _) (.cells #[.int .i64 1, .int .i64 1] 2))
  clear i1
  go_enter Try.func16, Try.ntmps16
  go_wp2_with fail
  refine K.out.mono ?_
  rintro e w1 ⟨g, rfl, I1, b1⟩
  have B1 : Hid (Below w.heap.size w w1) := y.out.trans (b1.mono (by simp))
  obtain ⟨b, o, e, _, c0⟩ := I1.at_ (k := 0) (by decide)
  obtain ⟨rfl, rfl⟩ : g = b ∧ 0 = o := by simpa using e
  obtain ⟨b, o, e', _, c1⟩ := I1.at_ (k := 1) (by decide)
  obtain ⟨rfl, rfl⟩ : g = b ∧ 0 = o := by simpa using e'
  have c0 : w1.cell? ⟨g, 0, none⟩ = some (.int .i64 51) := c0
  have c1 : w1.cell? ⟨g, 1, none⟩ = some (.int .i64 50) := c1
  clear I1 b1 e e' K y
  go_wp2_with fail
  go_ret
  exact ⟨rfl, B1.out⟩
def nn (l : List Int) (k : Nat) : Bool := (l.take k).all fun x => decide (0 ≤ x)
theorem nn_succ (l : List Int) (k : Nat) (h : k < l.length) : nn l (k + 1) = (nn l k && decide (0 ≤ l.getD k 0)) := by
  unfold nn; rw [List.take_add_one, List.all_append]; simp [h]
theorem nn_all {l : List Int} (h : nn l l.length = true) : ∀ x ∈ l, 0 ≤ x := by
  unfold nn at h; rw [List.take_length] at h; simpa using h
/-- What is kept of the slices seen. -/
structure TS (T A : Int) (l : List Int) (ls bs la fi : Int) : Prop where
  last : la < 0 ∨ ∃ p, p < l.length ∧ la = (p : Int) ∧ moreB T A l p = true ∧ ls = T * l.getD p 0 % A
  first : fi < 0 ∨ ∃ p, p < l.length ∧ fi = (p : Int) ∧ moreB T A l p = false ∧ bs = T * l.getD p 0 % A
theorem TS.fin {T A : Int} {l : List Int} {ls bs la fi : Int} (h : TS T A l ls bs la fi) : la < 0 ∨ fi < 0 ∨ bs < ls ∨ ls = bs ∧ la < fi := by
  rcases h.last with h1 | ⟨p, hp, rfl, mp, rfl⟩
  · exact Or.inl h1
  · rcases h.first with h2 | ⟨q, hq, rfl, mq, rfl⟩
    · exact Or.inr (Or.inl h2)
    · obtain ⟨f1, f2⟩ := more_first hp hq mp mq
      have hne : p ≠ q := fun e => by subst e; rw [mp] at mq; cases mq
      by_cases e : T * l.getD p 0 % A = T * l.getD q 0 % A
      · have := f2 e
        exact Or.inr (Or.inr (Or.inr ⟨e, by omega⟩))
      · exact Or.inr (Or.inr (Or.inl (by omega)))
set_option maxRecDepth 100000 in
set_option maxHeartbeats 4000000 in
theorem top_bad (T : Int) (a : Option Addr) (cap : Nat) (l : List Int) (w : World) (hI : Ints w a l) (hr : ∀ x ∈ l, -9223372036854775808 ≤ x ∧ x ≤ 9223372036854775807) (hlen : l.length ≤ 9223372036854775807) (hbad : good l = false ∨ T < 0 ∨ 4611686018427387904 ≤ T) :
    Calls Try.prog 7 #[.int .i64 T, .slice a l.length cap] w fun e w' => e = .returned (.bool true) ∧ Below w.heap.size w w' := by
  have K1 := Lib.hid (split_no T a cap l w hI hr hlen hbad)
  have K2 := Lib.hid (fun w h => sum_any a cap l w h hr hlen)
  have HI := Lib.hid hI
  have HBAD := Lib.hid hbad
  obtain ⟨n, hn⟩ : ∃ n, n = l.length := ⟨_, rfl⟩
  have HN := Lib.hid hn
  obtain ⟨s, hs⟩ : ∃ s, s = l.sum := ⟨_, rfl⟩
  have HS := Lib.hid hs
  rw [← hs] at K2
  rw [← hn] at hlen K1 K2 ⊢
  obtain ⟨v, hv⟩ : ∃ v, v = Ar.val s := ⟨_, rfl⟩
  obtain ⟨o, ho⟩ : ∃ o, o = Ar.ok s := ⟨_, rfl⟩
  have HO : Hid (o = true → v = s) := fun h => by
    rcases ok_or s with ⟨e1, _⟩ | ⟨_, e2⟩
    · rw [hv, e1]
    · rw [ho, e2] at h; cases h
  have HVO := Lib.hid (And.intro hv.symm ho.symm)
  clear hI hr hbad hn hs hv ho
  by_cases h : 0 ≤ T
  rotate_left
  · have t1 : decide ((0 : Int) ≤ T) = false := decide_eq_false h
    go_enter Try.func7, Try.ntmps7
    go_wp2_with fail
    refine K1.out.mono ?_
    rintro e w1 ⟨rfl, b1⟩
    go_wp2_with fail
    refine (K2.out _ (HI.out.later b1)).mono ?_
    rintro e w2 ⟨rfl, b2⟩
    rw [HVO.out.1, HVO.out.2]
    have B2 : Hid (Below w.heap.size w w2) := b1.trans (b2.mono b1.size)
    clear b1 b2
    go_wp2_with fail
    go_loop [9, 10] (fun s9 s10 => ∃ k : Nat, s9 = .bool false ∧ s10 = .int .i64 (k : Int) ∧ k ≤ n) (fun _ s10 => n - (intOf s10).toNat)
    case atStart => exact ⟨0, rfl, rfl, Nat.zero_le _⟩
    case round =>
      obtain ⟨k, rfl, rfl, hk⟩ := hrel
      by_cases hlt : k < n
      · have hkz : (k : Int) < (n : Int) := by omega
        go_wp2_with fail
        go_round
        case rel => exact ⟨k + 1, rfl, by go_num, by omega⟩
        case measure => simp [intOf]; omega
      · have hkz : ¬ (k : Int) < (n : Int) := by omega
        go_wp2_with fail
        refine (halves_c _).mono ?_
        rintro e w3 ⟨rfl, b3⟩
        go_wp2_with fail
        go_ret
        exact ⟨rfl, B2.out.trans (b3.mono B2.out.size)⟩
  have t1 : decide ((0 : Int) ≤ T) = true := decide_eq_true h
  have h0 := h
  clear h
  by_cases h : T < 4611686018427387904
  rotate_left
  · have t2 : decide (T < 4611686018427387904) = false := decide_eq_false h
    go_enter Try.func7, Try.ntmps7
    go_wp2_with fail
    refine K1.out.mono ?_
    rintro e w1 ⟨rfl, b1⟩
    go_wp2_with fail
    refine (K2.out _ (HI.out.later b1)).mono ?_
    rintro e w2 ⟨rfl, b2⟩
    rw [HVO.out.1, HVO.out.2]
    have B2 : Hid (Below w.heap.size w w2) := b1.trans (b2.mono b1.size)
    clear b1 b2
    go_wp2_with fail
    go_loop [9, 10] (fun s9 s10 => ∃ k : Nat, s9 = .bool false ∧ s10 = .int .i64 (k : Int) ∧ k ≤ n) (fun _ s10 => n - (intOf s10).toNat)
    case atStart => exact ⟨0, rfl, rfl, Nat.zero_le _⟩
    case round =>
      obtain ⟨k, rfl, rfl, hk⟩ := hrel
      by_cases hlt : k < n
      · have hkz : (k : Int) < (n : Int) := by omega
        go_wp2_with fail
        go_round
        case rel => exact ⟨k + 1, rfl, by go_num, by omega⟩
        case measure => simp [intOf]; omega
      · have hkz : ¬ (k : Int) < (n : Int) := by omega
        go_wp2_with fail
        refine (halves_c _).mono ?_
        rintro e w3 ⟨rfl, b3⟩
        go_wp2_with fail
        go_ret
        exact ⟨rfl, B2.out.trans (b3.mono B2.out.size)⟩
  have t2 : decide (T < 4611686018427387904) = true := decide_eq_true h
  have h1 := h
  clear h
  by_cases h : (1 : Int) ≤ (n : Int)
  rotate_left
  · have t3 : decide ((1 : Int) ≤ (n : Int)) = false := decide_eq_false h
    go_enter Try.func7, Try.ntmps7
    go_wp2_with fail
    refine K1.out.mono ?_
    rintro e w1 ⟨rfl, b1⟩
    go_wp2_with fail
    refine (K2.out _ (HI.out.later b1)).mono ?_
    rintro e w2 ⟨rfl, b2⟩
    rw [HVO.out.1, HVO.out.2]
    have B2 : Hid (Below w.heap.size w w2) := b1.trans (b2.mono b1.size)
    clear b1 b2
    go_wp2_with fail
    go_loop [9, 10] (fun s9 s10 => ∃ k : Nat, s9 = .bool false ∧ s10 = .int .i64 (k : Int) ∧ k ≤ n) (fun _ s10 => n - (intOf s10).toNat)
    case atStart => exact ⟨0, rfl, rfl, Nat.zero_le _⟩
    case round =>
      obtain ⟨k, rfl, rfl, hk⟩ := hrel
      by_cases hlt : k < n
      · have hkz : (k : Int) < (n : Int) := by omega
        go_wp2_with fail
        go_round
        case rel => exact ⟨k + 1, rfl, by go_num, by omega⟩
        case measure => simp [intOf]; omega
      · have hkz : ¬ (k : Int) < (n : Int) := by omega
        go_wp2_with fail
        refine (halves_c _).mono ?_
        rintro e w3 ⟨rfl, b3⟩
        go_wp2_with fail
        go_ret
        exact ⟨rfl, B2.out.trans (b3.mono B2.out.size)⟩
  have t3 : decide ((1 : Int) ≤ (n : Int)) = true := decide_eq_true h
  have h2 := h
  clear h
  by_cases h : (n : Int) ≤ 4096
  rotate_left
  · have t4 : decide ((n : Int) ≤ 4096) = false := decide_eq_false h
    go_enter Try.func7, Try.ntmps7
    go_wp2_with fail
    refine K1.out.mono ?_
    rintro e w1 ⟨rfl, b1⟩
    go_wp2_with fail
    refine (K2.out _ (HI.out.later b1)).mono ?_
    rintro e w2 ⟨rfl, b2⟩
    rw [HVO.out.1, HVO.out.2]
    have B2 : Hid (Below w.heap.size w w2) := b1.trans (b2.mono b1.size)
    clear b1 b2
    go_wp2_with fail
    go_loop [9, 10] (fun s9 s10 => ∃ k : Nat, s9 = .bool false ∧ s10 = .int .i64 (k : Int) ∧ k ≤ n) (fun _ s10 => n - (intOf s10).toNat)
    case atStart => exact ⟨0, rfl, rfl, Nat.zero_le _⟩
    case round =>
      obtain ⟨k, rfl, rfl, hk⟩ := hrel
      by_cases hlt : k < n
      · have hkz : (k : Int) < (n : Int) := by omega
        go_wp2_with fail
        go_round
        case rel => exact ⟨k + 1, rfl, by go_num, by omega⟩
        case measure => simp [intOf]; omega
      · have hkz : ¬ (k : Int) < (n : Int) := by omega
        go_wp2_with fail
        refine (halves_c _).mono ?_
        rintro e w3 ⟨rfl, b3⟩
        go_wp2_with fail
        go_ret
        exact ⟨rfl, B2.out.trans (b3.mono B2.out.size)⟩
  have t4 : decide ((n : Int) ≤ 4096) = true := decide_eq_true h
  have h3 := h
  clear h
  by_cases h : o = true
  rotate_left
  · have h : o = false := by cases o with | true => exact absurd rfl h | false => rfl
    subst h
    go_enter Try.func7, Try.ntmps7
    go_wp2_with fail
    refine K1.out.mono ?_
    rintro e w1 ⟨rfl, b1⟩
    go_wp2_with fail
    refine (K2.out _ (HI.out.later b1)).mono ?_
    rintro e w2 ⟨rfl, b2⟩
    rw [HVO.out.1, HVO.out.2]
    have B2 : Hid (Below w.heap.size w w2) := b1.trans (b2.mono b1.size)
    clear b1 b2
    go_wp2_with fail
    go_loop [9, 10] (fun s9 s10 => ∃ k : Nat, s9 = .bool false ∧ s10 = .int .i64 (k : Int) ∧ k ≤ n) (fun _ s10 => n - (intOf s10).toNat)
    case atStart => exact ⟨0, rfl, rfl, Nat.zero_le _⟩
    case round =>
      obtain ⟨k, rfl, rfl, hk⟩ := hrel
      by_cases hlt : k < n
      · have hkz : (k : Int) < (n : Int) := by omega
        go_wp2_with fail
        go_round
        case rel => exact ⟨k + 1, rfl, by go_num, by omega⟩
        case measure => simp [intOf]; omega
      · have hkz : ¬ (k : Int) < (n : Int) := by omega
        go_wp2_with fail
        refine (halves_c _).mono ?_
        rintro e w3 ⟨rfl, b3⟩
        go_wp2_with fail
        go_ret
        exact ⟨rfl, B2.out.trans (b3.mono B2.out.size)⟩
  subst h
  skip
  by_cases h : 0 < v
  rotate_left
  · have t6 : decide ((0 : Int) < v) = false := decide_eq_false h
    go_enter Try.func7, Try.ntmps7
    go_wp2_with fail
    refine K1.out.mono ?_
    rintro e w1 ⟨rfl, b1⟩
    go_wp2_with fail
    refine (K2.out _ (HI.out.later b1)).mono ?_
    rintro e w2 ⟨rfl, b2⟩
    rw [HVO.out.1, HVO.out.2]
    have B2 : Hid (Below w.heap.size w w2) := b1.trans (b2.mono b1.size)
    clear b1 b2
    go_wp2_with fail
    go_loop [9, 10] (fun s9 s10 => ∃ k : Nat, s9 = .bool false ∧ s10 = .int .i64 (k : Int) ∧ k ≤ n) (fun _ s10 => n - (intOf s10).toNat)
    case atStart => exact ⟨0, rfl, rfl, Nat.zero_le _⟩
    case round =>
      obtain ⟨k, rfl, rfl, hk⟩ := hrel
      by_cases hlt : k < n
      · have hkz : (k : Int) < (n : Int) := by omega
        go_wp2_with fail
        go_round
        case rel => exact ⟨k + 1, rfl, by go_num, by omega⟩
        case measure => simp [intOf]; omega
      · have hkz : ¬ (k : Int) < (n : Int) := by omega
        go_wp2_with fail
        refine (halves_c _).mono ?_
        rintro e w3 ⟨rfl, b3⟩
        go_wp2_with fail
        go_ret
        exact ⟨rfl, B2.out.trans (b3.mono B2.out.size)⟩
  have t6 : decide ((0 : Int) < v) = true := decide_eq_true h
  have h5 := h
  clear h
  by_cases h : v < 4611686018427387904
  rotate_left
  · have t7 : decide (v < 4611686018427387904) = false := decide_eq_false h
    go_enter Try.func7, Try.ntmps7
    go_wp2_with fail
    refine K1.out.mono ?_
    rintro e w1 ⟨rfl, b1⟩
    go_wp2_with fail
    refine (K2.out _ (HI.out.later b1)).mono ?_
    rintro e w2 ⟨rfl, b2⟩
    rw [HVO.out.1, HVO.out.2]
    have B2 : Hid (Below w.heap.size w w2) := b1.trans (b2.mono b1.size)
    clear b1 b2
    go_wp2_with fail
    go_loop [9, 10] (fun s9 s10 => ∃ k : Nat, s9 = .bool false ∧ s10 = .int .i64 (k : Int) ∧ k ≤ n) (fun _ s10 => n - (intOf s10).toNat)
    case atStart => exact ⟨0, rfl, rfl, Nat.zero_le _⟩
    case round =>
      obtain ⟨k, rfl, rfl, hk⟩ := hrel
      by_cases hlt : k < n
      · have hkz : (k : Int) < (n : Int) := by omega
        go_wp2_with fail
        go_round
        case rel => exact ⟨k + 1, rfl, by go_num, by omega⟩
        case measure => simp [intOf]; omega
      · have hkz : ¬ (k : Int) < (n : Int) := by omega
        go_wp2_with fail
        refine (halves_c _).mono ?_
        rintro e w3 ⟨rfl, b3⟩
        go_wp2_with fail
        go_ret
        exact ⟨rfl, B2.out.trans (b3.mono B2.out.size)⟩
  have t7 : decide (v < 4611686018427387904) = true := decide_eq_true h
  have h6 := h
  clear h
  have hneg : Hid (nn l n = false) := by
    show nn l n = false
    cases hq : nn l n with
    | false => rfl
    | true =>
      rw [HN.out] at hq
      have hall := nn_all hq
      have hvs := HO.out rfl
      have hg : good l = true := (good_iff l).2 ⟨by have := HN.out; omega, hall, by rw [← HS.out, ← hvs]; exact h5, by rw [← HS.out, ← hvs]; exact h6⟩
      rcases HBAD.out with h | h
      · rw [hg] at h; cases h
      · omega
  go_enter Try.func7, Try.ntmps7
  go_wp2_with fail
  refine K1.out.mono ?_
  rintro e w1 ⟨rfl, b1⟩
  go_wp2_with fail
  refine (K2.out _ (HI.out.later b1)).mono ?_
  rintro e w2 ⟨rfl, b2⟩
  rw [HVO.out.1, HVO.out.2]
  have B2 : Hid (Below w.heap.size w w2) := b1.trans (b2.mono b1.size)
  clear b1 b2
  go_wp2_with fail
  go_loop [9, 10] (fun s9 s10 => ∃ (k : Nat) (f : Bool), s9 = .bool f ∧ s10 = .int .i64 (k : Int) ∧ k ≤ n ∧ Hid (f = nn l k)) (fun _ s10 => n - (intOf s10).toNat)
  case atStart => exact ⟨0, true, rfl, rfl, Nat.zero_le _, rfl⟩
  case round =>
    obtain ⟨k, f, rfl, rfl, hk, HF⟩ := hrel
    by_cases hlt : k < n
    · have hkz : (k : Int) < (n : Int) := by omega
      have hkl : k < l.length := by rw [← HN.out]; exact hlt
      have HC := Lib.hid (nn_succ l k hkl)
      cases f with
      | false =>
        go_wp2_with fail
        go_round
        case rel => exact ⟨k + 1, false, rfl, by go_num, by omega, by show false = nn l (k + 1); rw [HC.out, ← HF.out]; rfl⟩
        case measure => simp [intOf]; omega
      | true =>
        obtain ⟨b, off, rfl, _, ck⟩ := (HI.out.later B2.out).at_ hkl
        obtain ⟨x, hx⟩ : ∃ x, x = l.getD k 0 := ⟨_, rfl⟩
        rw [← hx] at ck HC
        clear hx
        by_cases hx0 : 0 ≤ x
        · have e1 : decide (0 ≤ x) = true := decide_eq_true hx0
          have HE := Lib.hid e1
          go_wp2_with fail
          go_round
          case rel => exact ⟨k + 1, true, rfl, by go_num, by omega, by show true = nn l (k + 1); rw [HC.out, ← HF.out, HE.out]; rfl⟩
          case measure => simp [intOf]; omega
        · have e1 : decide (0 ≤ x) = false := decide_eq_false hx0
          have HE := Lib.hid e1
          go_wp2_with fail
          go_round
          case rel => exact ⟨k + 1, false, rfl, by go_num, by omega, by show false = nn l (k + 1); rw [HC.out, ← HF.out, HE.out]; rfl⟩
          case measure => simp [intOf]; omega
    · have hkz : ¬ (k : Int) < (n : Int) := by omega
      obtain rfl : n = k := by omega
      obtain rfl : false = f := by rw [HF.out, hneg.out]
      go_wp2_with fail
      refine (halves_c _).mono ?_
      rintro e w3 ⟨rfl, b3⟩
      go_wp2_with fail
      go_ret
      exact ⟨rfl, B2.out.trans (b3.mono B2.out.size)⟩
set_option maxRecDepth 100000 in
set_option maxHeartbeats 4000000 in
theorem top_fine (T : Int) (a : Option Addr) (cap : Nat) (l : List Int) (w : World) (hI : Ints w a l) (hr : ∀ x ∈ l, -9223372036854775808 ≤ x ∧ x ≤ 9223372036854775807) (hlen : l.length ≤ 9223372036854775807) (hg : good l = true) (h0 : 0 ≤ T) (h1 : T < 4611686018427387904) :
    Calls Try.prog 7 #[.int .i64 T, .slice a l.length cap] w fun e w' => e = .returned (.bool true) ∧ Below w.heap.size w w' := by
  have K1 := Lib.hid (split_ok T a cap l w hI hr hg h0 h1)
  have FI := Lib.hid (fine_of hg h0 h1)
  have HG := Lib.hid ((good_iff l).1 hg)
  have hn2 : l.length ≤ 4096 := HG.out.1
  have HI := Lib.hid hI
  have HRL := Lib.hid hr
  have hn1 : 1 ≤ l.length := by
    rcases Nat.eq_zero_or_pos l.length with e | e
    · have := FI.out.a0; rw [List.length_eq_zero_iff.1 e] at this; simp at this
    · exact e
  obtain ⟨n, hn⟩ : ∃ n, n = l.length := ⟨_, rfl⟩
  have HN := Lib.hid hn
  obtain ⟨A, hA⟩ : ∃ A, A = l.sum := ⟨_, rfl⟩
  have HA := Lib.hid hA
  rw [← hA] at FI K1
  have a0 := FI.out.a0
  have a1 := FI.out.a1
  have K2 := fun w h => sum_ints a cap l w h hr (by omega) A HA.out.symm (by omega) (by omega)
  have K2 := Lib.hid K2
  rw [← hn] at hlen K1 K2 hn1 hn2 ⊢
  have n1 : (1 : Int) ≤ (n : Int) := by omega
  have n2 : (n : Int) ≤ 4096 := by omega
  clear hI hr hg hn hA
  have t1 : decide ((0 : Int) ≤ T) = true := decide_eq_true h0
  have t2 : decide (T < 4611686018427387904) = true := decide_eq_true h1
  have t3 : decide ((1 : Int) ≤ (n : Int)) = true := decide_eq_true n1
  have t4 : decide ((n : Int) ≤ 4096) = true := decide_eq_true n2
  have t6 : decide ((0 : Int) < A) = true := decide_eq_true a0
  have t7 : decide (A < 4611686018427387904) = true := decide_eq_true a1
  go_enter Try.func7, Try.ntmps7
  go_wp2_with fail
  refine K1.out.mono ?_
  rintro e w1 ⟨g, rfl, O1, b1, d, SD⟩
  have HS := Lib.hid (outl_sum SD FI.out)
  have J1 := Lib.hid (And.intro (HI.out.later b1) O1)
  have B1 := Lib.hid b1
  clear O1 b1 SD HI K1
  go_wp2_with fail
  refine (K2.out _ J1.out.1).mono ?_
  rintro e w2 ⟨rfl, b2⟩
  have J2 := Lib.hid (And.intro (J1.out.1.later b2) (J1.out.2.later b2))
  have B2 : Hid (Below w.heap.size w w2) := B1.out.trans (b2.mono B1.out.size)
  clear b2 J1 B1 K2
  go_wp2_with fail
  go_loop [9, 10] (fun s9 s10 => ∃ k : Nat, s9 = .bool true ∧ s10 = .int .i64 (k : Int) ∧ k ≤ n) (fun _ s10 => n - (intOf s10).toNat)
  case atStart => exact ⟨0, rfl, rfl, Nat.zero_le _⟩
  case round =>
    obtain ⟨k, rfl, rfl, hk⟩ := hrel
    by_cases hlt : k < n
    · have hkz : (k : Int) < (n : Int) := by omega
      have hkl : k < l.length := by rw [← HN.out]; exact hlt
      obtain ⟨b, off, rfl, _, ck⟩ := J2.out.1.at_ hkl
      have hx0 := FI.out.pos k hkl
      generalize l.getD k 0 = x at ck hx0
      have e1 : decide (0 ≤ x) = true := decide_eq_true hx0
      go_wp2_with fail
      go_round
      case rel => exact ⟨k + 1, rfl, by go_num, by omega⟩
      case measure => simp [intOf]; omega
    · have hkz : ¬ (k : Int) < (n : Int) := by omega
      obtain rfl : n = k := by omega
      go_wp2_with fail
      have KS := sum_ints (some ⟨g, 0, none⟩) n (outl T A l) w2 J2.out.2 (outl_i64 FI.out) (by rw [outl_len]; have := HN.out; omega) T HS.out (by omega) (by omega)
      rw [outl_len, ← HN.out] at KS
      refine KS.mono ?_
      rintro e w3 ⟨rfl, b3⟩
      have J3 := Lib.hid (And.intro (J2.out.1.later b3) (J2.out.2.later b3))
      have B3 : Hid (Below w.heap.size w w3) := B2.out.trans (b3.mono B2.out.size)
      clear KS b3 J2 B2 HS
      go_wp2_with fail
      have T0 : Hid (TS T A l (-1) (-1) (-1) (-1)) := ⟨Or.inl (by decide), Or.inl (by decide)⟩
      go_loopw [13, 14, 15, 16, 17] (fun s13 s14 s15 s16 s17 wr => ∃ (i : Nat) (ls bs la fi : Int), s13 = .int .i64 ls ∧ s14 = .int .i64 bs ∧ s15 = .int .i64 la ∧ s16 = .int .i64 fi ∧ s17 = .int .i64 (i : Int) ∧ i ≤ n ∧ Hid (TS T A l ls bs la fi) ∧ Hid (Below w3.heap.size w3 wr)) (fun _ _ _ _ s17 _ => n - (intOf s17).toNat)
      case atStart => exact ⟨0, -1, -1, -1, -1, rfl, rfl, rfl, rfl, rfl, Nat.zero_le _, T0, Lib.hid (Below.refl _ _)⟩
      case round =>
        clear T0
        obtain ⟨i, ls, bs, la, fi, rfl, rfl, rfl, rfl, rfl, hi, HT, HB⟩ := hrel
        by_cases hlt : i < n
        · have hiz : (i : Int) < (n : Int) := by omega
          have hil : i < l.length := by rw [← HN.out]; exact hlt
          obtain ⟨b, off, rfl, ck, ok⟩ := both_at J3.out.1 J3.out.2 HB.out hil
          obtain ⟨q0, q1, r0, r1⟩ := FI.out.q i hil
          have x0 := FI.out.pos i hil
          have x1 := FI.out.le i hil
          have hsl : slice T A l i = T * l.getD i 0 / A + if moreB T A l i = true then 1 else 0 := by unfold slice moreB; simp
          have hmr : moreB T A l i = true → 0 < T * l.getD i 0 % A := fun h => FI.out.more (of_decide_eq_true h) hil
          have KM := Lib.hid (fun w => muldiv_in T (l.getD i 0) A _ _ w ⟨by omega, by omega⟩ ⟨by omega, by omega⟩ (by omega) (by omega) rfl rfl (by omega) (by omega))
          rw [hsl] at ok
          clear hsl
          obtain ⟨r, hr⟩ : ∃ r, r = T * l.getD i 0 % A := ⟨_, rfl⟩
          rw [← hr] at r0 r1 hmr KM
          have HR := Lib.hid hr
          clear hr
          generalize l.getD i 0 = x at ck ok q0 q1 x0 x1 KM
          generalize T * x / A = q at ok q0 q1 KM
          cases hm : moreB T A l i with
          | true =>
            rw [hm, if_pos rfl] at ok
            have hr0 := hmr hm
            have HM := Lib.hid hm
            clear hm hmr
            have e1 : (r == 0) = false := by simp; omega
            have e2 : (q + 1 == q) = false := by simp; omega
            have e2' : (q + 1 != q) = true := by simp; omega
            have e3 : q < q + 1 := by omega
            have e4 : decide (q < q + 1) = true := decide_eq_true e3
            have wq : IntKind.i64.wrap (q + 1) = q + 1 := by rw [IntKind.wrap_i64]; omega
            have HT2 : Hid (TS T A l r bs (i : Int) fi) := ⟨Or.inr ⟨i, hil, rfl, HM.out, HR.out⟩, HT.out.first⟩
            by_cases l1 : ls < 0
            · have l2 : decide (ls < 0) = true := decide_eq_true l1
              go_wp2_with fail
              refine (KM.out _).mono ?_
              rintro e w4 ⟨rfl, b4⟩
              have ok4 : w4.cell? ⟨g, i, none⟩ = some (.int .i64 (q + 1)) := by rw [b4.cell (World.block_lt_of_cell? _ _ ok)]; exact ok
              have B4 : Hid (Below w3.heap.size w3 w4) := HB.out.trans (b4.mono HB.out.size)
              clear b4 ok ck HB
              go_wp2_with fail
              exact ⟨⟨i + 1, r, bs, i, fi, rfl, rfl, rfl, rfl, by go_num, by omega, HT2, B4⟩, by simp [intOf]; omega⟩
            · have l2 : decide (ls < 0) = false := decide_eq_false l1
              by_cases l3 : r ≤ ls
              · have l4 : decide (r ≤ ls) = true := decide_eq_true l3
                go_wp2_with fail
                refine (KM.out _).mono ?_
                rintro e w4 ⟨rfl, b4⟩
                have ok4 : w4.cell? ⟨g, i, none⟩ = some (.int .i64 (q + 1)) := by rw [b4.cell (World.block_lt_of_cell? _ _ ok)]; exact ok
                have B4 : Hid (Below w3.heap.size w3 w4) := HB.out.trans (b4.mono HB.out.size)
                clear b4 ok ck HB
                go_wp2_with fail
                exact ⟨⟨i + 1, r, bs, i, fi, rfl, rfl, rfl, rfl, by go_num, by omega, HT2, B4⟩, by simp [intOf]; omega⟩
              · have l4 : decide (r ≤ ls) = false := decide_eq_false l3
                go_wp2_with fail
                refine (KM.out _).mono ?_
                rintro e w4 ⟨rfl, b4⟩
                have ok4 : w4.cell? ⟨g, i, none⟩ = some (.int .i64 (q + 1)) := by rw [b4.cell (World.block_lt_of_cell? _ _ ok)]; exact ok
                have B4 : Hid (Below w3.heap.size w3 w4) := HB.out.trans (b4.mono HB.out.size)
                clear b4 ok ck HB
                go_wp2_with fail
                exact ⟨⟨i + 1, ls, bs, la, fi, rfl, rfl, rfl, rfl, by go_num, by omega, HT, B4⟩, by simp [intOf]; omega⟩
          | false =>
            rw [hm, if_neg (by decide), Int.add_zero] at ok
            have HM := Lib.hid hm
            clear hm hmr
            have e3 : ¬ q < q := by omega
            have e4 : decide (q < q) = false := decide_eq_false e3
            have HT2 : Hid (TS T A l ls r la (i : Int)) := ⟨HT.out.last, Or.inr ⟨i, hil, rfl, HM.out, HR.out⟩⟩
            by_cases l1 : bs < r
            · have l2 : decide (bs < r) = true := decide_eq_true l1
              go_wp2_with fail
              refine (KM.out _).mono ?_
              rintro e w4 ⟨rfl, b4⟩
              have ok4 : w4.cell? ⟨g, i, none⟩ = some (.int .i64 q) := by rw [b4.cell (World.block_lt_of_cell? _ _ ok)]; exact ok
              have B4 : Hid (Below w3.heap.size w3 w4) := HB.out.trans (b4.mono HB.out.size)
              clear b4 ok ck HB
              go_wp2_with fail
              exact ⟨⟨i + 1, ls, r, la, i, rfl, rfl, rfl, rfl, by go_num, by omega, HT2, B4⟩, by simp [intOf]; omega⟩
            · have l2 : decide (bs < r) = false := decide_eq_false l1
              go_wp2_with fail
              refine (KM.out _).mono ?_
              rintro e w4 ⟨rfl, b4⟩
              have ok4 : w4.cell? ⟨g, i, none⟩ = some (.int .i64 q) := by rw [b4.cell (World.block_lt_of_cell? _ _ ok)]; exact ok
              have B4 : Hid (Below w3.heap.size w3 w4) := HB.out.trans (b4.mono HB.out.size)
              clear b4 ok ck HB
              go_wp2_with fail
              exact ⟨⟨i + 1, ls, bs, la, fi, rfl, rfl, rfl, rfl, by go_num, by omega, HT, B4⟩, by simp [intOf]; omega⟩
        · have hiz : ¬ (i : Int) < (n : Int) := by omega
          have hfin := Lib.hid HT.out.fin
          rcases hfin.out with f | f | f | ⟨f, f'⟩
          · have u1 : decide (la < 0) = true := decide_eq_true f
            go_wp2_with fail
            refine (halves_c _).mono ?_
            rintro e w4 ⟨rfl, b4⟩
            go_wp2_with fail
            go_ret
            exact ⟨rfl, B3.out.trans ((HB.out.trans (b4.mono HB.out.size)).mono B3.out.size)⟩
          · have u2 : decide (fi < 0) = true := decide_eq_true f
            by_cases f2 : la < 0
            · have u1 : decide (la < 0) = true := decide_eq_true f2
              go_wp2_with fail
              refine (halves_c _).mono ?_
              rintro e w4 ⟨rfl, b4⟩
              go_wp2_with fail
              go_ret
              exact ⟨rfl, B3.out.trans ((HB.out.trans (b4.mono HB.out.size)).mono B3.out.size)⟩
            · have u1 : decide (la < 0) = false := decide_eq_false f2
              go_wp2_with fail
              refine (halves_c _).mono ?_
              rintro e w4 ⟨rfl, b4⟩
              go_wp2_with fail
              go_ret
              exact ⟨rfl, B3.out.trans ((HB.out.trans (b4.mono HB.out.size)).mono B3.out.size)⟩
          · have u3 : decide (bs < ls) = true := decide_eq_true f
            by_cases f2 : la < 0
            · have u1 : decide (la < 0) = true := decide_eq_true f2
              go_wp2_with fail
              refine (halves_c _).mono ?_
              rintro e w4 ⟨rfl, b4⟩
              go_wp2_with fail
              go_ret
              exact ⟨rfl, B3.out.trans ((HB.out.trans (b4.mono HB.out.size)).mono B3.out.size)⟩
            · have u1 : decide (la < 0) = false := decide_eq_false f2
              by_cases f3 : fi < 0
              · have u2 : decide (fi < 0) = true := decide_eq_true f3
                go_wp2_with fail
                refine (halves_c _).mono ?_
                rintro e w4 ⟨rfl, b4⟩
                go_wp2_with fail
                go_ret
                exact ⟨rfl, B3.out.trans ((HB.out.trans (b4.mono HB.out.size)).mono B3.out.size)⟩
              · have u2 : decide (fi < 0) = false := decide_eq_false f3
                go_wp2_with fail
                refine (halves_c _).mono ?_
                rintro e w4 ⟨rfl, b4⟩
                go_wp2_with fail
                go_ret
                exact ⟨rfl, B3.out.trans ((HB.out.trans (b4.mono HB.out.size)).mono B3.out.size)⟩
          · subst f
            have u3 : (ls == ls) = true := by simp
            have u4 : decide (la < fi) = true := decide_eq_true f'
            have u5 : decide (ls < ls) = false := by simp
            by_cases f2 : la < 0
            · have u1 : decide (la < 0) = true := decide_eq_true f2
              go_wp2_with fail
              refine (halves_c _).mono ?_
              rintro e w4 ⟨rfl, b4⟩
              go_wp2_with fail
              go_ret
              exact ⟨rfl, B3.out.trans ((HB.out.trans (b4.mono HB.out.size)).mono B3.out.size)⟩
            · have u1 : decide (la < 0) = false := decide_eq_false f2
              by_cases f3 : fi < 0
              · have u2 : decide (fi < 0) = true := decide_eq_true f3
                go_wp2_with fail
                refine (halves_c _).mono ?_
                rintro e w4 ⟨rfl, b4⟩
                go_wp2_with fail
                go_ret
                exact ⟨rfl, B3.out.trans ((HB.out.trans (b4.mono HB.out.size)).mono B3.out.size)⟩
              · have u2 : decide (fi < 0) = false := decide_eq_false f3
                go_wp2_with fail
                refine (halves_c _).mono ?_
                rintro e w4 ⟨rfl, b4⟩
                go_wp2_with fail
                go_ret
                exact ⟨rfl, B3.out.trans ((HB.out.trans (b4.mono HB.out.size)).mono B3.out.size)⟩
theorem top_law (T : Int) (a : Option Addr) (cap : Nat) (l : List Int) (w : World) (hI : Ints w a l) (hr : ∀ x ∈ l, -9223372036854775808 ≤ x ∧ x ≤ 9223372036854775807) (hlen : l.length ≤ 9223372036854775807) :
    Calls Try.prog 7 #[.int .i64 T, .slice a l.length cap] w fun e w' => e = .returned (.bool true) ∧ Below w.heap.size w w' := by
  by_cases hbad : good l = false ∨ T < 0 ∨ 4611686018427387904 ≤ T
  · exact top_bad T a cap l w hI hr hlen hbad
  · have hg : good l = true := by cases h : good l with | true => rfl | false => exact absurd (Or.inl h) hbad
    exact top_fine T a cap l w hI hr hlen hg (by omega) (by omega)
end Go.Proofs.Ytinfjfjheimceaa.Sp
