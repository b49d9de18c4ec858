/- Package codec: which schemas may be. -/
import Derived.Test.YtialjglgkfcdmaaCoIdx
import Derived.Test.YtialjglgkfcdmaaOrFits
import Derived.Deep.RegionWith
import Derived.Deep.Draws
import Derived.RegionTactic
namespace Go.Proofs.Ytialjglgkfcdmaa.Or
open Go.RowKit
def nameOk (c : UInt8) : Bool := decide (33 ≤ c.toNat) && decide (c.toNat ≤ 126)
def namedB (s : ByteArray) : Bool := s.data.toList.all nameOk && decide (0 < s.size) && decide (s.size ≤ 40)
theorem named_no {s : ByteArray} {k : Nat} (h : k < s.size) (hn : nameOk s[k] = false) : namedB s = false := by
  unfold namedB
  have : s.data.toList.all nameOk = false := by
    rw [← Bool.not_eq_true, List.all_eq_true]
    intro hall
    have := hall s[k] (by rw [← byte_at s k h]; exact List.getElem_mem _)
    rw [hn] at this; cases this
  rw [this]; rfl
theorem named_all {s : ByteArray} (h : ∀ k (hk : k < s.size), nameOk s[k] = true) : namedB s = (decide (0 < s.size) && decide (s.size ≤ 40)) := by
  unfold namedB
  have : s.data.toList.all nameOk = true := List.all_eq_true.2 fun x hx => by
    obtain ⟨k, hk, rfl⟩ := List.getElem_of_mem hx
    rw [byte_at s k (by simpa using hk)]
    exact h k (by simpa using hk)
  rw [this, Bool.true_and]
theorem nameOk_iff (c : UInt8) : nameOk c = true ↔ 33 ≤ c.toNat ∧ c.toNat ≤ 126 := by unfold nameOk; simp
theorem nameOk_no {c : UInt8} (h : c.toNat < 33 ∨ 126 < c.toNat) : nameOk c = false := by
  rw [← Bool.not_eq_true, nameOk_iff]; omega
set_option maxRecDepth 100000 in
set_option maxHeartbeats 800000 in
theorem named_c (s : ByteArray) (w : World) (hs : s.size ≤ 1000000) : Calls Try.prog 46 #[.string s] w fun e w' => e = .returned (.bool (namedB s)) ∧ w = w' := by
  go_enter Try.func46, Try.ntmps46
  go_wp2_with fail
  go_loop [3, 6] (fun _ i => ∃ k : Nat, k ≤ s.size ∧ i = .int .i64 k ∧ ∀ j (hj : j < s.size), j < k → nameOk s[j] = true) (fun _ i => s.size - (intOf i).toNat)
  case atStart => exact ⟨0, by omega, rfl, fun j _ h => by omega⟩
  case round =>
    obtain ⟨k, hk, rfl, hall⟩ := hrel
    have HA := Lib.hid hall
    clear hall
    by_cases hlt : k < s.size
    · have q0 : (0 : Int) ≤ (k : Int) := by omega
      have q1 : (k : Int) < (s.size : Int) := by omega
      by_cases h1 : s[k].toNat < 33
      · have HR := Lib.hid (named_no hlt (nameOk_no (.inl h1)))
        have d1 : (s[k].toNat : Int) < 33 := by omega
        clear h1
        go_wp2_with fail
        go_ret
        exact ⟨by rw [HR.out]; rfl, rfl⟩
      · have d1 : ¬ (s[k].toNat : Int) < 33 := by omega
        by_cases h2 : 126 < s[k].toNat
        · have HR := Lib.hid (named_no hlt (nameOk_no (.inr h2)))
          have d2 : (126 : Int) < (s[k].toNat : Int) := by omega
          clear h1 h2
          go_wp2_with fail
          go_ret
          exact ⟨by rw [HR.out]; rfl, rfl⟩
        · have d2 : ¬ (126 : Int) < (s[k].toNat : Int) := by omega
          have HN := Lib.hid (show ∀ j (hj : j < s.size), j < k + 1 → nameOk s[j] = true by
            intro j hj h
            rcases Nat.lt_or_ge j k with h3 | h3
            · exact HA.out j hj h3
            · obtain rfl : j = k := by omega
              exact (nameOk_iff _).2 ⟨by omega, by omega⟩)
          clear h1 h2
          go_wp2_with fail
          exact ⟨⟨k + 1, by omega, by simp, HN.out⟩, by simp [intOf]; omega⟩
    · obtain rfl : k = s.size := by omega
      have HR := Lib.hid (named_all (fun j hj => HA.out j hj hj))
      have q1 : ¬ (s.size : Int) < (s.size : Int) := by omega
      rcases size_zero s with ⟨h0, e0⟩ | ⟨h0, e0⟩
      · have HD := Lib.hid (show decide (0 < s.size) = false from decide_eq_false (by omega))
        clear h0
        go_wp2_with fail
        go_ret
        exact ⟨by rw [HR.out, HD.out]; rfl, rfl⟩
      · have HD := Lib.hid (show decide (0 < s.size) = true from decide_eq_true (by omega))
        by_cases h4 : s.size ≤ 40
        · have HD2 := Lib.hid (decide_eq_true h4)
          have d2 : (s.size : Int) ≤ 40 := by omega
          clear h0 h4
          go_wp2_with fail
          go_ret
          exact ⟨by rw [HR.out, HD.out, HD2.out]; rfl, rfl⟩
        · have HD2 := Lib.hid (decide_eq_false h4)
          have d2 : ¬ (s.size : Int) ≤ 40 := by omega
          clear h0 h4
          go_wp2_with fail
          go_ret
          exact ⟨by rw [HR.out, HD.out, HD2.out]; rfl, rfl⟩
/-- A schema. -/
structure Sch where
  name : ByteArray
  kinds : ByteArray
  key : Int
  idx : List (List Int)
def Sch.val (S : Sch) (a : Option Addr) (cap : Nat) : Value := .agg #[.string S.name, .string S.kinds, .int .i64 S.key, .slice a S.idx.length cap]
/-- A slice of slices of ints. -/
def Mat (w : World) (a : Option Addr) (rows : List (List Int)) : Prop :=
  ∀ j (h : j < rows.length), ∃ b off aj cj, a = some ⟨b, off, none⟩ ∧ b < w.heap.size ∧ w.cell? ⟨b, off + j, none⟩ = some (.slice aj rows[j].length cj) ∧ rows[j].length ≤ cj ∧ Ints w aj rows[j]
theorem Mat.later {w w' : World} {a : Option Addr} {rows : List (List Int)} (h : Mat w a rows) (hb : Below w.heap.size w w') : Mat w' a rows := by
  intro j hj
  obtain ⟨b, off, aj, cj, ha, hlt, c, hc, hi⟩ := h j hj
  exact ⟨b, off, aj, cj, ha, Nat.lt_of_lt_of_le hlt hb.size, by rw [hb.cell (by simpa using hlt)]; exact c, hc, hi.later hb⟩
structure SmallS (S : Sch) : Prop where
  name : S.name.size ≤ 60
  kinds : S.kinds.size ≤ 40
  idx : S.idx.length ≤ 12
  each : ∀ z ∈ S.idx, z.length ≤ 20
def chkB (S : Sch) : Bool := namedB S.name && decide (0 < S.kinds.size) && kindsB S.kinds.data.toList && decide (1 ≤ S.key) && decide (S.key ≤ S.kinds.size) && decide (S.idx.length ≤ 8) && S.idx.all fun z => placedB z S.kinds.size
/-- The error. -/
def chkE (S : Sch) : Int := if chkB S then 0 else 2
theorem chkE_no {S : Sch} (h : chkB S = false) : chkE S = 2 := by unfold chkE; rw [h]; rfl
theorem chkE_yes {S : Sch} (h : chkB S = true) : chkE S = 0 := by unfold chkE; rw [h]; rfl
theorem chk_no {S : Sch} (h : namedB S.name = false ∨ S.kinds.size = 0 ∨ kindsB S.kinds.data.toList = false ∨ S.key < 1 ∨ (S.kinds.size : Int) < S.key ∨ 8 < S.idx.length) : chkB S = false := by
  rw [← Bool.not_eq_true]
  unfold chkB
  simp only [Bool.and_eq_true, decide_eq_true_eq]
  rintro ⟨⟨⟨⟨⟨⟨h1, h2⟩, h3⟩, h4⟩, h5⟩, h6⟩, -⟩
  rcases h with h | h | h | h | h | h
  · rw [h1] at h; cases h
  · omega
  · rw [h3] at h; cases h
  · omega
  · omega
  · omega
theorem chk_at {S : Sch} {k : Nat} (hk : k < S.idx.length) (h : placedB S.idx[k] S.kinds.size = false) : chkB S = false := by
  rw [← Bool.not_eq_true]
  unfold chkB
  simp only [Bool.and_eq_true, List.all_eq_true]
  rintro ⟨-, h7⟩
  have := h7 _ (List.getElem_mem hk)
  rw [h] at this; cases this
theorem chk_yes {S : Sch} (h1 : namedB S.name = true) (_h2 : S.kinds.size ≠ 0) (h3 : kindsB S.kinds.data.toList = true) (h4 : ¬ S.key < 1) (h5 : ¬ (S.kinds.size : Int) < S.key) (h6 : ¬ 8 < S.idx.length)
    (h7 : ∀ k (hk : k < S.idx.length), placedB S.idx[k] S.kinds.size = true) : chkB S = true := by
  unfold chkB
  simp only [Bool.and_eq_true, decide_eq_true_eq, List.all_eq_true]
  refine ⟨⟨⟨⟨⟨⟨h1, by omega⟩, h3⟩, by omega⟩, by omega⟩, by omega⟩, fun z hz => ?_⟩
  obtain ⟨k, hk, rfl⟩ := List.getElem_of_mem hz
  exact h7 k hk
/-- A schema in its box. -/
structure Sb (B : Nat) (S : Sch) (a : Option Addr) (cap : Nat) (w0 u : World) : Prop where
  c0 : u.cell? ⟨B, 0, none⟩ = some (.string S.name)
  c1 : u.cell? ⟨B, 1, none⟩ = some (.string S.kinds)
  c2 : u.cell? ⟨B, 2, none⟩ = some (.int .i64 S.key)
  c3 : u.cell? ⟨B, 3, none⟩ = some (.slice a S.idx.length cap)
  lt : B < u.heap.size
  mat : Mat u a S.idx
  below : Below w0.heap.size w0 u
theorem below_then {a b c : World} (h : Below a.heap.size a b) (k : Below b.heap.size b c) : Below a.heap.size a c := h.trans (k.mono h.size)
theorem Sb.later {B : Nat} {S : Sch} {a : Option Addr} {cap : Nat} {w0 u v : World} (h : Sb B S a cap w0 u) (hb : Below u.heap.size u v) : Sb B S a cap w0 v :=
  ⟨by rw [hb.cell (by simpa using h.lt)]; exact h.c0, by rw [hb.cell (by simpa using h.lt)]; exact h.c1, by rw [hb.cell (by simpa using h.lt)]; exact h.c2, by rw [hb.cell (by simpa using h.lt)]; exact h.c3, Nat.lt_of_lt_of_le h.lt hb.size, h.mat.later hb, below_then h.below hb⟩
theorem sb_new (w : World) (S : Sch) (a : Option Addr) (cap : Nat) (hM : Mat w a S.idx) (t : TypeId) : Sb w.heap.size S a cap w (w.alloc (.cells #[.string S.name, .string S.kinds, .int .i64 S.key, .slice a S.idx.length cap] t)) :=
  ⟨by rw [World.cell?_alloc_at _ _ _ _ rfl]; rfl, by rw [World.cell?_alloc_at _ _ _ _ rfl]; rfl, by rw [World.cell?_alloc_at _ _ _ _ rfl]; rfl, by rw [World.cell?_alloc_at _ _ _ _ rfl]; rfl, by simp, hM.later ((Below.refl _ _).alloc (Nat.le_refl _) _), (Below.refl _ _).alloc (Nat.le_refl _) _⟩
theorem Sb.under {B : Nat} {S : Sch} {a : Option Addr} {cap : Nat} {w0 u v : World} (h : Sb B S a cap w0 u) (hb : Below w0.heap.size w0 v) (hb2 : Below u.heap.size u v) : Sb B S a cap w0 v := { h.later hb2 with below := hb }
set_option maxRecDepth 100000 in
set_option maxHeartbeats 3200000 in
theorem check_c (S : Sch) (w : World) (a : Option Addr) (cap : Nat) (hM : Mat w a S.idx) (hS : SmallS S) :
    Calls Try.prog 19 #[S.val a cap] w fun e w' => e = .returned (.int .i64 (chkE S)) ∧ Below w.heap.size w w' := by
  have HM := Lib.hid hM
  obtain ⟨s1, s2, s3, s4⟩ := hS
  have HEA := Lib.hid s4
  unfold Sch.val
  have SB := Lib.hid (sb_new w S a cap hM 40)
  have KN := Lib.hid (fun w => named_c S.name w (by omega))
  have KK := Lib.hid (fun w => kinds_c S.kinds w (by omega))
  cases hn : namedB S.name with
  | false =>
    rw [hn] at KN
    have HR := Lib.hid (chkE_no (chk_no (S := S) (.inl hn)))
    clear hM s4 hn
    go_enter Try.func19, Try.ntmps19
    go_wp2_with fail
    refine (KN.out _).mono ?_
    rintro e w1 ⟨rfl, rfl⟩
    go_wp2_with fail
    go_ret
    exact ⟨by rw [HR.out]; rfl, SB.out.below⟩
  | true =>
  rw [hn] at KN
  rcases size_zero S.kinds with ⟨h0, e0⟩ | ⟨h0, e0⟩
  · have HR := Lib.hid (chkE_no (chk_no (S := S) (.inr (.inl h0))))
    clear hM s4 hn h0
    go_enter Try.func19, Try.ntmps19
    go_wp2_with fail
    refine (KN.out _).mono ?_
    rintro e w1 ⟨rfl, rfl⟩
    go_wp2_with fail
    go_ret
    exact ⟨by rw [HR.out]; rfl, SB.out.below⟩
  cases hk : kindsB S.kinds.data.toList with
  | false =>
    rw [hk] at KK
    have HR := Lib.hid (chkE_no (chk_no (S := S) (.inr (.inr (.inl hk)))))
    clear hM s4 hn h0 hk
    go_enter Try.func19, Try.ntmps19
    go_wp2_with fail
    refine (KN.out _).mono ?_
    rintro e w1 ⟨rfl, rfl⟩
    go_wp2_with fail
    refine (KK.out _).mono ?_
    rintro e w1 ⟨rfl, rfl⟩
    go_wp2_with fail
    go_ret
    exact ⟨by rw [HR.out]; rfl, SB.out.below⟩
  | true =>
  rw [hk] at KK
  by_cases h1 : S.key < 1
  · have HR := Lib.hid (chkE_no (chk_no (S := S) (.inr (.inr (.inr (.inl h1))))))
    clear hM s4 hn h0 hk
    go_enter Try.func19, Try.ntmps19
    go_wp2_with fail
    refine (KN.out _).mono ?_
    rintro e w1 ⟨rfl, rfl⟩
    go_wp2_with fail
    refine (KK.out _).mono ?_
    rintro e w1 ⟨rfl, rfl⟩
    go_wp2_with fail
    go_ret
    exact ⟨by rw [HR.out]; rfl, SB.out.below⟩
  by_cases h2 : (S.kinds.size : Int) < S.key
  · have HR := Lib.hid (chkE_no (chk_no (S := S) (.inr (.inr (.inr (.inr (.inl h2)))))))
    clear hM s4 hn h0 hk
    go_enter Try.func19, Try.ntmps19
    go_wp2_with fail
    refine (KN.out _).mono ?_
    rintro e w1 ⟨rfl, rfl⟩
    go_wp2_with fail
    refine (KK.out _).mono ?_
    rintro e w1 ⟨rfl, rfl⟩
    go_wp2_with fail
    go_ret
    exact ⟨by rw [HR.out]; rfl, SB.out.below⟩
  by_cases h3 : 8 < S.idx.length
  · have d3 : (8 : Int) < (S.idx.length : Int) := by omega
    have HR := Lib.hid (chkE_no (chk_no (S := S) (.inr (.inr (.inr (.inr (.inr h3)))))))
    clear hM s4 hn h0 hk
    go_enter Try.func19, Try.ntmps19
    go_wp2_with fail
    refine (KN.out _).mono ?_
    rintro e w1 ⟨rfl, rfl⟩
    go_wp2_with fail
    refine (KK.out _).mono ?_
    rintro e w1 ⟨rfl, rfl⟩
    go_wp2_with fail
    go_ret
    exact ⟨by rw [HR.out]; rfl, SB.out.below⟩
  have d3 : ¬ (8 : Int) < (S.idx.length : Int) := by omega
  have HY := Lib.hid (chk_yes hn h0 hk h1 h2 h3)
  have HAT := Lib.hid (fun k hk => chk_at (S := S) (k := k) hk)
  clear hM s4 hn hk
  go_enter Try.func19, Try.ntmps19
  go_wp2_with fail
  refine (KN.out _).mono ?_
  rintro e w1 ⟨rfl, rfl⟩
  go_wp2_with fail
  refine (KK.out _).mono ?_
  rintro e w1 ⟨rfl, rfl⟩
  go_wp2_with fail
  go_loopw [4, 42] (fun _ i wr => ∃ k : Nat, k ≤ S.idx.length ∧ i = .int .i64 k ∧ (∀ j (hj : j < S.idx.length), j < k → placedB S.idx[j] S.kinds.size = true) ∧ Sb w.heap.size S a cap w wr) (fun _ i _ => S.idx.length - (intOf i).toNat)
  case atStart => exact ⟨0, by omega, rfl, fun j _ h => by omega, SB.out⟩
  case round =>
    obtain ⟨k, hk, rfl, hall, hB⟩ := hrel
    have HA := Lib.hid hall
    have HB := Lib.hid hB
    clear hall
    obtain ⟨y0, y1, y2, y3, y4, -, -⟩ := hB
    by_cases hlt : k < S.idx.length
    · obtain ⟨b, off, aj, cj, rfl, hb, c, hcj, hi⟩ := HB.out.mat k hlt
      have hz20 := HEA.out _ (List.getElem_mem hlt)
      have HNO := Lib.hid (HAT.out k hlt)
      obtain ⟨z, hz⟩ : ∃ z, S.idx[k] = z := ⟨_, rfl⟩
      have HZ := Lib.hid hz
      rw [hz] at c hcj hi hz20 HNO
      have KP := Lib.hid (fun w h => placed_c w aj cj z S.kinds.size h (by omega) hcj)
      have q0 : (0 : Int) ≤ (k : Int) := by omega
      have q1 : (k : Int) < (S.idx.length : Int) := by omega
      clear hz
      cases hp : placedB z S.kinds.size with
      | false =>
        rw [hp] at KP
        have HR := Lib.hid (chkE_no (HNO.out hp))
        clear hp
        go_wp2_with fail
        refine (KP.out _ hi).mono ?_
        rintro e w2 ⟨rfl, rfl⟩
        go_wp2_with fail
        go_ret
        exact ⟨by rw [HR.out]; rfl, HB.out.below⟩
      | true =>
        rw [hp] at KP
        have HN := Lib.hid (show ∀ j (hj : j < S.idx.length), j < k + 1 → placedB S.idx[j] S.kinds.size = true by
          intro j hj h
          rcases Nat.lt_or_ge j k with h3 | h3
          · exact HA.out j hj h3
          · obtain rfl : j = k := by omega
            rw [HZ.out]; exact hp)
        clear hp
        go_wp2_with fail
        refine (KP.out _ hi).mono ?_
        rintro e w2 ⟨rfl, rfl⟩
        go_wp2_with fail
        exact ⟨⟨k + 1, by omega, by simp, HN.out, HB.out⟩, by simp [intOf]; omega⟩
    · obtain rfl : k = S.idx.length := by omega
      have HR := Lib.hid (chkE_yes (HY.out (fun j hj => HA.out j hj hj)))
      have q1 : ¬ (S.idx.length : Int) < (S.idx.length : Int) := by omega
      go_wp2_with fail
      go_ret
      exact ⟨by rw [HR.out]; rfl, HB.out.below⟩
set_option maxRecDepth 100000 in
set_option maxHeartbeats 3200000 in
theorem rcheck_c (S : Sch) (w : World) (a : Option Addr) (cap : Nat) (hM : Mat w a S.idx) (hS : SmallS S) :
    Calls Try.prog 20 #[S.val a cap] w fun e w' => e = .returned (.int .i64 (chkE S)) ∧ Below w.heap.size w w' := by
  have HM := Lib.hid hM
  obtain ⟨s1, s2, s3, s4⟩ := hS
  have HEA := Lib.hid s4
  unfold Sch.val
  have SB := Lib.hid (sb_new w S a cap hM 40)
  have KK := Lib.hid (fun w => rkinds_c S.kinds w (by omega))
  by_cases n1 : S.name.size < 1
  · have d1 : (S.name.size : Int) < 1 := by omega
    have hn : namedB S.name = false := by unfold namedB; rw [decide_eq_false (show ¬ 0 < S.name.size by omega)]; simp
    have HR := Lib.hid (chkE_no (chk_no (S := S) (.inl hn)))
    clear hM s4 hn
    go_enter Try.func20, Try.ntmps20
    go_wp2_with fail
    go_ret
    exact ⟨by rw [HR.out]; rfl, SB.out.below⟩
  have d1 : ¬ (S.name.size : Int) < 1 := by omega
  by_cases n2 : 40 < S.name.size
  · have d2 : (40 : Int) < (S.name.size : Int) := by omega
    have hn : namedB S.name = false := by unfold namedB; rw [decide_eq_false (show ¬ S.name.size ≤ 40 by omega)]; simp
    have HR := Lib.hid (chkE_no (chk_no (S := S) (.inl hn)))
    clear hM s4 hn
    go_enter Try.func20, Try.ntmps20
    go_wp2_with fail
    go_ret
    exact ⟨by rw [HR.out]; rfl, SB.out.below⟩
  have d2 : ¬ (40 : Int) < (S.name.size : Int) := by omega
  by_cases h0 : S.kinds.size = 0
  · have e0 : ((S.kinds.size : Int) == 0) = true := beq_iff_eq.2 (by omega)
    have HR := Lib.hid (chkE_no (chk_no (S := S) (.inr (.inl h0))))
    clear hM s4 h0
    go_enter Try.func20, Try.ntmps20
    go_wp2_with fail
    go_ret
    exact ⟨by rw [HR.out]; rfl, SB.out.below⟩
  have e0 : ((S.kinds.size : Int) == 0) = false := beq_eq_false_iff_ne.2 (by omega)
  cases hk : kindsB S.kinds.data.toList with
  | false =>
    rw [hk] at KK
    have HR := Lib.hid (chkE_no (chk_no (S := S) (.inr (.inr (.inl hk)))))
    clear hM s4 h0 hk
    go_enter Try.func20, Try.ntmps20
    go_wp2_with fail
    refine (KK.out _).mono ?_
    rintro e w1 ⟨rfl, rfl⟩
    go_wp2_with fail
    go_ret
    exact ⟨by rw [HR.out]; rfl, SB.out.below⟩
  | true =>
  rw [hk] at KK
  by_cases h1 : S.key < 1
  · have HR := Lib.hid (chkE_no (chk_no (S := S) (.inr (.inr (.inr (.inl h1))))))
    clear hM s4 h0 hk
    go_enter Try.func20, Try.ntmps20
    go_wp2_with fail
    refine (KK.out _).mono ?_
    rintro e w1 ⟨rfl, rfl⟩
    go_wp2_with fail
    go_ret
    exact ⟨by rw [HR.out]; rfl, SB.out.below⟩
  by_cases h2 : (S.kinds.size : Int) < S.key
  · have HR := Lib.hid (chkE_no (chk_no (S := S) (.inr (.inr (.inr (.inr (.inl h2)))))))
    clear hM s4 h0 hk
    go_enter Try.func20, Try.ntmps20
    go_wp2_with fail
    refine (KK.out _).mono ?_
    rintro e w1 ⟨rfl, rfl⟩
    go_wp2_with fail
    go_ret
    exact ⟨by rw [HR.out]; rfl, SB.out.below⟩
  by_cases h3 : 8 < S.idx.length
  · have d3 : (8 : Int) < (S.idx.length : Int) := by omega
    have HR := Lib.hid (chkE_no (chk_no (S := S) (.inr (.inr (.inr (.inr (.inr h3)))))))
    clear hM s4 h0 hk
    go_enter Try.func20, Try.ntmps20
    go_wp2_with fail
    refine (KK.out _).mono ?_
    rintro e w1 ⟨rfl, rfl⟩
    go_wp2_with fail
    go_ret
    exact ⟨by rw [HR.out]; rfl, SB.out.below⟩
  have d3 : ¬ (8 : Int) < (S.idx.length : Int) := by omega
  have HY0 := Lib.hid (fun hn => chk_yes hn h0 hk h1 h2 h3)
  have HAT := Lib.hid (fun k hk => chk_at (S := S) (k := k) hk)
  clear hM s4 hk
  go_enter Try.func20, Try.ntmps20
  go_wp2_with fail
  refine (KK.out _).mono ?_
  rintro e w1 ⟨rfl, rfl⟩
  go_wp2_with fail
  go_loopw [3] (fun i wr => ∃ k : Nat, k ≤ S.name.size ∧ i = .int .i64 k ∧ (∀ j (hj : j < S.name.size), j < k → nameOk S.name[j] = true) ∧ Sb w.heap.size S a cap w wr) (fun i _ => S.name.size - (intOf i).toNat)
  case atStart => exact ⟨0, by omega, rfl, fun j _ h => by omega, SB.out⟩
  case round =>
    obtain ⟨k, hk, rfl, hall, hB⟩ := hrel
    have HA := Lib.hid hall
    have HB := Lib.hid hB
    clear hall
    obtain ⟨y0, y1, y2, y3, y4, -, -⟩ := hB
    by_cases hlt : k < S.name.size
    · have q0 : (0 : Int) ≤ (k : Int) := by omega
      have q1 : (k : Int) < (S.name.size : Int) := by omega
      by_cases h1 : S.name[k].toNat < 33
      · have HR := Lib.hid (chkE_no (chk_no (.inl (named_no hlt (nameOk_no (.inl h1))))))
        have d1 : (S.name[k].toNat : Int) < 33 := by omega
        clear h1
        go_wp2_with fail
        go_ret
        exact ⟨by rw [HR.out]; rfl, HB.out.below⟩
      · have d1 : ¬ (S.name[k].toNat : Int) < 33 := by omega
        by_cases h2 : 126 < S.name[k].toNat
        · have HR := Lib.hid (chkE_no (chk_no (.inl (named_no hlt (nameOk_no (.inr h2))))))
          have d2 : (126 : Int) < (S.name[k].toNat : Int) := by omega
          clear h1 h2
          go_wp2_with fail
          go_ret
          exact ⟨by rw [HR.out]; rfl, HB.out.below⟩
        · have d2 : ¬ (126 : Int) < (S.name[k].toNat : Int) := by omega
          have HN := Lib.hid (show ∀ j (hj : j < S.name.size), j < k + 1 → nameOk S.name[j] = true by
            intro j hj h
            rcases Nat.lt_or_ge j k with h3 | h3
            · exact HA.out j hj h3
            · obtain rfl : j = k := by omega
              exact (nameOk_iff _).2 ⟨by omega, by omega⟩)
          clear h1 h2
          go_wp2_with fail
          exact ⟨⟨k + 1, by omega, by simp, HN.out, HB.out⟩, by simp [intOf]; omega⟩
    · obtain rfl : k = S.name.size := by omega
      have hnm : namedB S.name = true := by rw [named_all (fun j hj => HA.out j hj hj), decide_eq_true (by omega), decide_eq_true (by omega)]; rfl
      have HY := Lib.hid (HY0.out hnm)
      have q1 : ¬ (S.name.size : Int) < (S.name.size : Int) := by omega
      clear hnm
      go_wp2_with fail
      go_loopw [4] (fun i wr => ∃ k : Nat, k ≤ S.idx.length ∧ i = .int .i64 k ∧ (∀ j (hj : j < S.idx.length), j < k → placedB S.idx[j] S.kinds.size = true) ∧ Sb w.heap.size S a cap w wr) (fun i _ => S.idx.length - (intOf i).toNat)
      case atStart => exact ⟨0, by omega, rfl, fun j _ h => by omega, HB.out⟩
      case round =>
        obtain ⟨k, hk, rfl, hall, hB⟩ := hrel
        have HA := Lib.hid hall
        have HB := Lib.hid hB
        clear hall
        obtain ⟨y0, y1, y2, y3, y4, -, -⟩ := hB
        by_cases hlt : k < S.idx.length
        · obtain ⟨b, off, aj, cj, rfl, hb, c, hcj, hi⟩ := HB.out.mat k hlt
          have hz20 := HEA.out _ (List.getElem_mem hlt)
          have HNO := Lib.hid (HAT.out k hlt)
          obtain ⟨z, hz⟩ : ∃ z, S.idx[k] = z := ⟨_, rfl⟩
          have HZ := Lib.hid hz
          rw [hz] at c hcj hi hz20 HNO
          have KP := Lib.hid (fun w h => rindex_c w aj cj z S.kinds.size h (by omega))
          have q0 : (0 : Int) ≤ (k : Int) := by omega
          have q1 : (k : Int) < (S.idx.length : Int) := by omega
          clear hz
          cases hp : placedB z S.kinds.size with
          | false =>
            rw [hp] at KP
            have HR := Lib.hid (chkE_no (HNO.out hp))
            clear hp
            go_wp2_with fail
            go_region_with (first | (go_at_call 48; refine (KP.out _ (by exact hi)).mono ?_; rintro e w2 ⟨rfl, b2⟩))
            all_goals go_wp2_with fail
            all_goals go_ret
            all_goals exact ⟨by rw [HR.out]; rfl, below_then HB.out.below ((Below.refl _ _).drew.trans b2)⟩
          | true =>
            rw [hp] at KP
            have HN := Lib.hid (show ∀ j (hj : j < S.idx.length), j < k + 1 → placedB S.idx[j] S.kinds.size = true by
              intro j hj h
              rcases Nat.lt_or_ge j k with h3 | h3
              · exact HA.out j hj h3
              · obtain rfl : j = k := by omega
                rw [HZ.out]; exact hp)
            clear hp
            go_wp2_with fail
            go_region_with (first | (go_at_call 48; refine (KP.out _ (by exact hi)).mono ?_; rintro e w2 ⟨rfl, b2⟩))
            all_goals go_wp2_with fail
            all_goals exact ⟨⟨k + 1, by omega, by simp, HN.out, HB.out.later ((Below.refl _ _).drew.trans b2)⟩, by simp [intOf]; omega⟩
        · obtain rfl : k = S.idx.length := by omega
          have HR := Lib.hid (chkE_yes (HY.out (fun j hj => HA.out j hj hj)))
          have q1 : ¬ (S.idx.length : Int) < (S.idx.length : Int) := by omega
          go_wp2_with fail
          go_ret
          exact ⟨by rw [HR.out]; rfl, HB.out.below⟩
end Go.Proofs.Ytialjglgkfcdmaa.Or
