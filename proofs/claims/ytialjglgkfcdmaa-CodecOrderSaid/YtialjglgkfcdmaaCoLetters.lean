/- Package codec: places, Letters. -/
import Derived.Test.YtialjglgkfcdmaaCoPlaces
namespace Go.Proofs.Ytialjglgkfcdmaa.Or
open Go.RowKit Cm
def PlRes (S : Sch) (n : Int) (w : World) (e : Ending) (w' : World) : Prop :=
  (thereB S n = false → e = .returned (.tuple #[.slice none 0 0, .int .i64 2])) ∧ (thereB S n = true → ∃ a2 c2, e = .returned (.tuple #[.slice a2 (placesF S n).length c2, .int .i64 0]) ∧ Ints w' a2 (placesF S n)) ∧ Below w.heap.size w w'
theorem pl_no {S : Sch} {n : Int} {w w' : World} (h : thereB S n = false) (hb : Below w.heap.size w w') : PlRes S n w (.returned (.tuple #[.slice none 0 0, .int .i64 2])) w' :=
  ⟨fun _ => rfl, fun h2 => (by rw [h] at h2; cases h2), hb⟩
theorem pl_yes {S : Sch} {n : Int} {w w' : World} {a : Option Addr} {len c : Nat} (h : thereB S n = true) (hl : len = (placesF S n).length) (hi : Ints w' a (placesF S n)) (hb : Below w.heap.size w w') : PlRes S n w (.returned (.tuple #[.slice a len c, .int .i64 0])) w' := by
  subst hl
  exact ⟨fun h2 => (by rw [h] at h2; cases h2), fun _ => ⟨a, c, rfl, hi⟩, hb⟩
theorem there_no {S : Sch} {n : Int} (h : chkB S = false ∨ n < -1 ∨ (S.idx.length : Int) ≤ n) : thereB S n = false := by
  rw [← Bool.not_eq_true]
  intro h2
  obtain ⟨h3, h4, h5⟩ := there_chk h2
  rcases h with h | h | h
  · rw [h3] at h; cases h
  · omega
  · omega
theorem there_yes {S : Sch} {n : Int} (h : chkB S = true) (h1 : ¬ n < -1) (h2 : ¬ (S.idx.length : Int) ≤ n) : thereB S n = true := by
  unfold thereB
  rw [h, decide_eq_true (by omega), decide_eq_true (by omega)]; rfl
set_option maxRecDepth 100000 in
set_option maxHeartbeats 3200000 in
theorem places_c (S : Sch) (n : Int) (w : World) (a : Option Addr) (cap : Nat) (hM : Mat w a S.idx) (hS : SmallS S) :
    Calls Try.prog 43 #[S.val a cap, .int .i64 n] w (PlRes S n w) := by
  have SB := Lib.hid (sb_new w S a cap hM 40)
  have KC := Lib.hid (fun w h => check_c S w a cap h hS)
  have HS := Lib.hid hS
  have HM := Lib.hid hM
  unfold Sch.val at KC
  unfold Sch.val
  clear hM
  obtain ⟨y0, y1, y2, y3, -, -, -⟩ := SB.out
  cases hc : chkB S with
  | false =>
    have HR := Lib.hid (there_no (n := n) (.inl hc))
    rw [chkE_no hc] at KC
    clear hc
    go_enter Try.func43, Try.ntmps43
    go_wp2_with fail
    refine (KC.out _ SB.out.mat).mono ?_
    rintro e w1 ⟨rfl, b1⟩
    have S1 := Lib.hid (SB.out.later b1)
    clear b1
    go_wp2_with fail
    go_ret2
    exact pl_no HR.out S1.out.below
  | true =>
    have HPA := Lib.hid (chk_parts hc)
    rw [chkE_yes hc] at KC
    by_cases h1 : n < -1
    · have HR := Lib.hid (there_no (S := S) (.inr (.inl h1)))
      clear hc
      go_enter Try.func43, Try.ntmps43
      go_wp2_with fail
      refine (KC.out _ SB.out.mat).mono ?_
      rintro e w1 ⟨rfl, b1⟩
      have S1 := Lib.hid (SB.out.later b1)
      clear b1
      go_wp2_with fail
      go_ret2
      exact pl_no HR.out S1.out.below
    · by_cases h2 : (S.idx.length : Int) ≤ n
      · have HR := Lib.hid (there_no (S := S) (.inr (.inr h2)))
        clear hc
        go_enter Try.func43, Try.ntmps43
        go_wp2_with fail
        refine (KC.out _ SB.out.mat).mono ?_
        rintro e w1 ⟨rfl, b1⟩
        have S1 := Lib.hid (SB.out.later b1)
        clear b1 y0 y1 y2 y3
        obtain ⟨y0, y1, y2, y3, -, -, -⟩ := S1.out
        go_wp2_with fail
        go_ret2
        exact pl_no HR.out S1.out.below
      · have HT := Lib.hid (there_yes hc h1 h2)
        by_cases h3 : n = -1
        · subst h3
          have HPL := Lib.hid (show placesF S (-1) = (List.range S.key.toNat).map fun (i : Nat) => (i : Int) from rfl)
          obtain ⟨K, hK, hk9⟩ : ∃ K : Nat, S.key = (K : Int) ∧ K ≤ 40 := by
            obtain ⟨-, -, -, h4, h5, -, -⟩ := HPA.out
            have := HS.out.kinds
            exact ⟨S.key.toNat, by omega, by omega⟩
          have HKK := Lib.hid hK
          clear hc hK
          go_enter Try.func43, Try.ntmps43
          go_wp2_with fail
          refine (KC.out _ SB.out.mat).mono ?_
          rintro e w1 ⟨rfl, b1⟩
          have S1 := Lib.hid (SB.out.later b1)
          clear b1 y0 y1 y2 y3
          obtain ⟨y0, y1, y2, y3, -, -, -⟩ := S1.out
          rw [HKK.out] at y2
          go_wp2_with fail
          go_loopw [6, 7, 31] (fun s6 _ i wr => ∃ k : Nat, k ≤ K ∧ i = .int .i64 k ∧ OwnI w.heap.size wr s6 ((List.range k).map fun (i : Nat) => (i : Int)) ∧ Below w.heap.size w wr) (fun _ _ i _ => K - (intOf i).toNat)
          case atStart => exact ⟨0, by omega, rfl, OwnI.nil _ _, S1.out.below⟩
          case round =>
            obtain ⟨k, hk, rfl, hO, hB⟩ := hrel
            have HO := Lib.hid hO
            have HB := Lib.hid hB
            clear hO hB
            by_cases hlt : k < K
            · have q1 : (k : Int) < (K : Int) := by omega
              have HO2 := Lib.hid (OwnI.later HO.out ((Below.refl _ wr).alloc (Nat.le_refl _) (.cells #[.int .i64 (k : Int)] 3)))
              have hcl : (wr.alloc (.cells #[.int .i64 (k : Int)] 3)).cell? ⟨wr.heap.size, 0, none⟩ = some (.int .i64 (k : Int)) := by rw [World.cell?_alloc_at _ _ _ _ rfl]; rfl
              have HCL := Lib.hid hcl
              have hbr : w.heap.size ≤ wr.heap.size := HB.out.size
              have HE := Lib.hid (show (List.range (k + 1)).map (fun (i : Nat) => (i : Int)) = (List.range k).map (fun (i : Nat) => (i : Int)) ++ [(k : Int)] by rw [List.range_succ, List.map_append]; rfl)
              clear hcl
              go_wp2_with (at_builtin; refine app_ints rfl _ _ rfl w.heap.size _ _ (k : Int) rfl wr.heap.size 1 rfl HO2.out HCL.out (by simp; omega) (by simp; omega) ?_)
              intro v8 w8 h8 b8
              have H8 := Lib.hid h8
              have B8 := Lib.hid (below_under (HB.out.alloc hbr _) b8)
              clear h8 b8
              go_wp2_with fail
              exact ⟨⟨k + 1, by omega, by simp, by rw [HE.out]; exact H8.out, B8.out⟩, by simp [intOf]; omega⟩
            · obtain rfl : k = K := by omega
              obtain ⟨a', cap', rfl, hi⟩ := HO.out.ints
              have H9 := Lib.hid hi
              have q1 : ¬ (k : Int) < (k : Int) := by omega
              clear hi HO
              go_wp2_with fail
              go_ret2
              exact pl_yes HT.out (by rw [HPL.out, HKK.out]; simp) (by rw [HPL.out, HKK.out]; exact H9.out) HB.out
        · obtain ⟨k, rfl⟩ : ∃ k : Nat, n = (k : Int) := ⟨n.toNat, by omega⟩
          have hk : k < S.idx.length := by omega
          have HPL := Lib.hid (show placesF S (k : Int) = S.idx[k] by unfold placesF; rw [if_neg (by omega)]; simp [hk])
          clear hc
          go_enter Try.func43, Try.ntmps43
          go_wp2_with fail
          refine (KC.out _ SB.out.mat).mono ?_
          rintro e w1 ⟨rfl, b1⟩
          have S1 := Lib.hid (SB.out.later b1)
          clear b1 y0 y1 y2 y3
          obtain ⟨y0, y1, y2, y3, -, -, -⟩ := S1.out
          obtain ⟨b, off, aj, cj, rfl, hb, c, hcj, hi⟩ := S1.out.mat k hk
          have HI := Lib.hid hi
          have q0 : (0 : Int) ≤ (k : Int) := by omega
          have q1 : (k : Int) < (S.idx.length : Int) := by omega
          have q5 : ((k : Int) != -1) = true := by rw [bne_iff_ne]; omega
          clear hi
          go_wp2_with fail
          go_ret2
          exact pl_yes HT.out (by rw [HPL.out]) (by rw [HPL.out]; exact HI.out) S1.out.below
def lettersF (S : Sch) (n : Int) : List UInt8 := pickL 0 S.kinds.data.toList (placesF S n)
def LtRes (S : Sch) (n : Int) (w : World) (e : Ending) (w' : World) : Prop :=
  (thereB S n = false → e = .returned (.tuple #[.string ⟨#[]⟩, .int .i64 2])) ∧ (thereB S n = true → e = .returned (.tuple #[.string ⟨(lettersF S n).toArray⟩, .int .i64 0])) ∧ Below w.heap.size w w'
theorem lt_no {S : Sch} {n : Int} {w w' : World} (h : thereB S n = false) (hb : Below w.heap.size w w') : LtRes S n w (.returned (.tuple #[.string ⟨#[]⟩, .int .i64 2])) w' :=
  ⟨fun _ => rfl, fun h2 => (by rw [h] at h2; cases h2), hb⟩
theorem lt_yes {S : Sch} {n : Int} {w w' : World} (h : thereB S n = true) (hb : Below w.heap.size w w') : LtRes S n w (.returned (.tuple #[.string ⟨(lettersF S n).toArray⟩, .int .i64 0])) w' :=
  ⟨fun h2 => (by rw [h] at h2; cases h2), fun _ => rfl, hb⟩
set_option maxRecDepth 100000 in
set_option maxHeartbeats 3200000 in
theorem letters_c (S : Sch) (n : Int) (w : World) (a : Option Addr) (cap : Nat) (hM : Mat w a S.idx) (hS : SmallS S) :
    Calls Try.prog 17 #[S.val a cap, .int .i64 n] w (LtRes S n w) := by
  have SB := Lib.hid (sb_new w S a cap hM 40)
  have KP := Lib.hid (fun w h => places_c S n w a cap h hS)
  have HS := Lib.hid hS
  have HM := Lib.hid hM
  unfold Sch.val at KP
  unfold Sch.val
  clear hM
  obtain ⟨y0, y1, y2, y3, -, -, -⟩ := SB.out
  go_enter Try.func17, Try.ntmps17
  go_wp2_with fail
  refine (KP.out _ SB.out.mat).mono ?_
  rintro e w1 ⟨h1, h2, b1⟩
  have S1 := Lib.hid (SB.out.later b1)
  clear b1 y0 y1 y2 y3
  cases ht : thereB S n with
  | false =>
    obtain rfl := h1 ht
    have HT := Lib.hid ht
    clear h1 h2 ht
    go_wp2_with fail
    go_ret2
    exact lt_no HT.out S1.out.below
  | true =>
    obtain ⟨a2, c2, rfl, hi⟩ := h2 ht
    have HT := Lib.hid ht
    obtain ⟨y0, y1, y2, y3, -, -, -⟩ := S1.out
    obtain ⟨cv, w2, hcv, hrow, hbw⟩ := bytes_conv w1 S.kinds
    have HI2 := hi.later hbw
    have KB := Lib.hid (pickb_c w2 w1.heap.size cv S.kinds.data.toList a2 c2 (placesF S n) hrow hrow.lt HI2 (by have := places_in ht; simpa using this) (by have := places_len ht HS.out; omega))
    rw [show S.kinds.data.toList.length = S.kinds.size by simp] at KB
    have B2 := Lib.hid (below_then S1.out.below hbw)
    clear h1 h2 ht hi HI2 hrow hbw
    go_wp2_with fail
    refine KB.out.mono ?_
    rintro e w3 ⟨v3, rfl, ho, b3⟩
    have hst := ho.str
    have B3 := Lib.hid (below_then B2.out b3)
    clear b3 ho
    go_wp2_with fail
    go_ret2
    exact lt_yes HT.out B3.out
end Go.Proofs.Ytialjglgkfcdmaa.Or
