/- Package codec, quittanceref15: Begin, Whole. -/
import Derived.Test.YtialjglgkfcdmaaCoRPlace
namespace Go.Proofs.Ytialjglgkfcdmaa.Or
open Go.RowKit Cm
def beginF (S : Sch) (n : Int) (L : List Fd) : List UInt8 × Int := if thereB S n = true then putF (lettersF S n) L else ([], 2)
theorem begin_no {S : Sch} {n : Int} {L : List Fd} (h : thereB S n = false) : beginF S n L = ([], 2) := by unfold beginF; rw [if_neg (by rw [h]; simp)]
theorem begin_yes {S : Sch} {n : Int} {L : List Fd} (h : thereB S n = true) : beginF S n L = putF (lettersF S n) L := by unfold beginF; rw [if_pos h]
def BeginRes (S : Sch) (n : Int) (L : List Fd) (w : World) (e : Ending) (w' : World) : Prop :=
  e = .returned (.tuple #[.string ⟨(beginF S n L).1.toArray⟩, .int .i64 (beginF S n L).2]) ∧ Below w.heap.size w w'
set_option maxRecDepth 100000 in
set_option maxHeartbeats 1600000 in
theorem begin_c (S : Sch) (n : Int) (w : World) (a : Option Addr) (cap : Nat) (ag : Option Addr) (cg : Nat) (L : List Fd) (hM : Mat w a S.idx) (hr : Fds w ag L) (hf : Fine L) (hl : L.length ≤ 40) (hS : SmallS S) :
    Calls Try.prog 24 #[S.val a cap, .int .i64 n, .slice ag L.length cg] w (BeginRes S n L w) := by
  have SB := Lib.hid (sb_new w S a cap hM 40)
  have KL := Lib.hid (fun w h => letters_c S n w a cap h hS)
  have HR := Lib.hid hr
  have HS := Lib.hid hS
  unfold Sch.val at KL
  unfold Sch.val
  clear hM hr
  obtain ⟨y0, y1, y2, y3, -, -, -⟩ := SB.out
  cases ht : thereB S n with
  | false =>
    have HX := Lib.hid (begin_no (L := L) ht)
    have HT := Lib.hid ht
    clear ht
    go_enter Try.func24, Try.ntmps24
    go_wp2_with fail
    refine (KL.out _ SB.out.mat).mono ?_
    rintro e w1 ⟨h1, -, b1⟩
    obtain rfl := h1 HT.out
    have S1 := Lib.hid (SB.out.later b1)
    clear b1 h1
    go_wp2_with fail
    go_ret2
    exact ⟨by rw [HX.out]; rfl, S1.out.below⟩
  | true =>
    have HX := Lib.hid (begin_yes (L := L) ht)
    have HT := Lib.hid ht
    have HPLN := Lib.hid (places_len ht hS)
    obtain ⟨⟨X, z⟩, hp⟩ : ∃ r, putF (lettersF S n) L = r := ⟨_, rfl⟩
    have KQ := Lib.hid (fun w h => put_as (s := ⟨(lettersF S n).toArray⟩) w ag cg L rfl rfl h hf (by show (lettersF S n).length ≤ 1000; unfold lettersF pickL; rw [List.length_map]; have := HPLN.out; omega) (by omega) hp)
    rw [hp] at HX
    clear ht hp
    go_enter Try.func24, Try.ntmps24
    go_wp2_with fail
    refine (KL.out _ SB.out.mat).mono ?_
    rintro e w1 ⟨-, h1, b1⟩
    obtain rfl := h1 HT.out
    have S1 := Lib.hid (SB.out.later b1)
    have R1 := Lib.hid (HR.out.later (below_then SB.out.below b1))
    clear b1 h1
    go_wp2_with fail
    refine (KQ.out _ R1.out).mono ?_
    rintro e w2 ⟨rfl, b2⟩
    have S2 := Lib.hid (S1.out.later b2)
    clear b2
    go_wp2_with fail
    go_ret2
    exact ⟨by rw [HX.out]; rfl, S2.out.below⟩
set_option maxRecDepth 100000 in
set_option maxHeartbeats 1600000 in
theorem rbegin_c (S : Sch) (n : Int) (w : World) (a : Option Addr) (cap : Nat) (ag : Option Addr) (cg : Nat) (L : List Fd) (hM : Mat w a S.idx) (hr : Fds w ag L) (hf : Fine L) (hl : L.length ≤ 40) (hS : SmallS S) :
    Calls Try.prog 25 #[S.val a cap, .int .i64 n, .slice ag L.length cg] w (BeginRes S n L w) := by
  have SB := Lib.hid (sb_new w S a cap hM 40)
  have KL := Lib.hid (fun w h => rletters_c S n w a cap h hS)
  have HR := Lib.hid hr
  have HS := Lib.hid hS
  unfold Sch.val at KL
  unfold Sch.val
  clear hM hr
  obtain ⟨y0, y1, y2, y3, -, -, -⟩ := SB.out
  cases ht : thereB S n with
  | false =>
    have HX := Lib.hid (begin_no (L := L) ht)
    have HT := Lib.hid ht
    clear ht
    go_enter Try.func25, Try.ntmps25
    go_wp2_with fail
    refine (KL.out _ SB.out.mat).mono ?_
    rintro e w1 ⟨h1, -, b1⟩
    obtain rfl := h1 HT.out
    have S1 := Lib.hid (SB.out.later b1)
    clear b1 h1
    go_wp2_with fail
    go_ret2
    exact ⟨by rw [HX.out]; rfl, S1.out.below⟩
  | true =>
    have HX := Lib.hid (begin_yes (L := L) ht)
    have HT := Lib.hid ht
    have HPLN := Lib.hid (places_len ht hS)
    obtain ⟨⟨X, z⟩, hp⟩ : ∃ r, putF (lettersF S n) L = r := ⟨_, rfl⟩
    have KQ := Lib.hid (fun w h => rput_as (s := ⟨(lettersF S n).toArray⟩) w ag cg L rfl rfl h hf (by show (lettersF S n).length ≤ 1000; unfold lettersF pickL; rw [List.length_map]; have := HPLN.out; omega) (by omega) hp)
    rw [hp] at HX
    clear ht hp
    go_enter Try.func25, Try.ntmps25
    go_wp2_with fail
    refine (KL.out _ SB.out.mat).mono ?_
    rintro e w1 ⟨-, h1, b1⟩
    obtain rfl := h1 HT.out
    have S1 := Lib.hid (SB.out.later b1)
    have R1 := Lib.hid (HR.out.later (below_then SB.out.below b1))
    clear b1 h1
    go_wp2_with fail
    refine (KQ.out _ R1.out).mono ?_
    rintro e w2 ⟨rfl, b2⟩
    have S2 := Lib.hid (S1.out.later b2)
    clear b2
    go_wp2_with fail
    go_ret2
    exact ⟨by rw [HX.out]; rfl, S2.out.below⟩
def firstE : List Int → Int
  | [] => 0
  | e :: t => if e ≠ 0 then e else firstE t
def errAt (S : Sch) (L : List Fd) (i : Nat) : Int := (placeF S ((i : Int) - 1) L).2
def wholeF (S : Sch) (L : List Fd) : Int := if chkB S = true then firstE ((cput S.kinds.data.toList L).2 :: (List.range (S.idx.length + 1)).map (errAt S L)) else 2
theorem first_zero : ∀ (l : List Int), (∀ x ∈ l, x = 0) → firstE l = 0
  | [], _ => rfl
  | e :: t, h => by rw [firstE, if_neg (by simp [h e (by simp)])]; exact first_zero t fun x hx => h x (by simp [hx])
theorem first_at : ∀ (l : List Int) (k : Nat) (h : k < l.length), (∀ j (hj : j < l.length), j < k → l[j] = 0) → l[k] ≠ 0 → firstE l = l[k]
  | e :: t, 0, _, _, hne => by rw [firstE, if_pos (by simpa using hne)]; rfl
  | e :: t, k + 1, h, h0, hne => by
    rw [firstE, if_neg (by simp [show e = 0 from h0 0 (by simp) (by omega)])]
    exact first_at t k (by simpa using h) (fun j hj hjk => h0 (j + 1) (by simpa using hj) (by omega)) hne
theorem whole_no {S : Sch} {L : List Fd} (h : chkB S = false) : wholeF S L = 2 := by unfold wholeF; rw [if_neg (by rw [h]; simp)]
theorem whole_put {S : Sch} {L : List Fd} (h : chkB S = true) (h2 : (cput S.kinds.data.toList L).2 ≠ 0) : wholeF S L = (cput S.kinds.data.toList L).2 := by unfold wholeF; rw [if_pos h, firstE, if_pos h2]
theorem whole_at {S : Sch} {L : List Fd} {k : Nat} (h : chkB S = true) (h2 : (cput S.kinds.data.toList L).2 = 0) (hk : k < S.idx.length + 1) (h0 : ∀ j, j < k → errAt S L j = 0) (hne : errAt S L k ≠ 0) : wholeF S L = errAt S L k := by
  unfold wholeF
  rw [if_pos h, firstE, if_neg (by simp [h2])]
  have := first_at ((List.range (S.idx.length + 1)).map (errAt S L)) k (by simpa using hk) (fun j hj hjk => by simpa using h0 j hjk) (by simpa using hne)
  simpa using this
theorem whole_end {S : Sch} {L : List Fd} (h : chkB S = true) (h2 : (cput S.kinds.data.toList L).2 = 0) (h0 : ∀ j, j < S.idx.length + 1 → errAt S L j = 0) : wholeF S L = 0 := by
  unfold wholeF
  rw [if_pos h, firstE, if_neg (by simp [h2])]
  refine first_zero _ fun x hx => ?_
  obtain ⟨i, hi, rfl⟩ := List.mem_map.1 hx
  exact h0 i (List.mem_range.1 hi)
set_option maxRecDepth 100000 in
set_option maxHeartbeats 3200000 in
theorem whole_c (S : Sch) (w : World) (a : Option Addr) (cap : Nat) (ag : Option Addr) (cg : Nat) (L : List Fd) (hM : Mat w a S.idx) (hr : Fds w ag L) (hcg : L.length ≤ cg) (hf : Fine L) (hl : L.length ≤ 40) (hS : SmallS S) :
    Calls Try.prog 26 #[S.val a cap, .slice ag L.length cg] w fun e w' => e = .returned (.int .i64 (wholeF S L)) ∧ Below w.heap.size w w' := by
  have SB := Lib.hid (sb_new w S a cap hM 40)
  have KC := Lib.hid (fun w h => check_c S w a cap h hS)
  have KP := Lib.hid (fun w h => codput_c S.kinds w ag cg L h hf (by have := hS.kinds; omega) (by omega))
  have KPL := Lib.hid (fun n w h h2 => place_c S n w a cap ag cg L h h2 hcg hf hl hS)
  have HR := Lib.hid hr
  have hi12 := hS.idx
  unfold Sch.val at KC KPL
  unfold Sch.val
  unfold CPutRes at KP
  unfold PlaceRes at KPL
  clear hM hr hS
  obtain ⟨y0, y1, y2, y3, -, -, -⟩ := SB.out
  cases hc : chkB S with
  | false =>
    have HX := Lib.hid (whole_no (L := L) hc)
    rw [chkE_no hc] at KC
    clear hc
    go_enter Try.func26, Try.ntmps26
    go_wp2_with fail
    refine (KC.out _ SB.out.mat).mono ?_
    rintro e w1 ⟨rfl, b1⟩
    have S1 := Lib.hid (SB.out.later b1)
    have R1 := Lib.hid (HR.out.later (below_then SB.out.below b1))
    clear b1 y0 y1 y2 y3
    obtain ⟨y0, y1, y2, y3, -, -, -⟩ := S1.out
    go_wp2_with fail
    go_ret
    exact ⟨by rw [HX.out]; rfl, S1.out.below⟩
  | true =>
  rw [chkE_yes hc] at KC
  obtain ⟨⟨X, z⟩, hp⟩ : ∃ r, cput S.kinds.data.toList L = r := ⟨_, rfl⟩
  rw [hp] at KP
  by_cases hz : z = 0
  case neg =>
    have HX := Lib.hid (whole_put hc (by rw [hp]; exact hz))
    rw [hp] at HX
    have d1 : (z != 0) = true := bne_iff_ne.2 hz
    have d2 : (z == 0) = false := beq_eq_false_iff_ne.2 hz
    clear hc hp hz
    go_enter Try.func26, Try.ntmps26
    go_wp2_with fail
    refine (KC.out _ SB.out.mat).mono ?_
    rintro e w1 ⟨rfl, b1⟩
    have S1 := Lib.hid (SB.out.later b1)
    have R1 := Lib.hid (HR.out.later (below_then SB.out.below b1))
    clear b1 y0 y1 y2 y3
    obtain ⟨y0, y1, y2, y3, -, -, -⟩ := S1.out
    go_wp2_with fail
    refine (KP.out _ R1.out).mono ?_
    rintro e w2 ⟨rfl, b2⟩
    have S2 := Lib.hid (S1.out.later b2)
    have R2 := Lib.hid (R1.out.later b2)
    clear b2 y0 y1 y2 y3
    obtain ⟨y0, y1, y2, y3, -, -, -⟩ := S2.out
    go_wp2_with fail
    go_ret
    exact ⟨by rw [HX.out]; rfl, S2.out.below⟩
  subst hz
  have HWA := Lib.hid (fun k hk h0 hne => whole_at (k := k) hc (by rw [hp]) hk h0 hne)
  have HWE := Lib.hid (fun h0 => whole_end hc (by rw [hp]) h0)
  clear hc hp
  go_enter Try.func26, Try.ntmps26
  go_wp2_with fail
  refine (KC.out _ SB.out.mat).mono ?_
  rintro e w1 ⟨rfl, b1⟩
  have S1 := Lib.hid (SB.out.later b1)
  have R1 := Lib.hid (HR.out.later (below_then SB.out.below b1))
  clear b1 y0 y1 y2 y3
  obtain ⟨y0, y1, y2, y3, -, -, -⟩ := S1.out
  go_wp2_with fail
  refine (KP.out _ R1.out).mono ?_
  rintro e w2 ⟨rfl, b2⟩
  have S2 := Lib.hid (S1.out.later b2)
  have R2 := Lib.hid (R1.out.later b2)
  clear b2 y0 y1 y2 y3
  obtain ⟨y0, y1, y2, y3, -, -, -⟩ := S2.out
  go_wp2_with fail
  go_loopw [7, 8, 9] (fun i _ _ wr => ∃ k : Nat, k ≤ S.idx.length + 1 ∧ i = .int .i64 ((k : Int) - 1) ∧ (∀ j, j < k → errAt S L j = 0) ∧ Sb w.heap.size S a cap w wr ∧ Fds wr ag L) (fun i _ _ _ => S.idx.length + 1 - (intOf i + 1).toNat)
  case atStart => exact ⟨0, by omega, rfl, fun j h => by omega, S2.out, R2.out⟩
  case round =>
    obtain ⟨k, hk, rfl, h0, hB, hR⟩ := hrel
    have H0 := Lib.hid h0
    have HB := Lib.hid hB
    have HRR := Lib.hid hR
    clear h0 hR y0 y1 y2 y3
    obtain ⟨y0, y1, y2, y3, -, -, -⟩ := hB
    by_cases hlt : k < S.idx.length + 1
    · have q1 : (k : Int) - 1 < (S.idx.length : Int) := by omega
      obtain ⟨⟨Y, z2⟩, hp2⟩ : ∃ r, placeF S ((k : Int) - 1) L = r := ⟨_, rfl⟩
      have HE := Lib.hid (show errAt S L k = z2 by unfold errAt; rw [hp2])
      have KQ := Lib.hid (KPL.out ((k : Int) - 1))
      rw [hp2] at KQ
      by_cases hz : z2 = 0
      · subst hz
        clear hp2
        go_wp2_with fail
        refine (KQ.out _ HB.out.mat HRR.out).mono ?_
        rintro e w3 ⟨rfl, b3⟩
        have S3 := Lib.hid (HB.out.later b3)
        have R3 := Lib.hid (HRR.out.later b3)
        clear b3
        go_wp2_with fail
        exact ⟨⟨k + 1, by omega, by simp, fun j hj => by
          rcases Nat.lt_or_ge j k with h | h
          · exact H0.out j h
          · obtain rfl : j = k := by omega
            exact HE.out, S3.out, R3.out⟩, by simp [intOf]; omega⟩
      · have HX := Lib.hid (HWA.out k hlt H0.out (by rw [HE.out]; exact hz))
        rw [HE.out] at HX
        have d1 : (z2 != 0) = true := bne_iff_ne.2 hz
        clear hp2 hz
        go_wp2_with fail
        refine (KQ.out _ HB.out.mat HRR.out).mono ?_
        rintro e w3 ⟨rfl, b3⟩
        have S3 := Lib.hid (HB.out.later b3)
        clear b3
        go_wp2_with fail
        go_ret
        exact ⟨by rw [HX.out]; rfl, S3.out.below⟩
    · obtain rfl : k = S.idx.length + 1 := by omega
      have HX := Lib.hid (HWE.out (fun j hj => H0.out j hj))
      have q1 : ¬ (((S.idx.length + 1 : Nat) : Int)) - 1 < (S.idx.length : Int) := by omega
      go_wp2_with fail
      go_ret
      exact ⟨by rw [HX.out]; rfl, HB.out.below⟩
set_option maxRecDepth 100000 in
set_option maxHeartbeats 3200000 in
theorem rwhole_c (S : Sch) (w : World) (a : Option Addr) (cap : Nat) (ag : Option Addr) (cg : Nat) (L : List Fd) (hM : Mat w a S.idx) (hr : Fds w ag L) (hf : Fine L) (hl : L.length ≤ 40) (hS : SmallS S) :
    Calls Try.prog 27 #[S.val a cap, .slice ag L.length cg] w fun e w' => e = .returned (.int .i64 (wholeF S L)) ∧ Below w.heap.size w w' := by
  have SB := Lib.hid (sb_new w S a cap hM 40)
  have KC := Lib.hid (fun w h => rcheck_c S w a cap h hS)
  have KP := Lib.hid (fun w h => rcodput_c S.kinds w ag cg L h hf (by have := hS.kinds; omega) (by omega))
  have KPL := Lib.hid (fun n w h h2 => rplace_c S n w a cap ag cg L h h2 hf hl hS)
  have HR := Lib.hid hr
  have hi12 := hS.idx
  unfold Sch.val at KC KPL
  unfold Sch.val
  unfold CPutRes at KP
  unfold PlaceRes at KPL
  clear hM hr hS
  obtain ⟨y0, y1, y2, y3, -, -, -⟩ := SB.out
  cases hc : chkB S with
  | false =>
    have HX := Lib.hid (whole_no (L := L) hc)
    rw [chkE_no hc] at KC
    clear hc
    go_enter Try.func27, Try.ntmps27
    go_wp2_with fail
    refine (KC.out _ SB.out.mat).mono ?_
    rintro e w1 ⟨rfl, b1⟩
    have S1 := Lib.hid (SB.out.later b1)
    have R1 := Lib.hid (HR.out.later (below_then SB.out.below b1))
    clear b1 y0 y1 y2 y3
    obtain ⟨y0, y1, y2, y3, -, -, -⟩ := S1.out
    go_wp2_with fail
    go_ret
    exact ⟨by rw [HX.out]; rfl, S1.out.below⟩
  | true =>
  rw [chkE_yes hc] at KC
  obtain ⟨⟨X, z⟩, hp⟩ : ∃ r, cput S.kinds.data.toList L = r := ⟨_, rfl⟩
  rw [hp] at KP
  by_cases hz : z = 0
  case neg =>
    have HX := Lib.hid (whole_put hc (by rw [hp]; exact hz))
    rw [hp] at HX
    have d1 : (z != 0) = true := bne_iff_ne.2 hz
    have d2 : (z == 0) = false := beq_eq_false_iff_ne.2 hz
    clear hc hp hz
    go_enter Try.func27, Try.ntmps27
    go_wp2_with fail
    refine (KC.out _ SB.out.mat).mono ?_
    rintro e w1 ⟨rfl, b1⟩
    have S1 := Lib.hid (SB.out.later b1)
    have R1 := Lib.hid (HR.out.later (below_then SB.out.below b1))
    clear b1 y0 y1 y2 y3
    obtain ⟨y0, y1, y2, y3, -, -, -⟩ := S1.out
    go_wp2_with fail
    refine (KP.out _ R1.out).mono ?_
    rintro e w2 ⟨rfl, b2⟩
    have S2 := Lib.hid (S1.out.later b2)
    have R2 := Lib.hid (R1.out.later b2)
    clear b2 y0 y1 y2 y3
    obtain ⟨y0, y1, y2, y3, -, -, -⟩ := S2.out
    go_wp2_with fail
    have q1 : (-1 : Int) < (S.idx.length : Int) := by omega
    go_loopw [6, 7] (fun s6 i wr => s6 = .int .i64 z ∧ i = .int .i64 (-1) ∧ Sb w.heap.size S a cap w wr) (fun _ i _ => (intOf i + 2).toNat)
    case atStart => exact ⟨rfl, rfl, S2.out⟩
    case round =>
      obtain ⟨rfl, rfl, hB⟩ := hrel
      have HB := Lib.hid hB
      clear y0 y1 y2 y3
      obtain ⟨y0, y1, y2, y3, -, -, -⟩ := hB
      go_wp2_with fail
      go_ret
      exact ⟨by rw [HX.out]; rfl, HB.out.below⟩
  subst hz
  have HWA := Lib.hid (fun k hk h0 hne => whole_at (k := k) hc (by rw [hp]) hk h0 hne)
  have HWE := Lib.hid (fun h0 => whole_end hc (by rw [hp]) h0)
  clear hc hp
  go_enter Try.func27, Try.ntmps27
  go_wp2_with fail
  refine (KC.out _ SB.out.mat).mono ?_
  rintro e w1 ⟨rfl, b1⟩
  have S1 := Lib.hid (SB.out.later b1)
  have R1 := Lib.hid (HR.out.later (below_then SB.out.below b1))
  clear b1 y0 y1 y2 y3
  obtain ⟨y0, y1, y2, y3, -, -, -⟩ := S1.out
  go_wp2_with fail
  refine (KP.out _ R1.out).mono ?_
  rintro e w2 ⟨rfl, b2⟩
  have S2 := Lib.hid (S1.out.later b2)
  have R2 := Lib.hid (R1.out.later b2)
  clear b2 y0 y1 y2 y3
  obtain ⟨y0, y1, y2, y3, -, -, -⟩ := S2.out
  go_wp2_with fail
  go_loopw [6, 7] (fun s6 i wr => ∃ (k : Nat) (z2 : Int), k ≤ S.idx.length + 1 ∧ s6 = .int .i64 z2 ∧ i = .int .i64 ((k : Int) - 1) ∧ ((z2 = 0 ∧ ∀ j, j < k → errAt S L j = 0) ∨ (z2 ≠ 0 ∧ wholeF S L = z2)) ∧ Sb w.heap.size S a cap w wr ∧ Fds wr ag L) (fun _ i _ => S.idx.length + 1 - (intOf i + 1).toNat)
  case atStart => exact ⟨0, 0, by omega, rfl, rfl, .inl ⟨rfl, fun j h => by omega⟩, S2.out, R2.out⟩
  case round =>
    obtain ⟨k, z2, hk, rfl, rfl, h0, hB, hR⟩ := hrel
    have HB := Lib.hid hB
    have HRR := Lib.hid hR
    clear hR y0 y1 y2 y3
    obtain ⟨y0, y1, y2, y3, -, -, -⟩ := hB
    rcases h0 with ⟨rfl, h0⟩ | ⟨hne, hw9⟩
    · have H0 := Lib.hid h0
      clear h0
      by_cases hlt : k < S.idx.length + 1
      · have q1 : (k : Int) - 1 < (S.idx.length : Int) := by omega
        obtain ⟨⟨Y, z2⟩, hp2⟩ : ∃ r, placeF S ((k : Int) - 1) L = r := ⟨_, rfl⟩
        have HE := Lib.hid (show errAt S L k = z2 by unfold errAt; rw [hp2])
        have KQ := Lib.hid (KPL.out ((k : Int) - 1))
        rw [hp2] at KQ
        clear hp2
        go_wp2_with fail
        refine (KQ.out _ HB.out.mat HRR.out).mono ?_
        rintro e w3 ⟨rfl, b3⟩
        have S3 := Lib.hid (HB.out.later b3)
        have R3 := Lib.hid (HRR.out.later b3)
        clear b3
        go_wp2_with fail
        refine ⟨⟨k + 1, z2, by omega, rfl, by simp, ?_, S3.out, R3.out⟩, by simp [intOf]; omega⟩
        by_cases hz : z2 = 0
        · left
          refine ⟨hz, fun j hj => ?_⟩
          rcases Nat.lt_or_ge j k with h | h
          · exact H0.out j h
          · obtain rfl : j = k := by omega
            rw [HE.out]; exact hz
        · exact .inr ⟨hz, by rw [HWA.out k hlt H0.out (by rw [HE.out]; exact hz), HE.out]⟩
      · obtain rfl : k = S.idx.length + 1 := by omega
        have HX := Lib.hid (HWE.out (fun j hj => H0.out j hj))
        have q1 : ¬ (((S.idx.length + 1 : Nat) : Int)) - 1 < (S.idx.length : Int) := by omega
        go_wp2_with fail
        go_ret
        exact ⟨by rw [HX.out]; rfl, HB.out.below⟩
    · have HX := Lib.hid hw9
      have d2 : (z2 == 0) = false := beq_eq_false_iff_ne.2 hne
      clear hne hw9
      by_cases hlt : k < S.idx.length + 1
      · have q1 : (k : Int) - 1 < (S.idx.length : Int) := by omega
        go_wp2_with fail
        go_ret
        exact ⟨by rw [HX.out]; rfl, HB.out.below⟩
      · have q1 : ¬ (k : Int) - 1 < (S.idx.length : Int) := by omega
        go_wp2_with fail
        go_ret
        exact ⟨by rw [HX.out]; rfl, HB.out.below⟩
end Go.Proofs.Ytialjglgkfcdmaa.Or
