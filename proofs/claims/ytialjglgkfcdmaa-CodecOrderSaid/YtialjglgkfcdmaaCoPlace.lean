/- Package codec: Place. -/
import Derived.Test.YtialjglgkfcdmaaCoRLetters
import Derived.Test.YtialjglgkfcdmaaCoRGet
import Derived.Test.YtialjglgkfcdmaaOcRPut
namespace Go.Proofs.Ytialjglgkfcdmaa.Or
open Go.RowKit Cm
def d0 : Fd := ⟨0, 0, ⟨#[]⟩⟩
def keyF (S : Sch) (L : List Fd) : List UInt8 × Int := putF (lettersF S (-1)) (pickL d0 L (placesF S (-1)))
def ownF (S : Sch) (n : Int) (L : List Fd) : List UInt8 × Int := putF (lettersF S n) (pickL d0 L (placesF S n))
def isRec (S : Sch) (L : List Fd) : Prop := L.length = S.kinds.data.toList.length ∧ fitB S.kinds.data.toList L = true
instance (S : Sch) (L : List Fd) : Decidable (isRec S L) := by unfold isRec; exact inferInstance
def placeF (S : Sch) (n : Int) (L : List Fd) : List UInt8 × Int :=
  if thereB S n = true then if isRec S L then (if (keyF S L).2 ≠ 0 ∨ n < 0 then keyF S L else if (ownF S n L).2 ≠ 0 then ([], (ownF S n L).2) else ((ownF S n L).1 ++ (keyF S L).1, 0)) else ([], 5) else ([], 2)
theorem place_no {S : Sch} {n : Int} {L : List Fd} (h : thereB S n = false) : placeF S n L = ([], 2) := by unfold placeF; rw [if_neg (by rw [h]; simp)]
theorem place_unfit {S : Sch} {n : Int} {L : List Fd} (h : thereB S n = true) (h2 : ¬ isRec S L) : placeF S n L = ([], 5) := by unfold placeF; rw [if_pos h, if_neg h2]
theorem place_key {S : Sch} {n : Int} {L : List Fd} (h : thereB S n = true) (h2 : isRec S L) (h3 : (keyF S L).2 ≠ 0 ∨ n < 0) : placeF S n L = keyF S L := by unfold placeF; rw [if_pos h, if_pos h2, if_pos h3]
theorem place_err {S : Sch} {n : Int} {L : List Fd} (h : thereB S n = true) (h2 : isRec S L) (h3 : (keyF S L).2 = 0) (h4 : ¬ n < 0) (h5 : (ownF S n L).2 ≠ 0) : placeF S n L = ([], (ownF S n L).2) := by unfold placeF; rw [if_pos h, if_pos h2, if_neg (by rintro (h | h) <;> omega), if_pos h5]
theorem place_ok {S : Sch} {n : Int} {L : List Fd} (h : thereB S n = true) (h2 : isRec S L) (h3 : (keyF S L).2 = 0) (h4 : ¬ n < 0) (h5 : (ownF S n L).2 = 0) : placeF S n L = ((ownF S n L).1 ++ (keyF S L).1, 0) := by unfold placeF; rw [if_pos h, if_pos h2, if_neg (by rintro (h | h) <;> omega), if_neg (by simp [h5])]
theorem pick_range {α : Type} (d : α) (l : List α) (m : Nat) (h : m ≤ l.length) : pickL d l ((List.range m).map fun (i : Nat) => (i : Int)) = l.take m := by
  unfold pickL
  rw [List.map_map]
  refine List.ext_getElem (by simp; omega) fun j h1 h2 => ?_
  simp at h1 h2 ⊢
  have : j < l.length := by omega
  simp [this]
theorem encAll_take : ∀ (K : List UInt8) (L : List Fd) (m : Nat), L.length ≤ m → encAll (K.take m) L = encAll K L
  | [], L, m, _ => by simp
  | _ :: _, [], m, _ => by rw [encAll_nil, encAll_nil]
  | c :: K, f :: L, m + 1, h => by
    rw [List.take_succ_cons, encAll, encAll, encAll_take K L m (by simpa using h)]
  | _ :: _, _ :: _, 0, h => by simp at h
theorem kinds_take {K : List UInt8} (h : kindsB K = true) (m : Nat) : kindsB (K.take m) = true := by
  unfold kindsB at h ⊢
  simp only [Bool.and_eq_true, decide_eq_true_eq, List.all_eq_true] at h ⊢
  refine ⟨by rw [List.length_take]; omega, fun x hx => h.2 x (List.mem_of_mem_take hx)⟩
theorem fit_take {K : List UInt8} {L : List Fd} (h : fitB K L = true) (m : Nat) : fitB K (L.take m) = true := by
  obtain ⟨hk, hl⟩ := fit_len h
  refine fit_yes hk (by rw [List.length_take]; omega) fun j hj => ?_
  have hj' : j < L.length := by rw [List.length_take] at hj; omega
  have := fit_at h j hj' (by omega)
  simpa using this
theorem fit_takes {K : List UInt8} {L : List Fd} (h : fitB K L = true) (m : Nat) : fitB (K.take m) (L.take m) = true := by
  obtain ⟨hk, hl⟩ := fit_len h
  refine fit_yes (kinds_take hk m) (by rw [List.length_take, List.length_take]; omega) fun j hj => ?_
  have hj' : j < L.length := by rw [List.length_take] at hj; omega
  have := fit_at h j hj' (by omega)
  simpa using this
theorem put_fit {K : List UInt8} {L : List Fd} (hk : kindsB K = true) (h : fitB K L = true) : putF K L = if 1024 < (encAll K L).length then ([], 3) else (encAll K L, 0) := by
  unfold putF; rw [if_pos hk, if_pos h]
theorem there_key {S : Sch} {n : Int} (h : thereB S n = true) : thereB S (-1) = true := by
  obtain ⟨hc, h1, h2⟩ := there_chk h
  exact there_yes hc (by omega) (by omega)
theorem key_eq {S : Sch} {L : List Fd} {n : Int} (h : thereB S n = true) (hr : isRec S L) : keyF S L = putF S.kinds.data.toList (L.take S.key.toNat) := by
  obtain ⟨hc, -, -⟩ := there_chk h
  obtain ⟨-, -, hk, h4, h5, -, -⟩ := chk_parts hc
  have e0 : placesF S (-1) = (List.range S.key.toNat).map fun (i : Nat) => (i : Int) := rfl
  have hsz : S.kinds.data.toList.length = S.kinds.size := by simp
  unfold keyF lettersF
  rw [e0, pick_range 0 _ _ (by omega), pick_range d0 _ _ (by have := hr.1; omega)]
  rw [put_fit (kinds_take hk _) (fit_takes hr.2 _), put_fit hk (fit_take hr.2 _), encAll_take _ _ _ (by rw [List.length_take]; omega)]
theorem pick_mem {L : List Fd} {zs : List Int} (hz : ∀ z ∈ zs, 0 ≤ z ∧ z < (L.length : Int)) : ∀ f ∈ pickL d0 L zs, f ∈ L := by
  intro f hf
  obtain ⟨z, hzm, rfl⟩ := List.mem_map.1 hf
  have := hz z hzm
  have h : z.toNat < L.length := by omega
  simp only [List.getD_eq_getElem?_getD, h, List.getElem?_eq_getElem, Option.getD_some]
  exact List.getElem_mem h
theorem fine_take {L : List Fd} (h : Fine L) (m : Nat) : Fine (L.take m) := fun f hf => h f (List.mem_of_mem_take hf)
theorem put_zero_len {K : List UInt8} {L : List Fd} {X : List UInt8} (h : putF K L = (X, 0)) : X.length ≤ 1024 := by
  unfold putF at h
  split at h
  · split at h
    · split at h
      · simp at h
      · obtain ⟨rfl, -⟩ := Prod.mk.inj h
        omega
    · simp at h
  · simp at h
def PlaceRes (S : Sch) (n : Int) (L : List Fd) (w : World) (e : Ending) (w' : World) : Prop :=
  e = .returned (.tuple #[.string ⟨(placeF S n L).1.toArray⟩, .int .i64 (placeF S n L).2]) ∧ Below w.heap.size w w'
theorem Fds.tk {w : World} {a : Option Addr} {L : List Fd} (h : Fds w a L) (n : Nat) : Fds w a (L.take n) := by
  intro j hj
  have hj' : j < L.length := by rw [List.length_take] at hj; omega
  obtain ⟨b, off, ha, hlt, c1, c2, c3⟩ := h j hj'
  exact ⟨b, off, ha, hlt, by rw [List.getElem_take]; exact c1, by rw [List.getElem_take]; exact c2, by rw [List.getElem_take]; exact c3⟩
theorem put_as {s : ByteArray} {K : List UInt8} (w : World) (a : Option Addr) (cap : Nat) (L : List Fd) {n : Nat} {X : List UInt8} {z : Int} (hK : s.data.toList = K) (hn : L.length = n) (hL : Fds w a L) (hf : Fine L) (hs : s.size ≤ 1000) (hl : n ≤ 1000) (hp : putF K L = (X, z)) :
    Calls Try.prog 49 #[.string s, .slice a n cap] w fun e w' => e = .returned (.tuple #[.string ⟨X.toArray⟩, .int .i64 z]) ∧ Below w.heap.size w w' := by
  subst hK hn
  have h := put_c s w a cap L hL hf (by omega) (by omega)
  unfold PutRes at h
  rw [hp] at h
  exact h
theorem rput_as {s : ByteArray} {K : List UInt8} (w : World) (a : Option Addr) (cap : Nat) (L : List Fd) {n : Nat} {X : List UInt8} {z : Int} (hK : s.data.toList = K) (hn : L.length = n) (hL : Fds w a L) (hf : Fine L) (hs : s.size ≤ 1000) (hl : n ≤ 1000) (hp : putF K L = (X, z)) :
    Calls Try.prog 51 #[.string s, .slice a n cap] w fun e w' => e = .returned (.tuple #[.string ⟨X.toArray⟩, .int .i64 z]) ∧ Below w.heap.size w w' := by
  subst hK hn
  have h := rput_c s w a cap L hL hf (by omega) (by omega)
  unfold PutRes at h
  rw [hp] at h
  exact h
set_option maxRecDepth 100000 in
set_option maxHeartbeats 6400000 in
theorem place_c (S : Sch) (n : Int) (w : World) (a : Option Addr) (cap : Nat) (ag : Option Addr) (cg : Nat) (L : List Fd) (hM : Mat w a S.idx) (hr : Fds w ag L) (hcg : L.length ≤ cg) (hf : Fine L) (hl : L.length ≤ 40) (hS : SmallS S) :
    Calls Try.prog 22 #[S.val a cap, .int .i64 n, .slice ag L.length cg] w (PlaceRes S n L w) := by
  have SB := Lib.hid (sb_new w S a cap hM 40)
  have KP := Lib.hid (fun w h => places_c S n w a cap h hS)
  have KI := Lib.hid (fun w h => isrec_c S.kinds w ag cg L h (by have := hS.kinds; omega) (by omega))
  have HR := Lib.hid hr
  have hk40 := hS.kinds
  have HS := Lib.hid hS
  unfold Sch.val at KP
  unfold Sch.val
  clear hM hr
  obtain ⟨y0, y1, y2, y3, -, -, -⟩ := SB.out
  cases ht : thereB S n with
  | false =>
    have HX := Lib.hid (place_no (L := L) ht)
    have HT := Lib.hid ht
    clear ht
    go_enter Try.func22, Try.ntmps22
    go_wp2_with fail
    refine (KP.out _ SB.out.mat).mono ?_
    rintro e w1 ⟨h1, -, b1⟩
    obtain rfl := h1 HT.out
    have S1 := Lib.hid (SB.out.later b1)
    clear b1 h1
    go_wp2_with fail
    go_ret2
    exact ⟨by rw [HX.out]; rfl, S1.out.below⟩
  | true =>
    have HT := Lib.hid ht
    have HIN := Lib.hid (places_in ht)
    have HPLN := Lib.hid (places_len ht hS)
    by_cases hrec : isRec S L
    case neg =>
      have HX := Lib.hid (place_unfit ht hrec)
      unfold isRec at hrec
      rw [decide_eq_false hrec] at KI
      clear ht hrec
      go_enter Try.func22, Try.ntmps22
      go_wp2_with fail
      refine (KP.out _ SB.out.mat).mono ?_
      rintro e w1 ⟨-, h1, b1⟩
      obtain ⟨a2, c2, rfl, hi⟩ := h1 HT.out
      have S1 := Lib.hid (SB.out.later b1)
      have R1 := Lib.hid (HR.out.later (below_then SB.out.below b1))
      clear b1 h1 hi y0 y1 y2 y3
      obtain ⟨y0, y1, y2, y3, -, -, -⟩ := S1.out
      go_wp2_with fail
      refine (KI.out _ R1.out).mono ?_
      rintro e w2 ⟨rfl, b2⟩
      have S2 := Lib.hid (S1.out.later b2)
      clear b2
      go_wp2_with fail
      go_ret2
      exact ⟨by rw [HX.out]; rfl, S2.out.below⟩
    have hkey := key_eq ht hrec
    obtain ⟨K, hK, hk9⟩ : ∃ K : Nat, S.key = (K : Int) ∧ K ≤ S.kinds.size := by
      obtain ⟨-, -, -, h4, h5, -, -⟩ := chk_parts (there_chk ht).1
      exact ⟨S.key.toNat, by omega, by omega⟩
    have hKt : S.key.toNat = K := by omega
    have hls : L.length = S.kinds.size := by have := hrec.1; simpa using this
    rw [hKt] at hkey
    obtain ⟨⟨X, z⟩, hp⟩ : ∃ r, keyF S L = r := ⟨_, rfl⟩
    rw [hp] at hkey
    have KQ := Lib.hid (fun w h => put_as (s := S.kinds) w ag cg (L.take K) rfl (show (L.take K).length = K by rw [List.length_take]; omega) h (fine_take hf K) (by omega) (by omega) hkey.symm)
    have HKK := Lib.hid hK
    have HREC := Lib.hid hrec
    have HLS := Lib.hid hls
    have q1 : (K : Int) ≤ (cg : Int) := by omega
    have q0 : (0 : Int) ≤ (K : Int) := by omega
    have KI2 := Lib.hid KI.out
    have hrec2 := hrec
    unfold isRec at hrec2
    rw [decide_eq_true hrec2] at KI2
    have HP := Lib.hid hp
    clear hkey hK hrec hrec2 hKt hls ht hp KI
    by_cases hz : z = 0
    case neg =>
      have HX := Lib.hid (place_key (n := n) HT.out HREC.out (.inl (by rw [HP.out]; exact hz)))
      rw [HP.out] at HX
      have d1 : (z != 0) = true := bne_iff_ne.2 hz
      clear hz
      go_enter Try.func22, Try.ntmps22
      go_wp2_with fail
      refine (KP.out _ SB.out.mat).mono ?_
      rintro e w1 ⟨-, h1, b1⟩
      obtain ⟨a2, c2, rfl, hi⟩ := h1 HT.out
      have S1 := Lib.hid (SB.out.later b1)
      have R1 := Lib.hid (HR.out.later (below_then SB.out.below b1))
      clear b1 h1 hi y0 y1 y2 y3
      obtain ⟨y0, y1, y2, y3, -, -, -⟩ := S1.out
      go_wp2_with fail
      refine (KI2.out _ R1.out).mono ?_
      rintro e w2 ⟨rfl, b2⟩
      have S2 := Lib.hid (S1.out.later b2)
      have R2 := Lib.hid (R1.out.later b2)
      clear b2 y0 y1 y2 y3
      obtain ⟨y0, y1, y2, y3, -, -, -⟩ := S2.out
      rw [HKK.out] at y2
      go_wp2_with fail
      have R2t : Fds w2.drew ag (L.take K) := (R2.out.later (Below.refl _ _).drew).tk K
      have R2h := Lib.hid R2t
      clear R2t
      go_region_with (first | (go_at_call 49; refine (KQ.out _ R2h.out).mono ?_; rintro e w3 ⟨rfl, b3⟩))
      all_goals have B3 := Lib.hid (below_then S2.out.below ((Below.refl _ _).drew.trans b3))
      all_goals clear b3
      all_goals go_wp2_with fail
      all_goals go_ret2
      all_goals exact ⟨by rw [HX.out]; rfl, B3.out⟩
    subst hz
    by_cases hn : n < 0
    case pos =>
      have HX := Lib.hid (place_key (n := n) HT.out HREC.out (.inr hn))
      rw [HP.out] at HX
      have d1 : (n == -1) = true := beq_iff_eq.2 (by have := (there_chk HT.out).2.1; omega)
      clear hn
      go_enter Try.func22, Try.ntmps22
      go_wp2_with fail
      refine (KP.out _ SB.out.mat).mono ?_
      rintro e w1 ⟨-, h1, b1⟩
      obtain ⟨a2, c2, rfl, hi⟩ := h1 HT.out
      have S1 := Lib.hid (SB.out.later b1)
      have R1 := Lib.hid (HR.out.later (below_then SB.out.below b1))
      clear b1 h1 hi y0 y1 y2 y3
      obtain ⟨y0, y1, y2, y3, -, -, -⟩ := S1.out
      go_wp2_with fail
      refine (KI2.out _ R1.out).mono ?_
      rintro e w2 ⟨rfl, b2⟩
      have S2 := Lib.hid (S1.out.later b2)
      have R2 := Lib.hid (R1.out.later b2)
      clear b2 y0 y1 y2 y3
      obtain ⟨y0, y1, y2, y3, -, -, -⟩ := S2.out
      rw [HKK.out] at y2
      go_wp2_with fail
      have R2t : Fds w2.drew ag (L.take K) := (R2.out.later (Below.refl _ _).drew).tk K
      have R2h := Lib.hid R2t
      clear R2t
      go_region_with (first | (go_at_call 49; refine (KQ.out _ R2h.out).mono ?_; rintro e w3 ⟨rfl, b3⟩))
      all_goals have B3 := Lib.hid (below_then S2.out.below ((Below.refl _ _).drew.trans b3))
      all_goals clear b3
      all_goals go_wp2_with fail
      all_goals go_ret2
      all_goals exact ⟨by rw [HX.out]; rfl, B3.out⟩
    obtain ⟨⟨Y, z⟩, hp2⟩ : ∃ r, ownF S n L = r := ⟨_, rfl⟩
    have HF2 := Lib.hid (show Fine (pickL d0 L (placesF S n)) from fun f h => hf f (pick_mem (by rw [HLS.out]; exact HIN.out) f h))
    have HPK := Lib.hid (show (pickL d0 L (placesF S n)).length = (placesF S n).length by unfold pickL; rw [List.length_map])
    have KQ2 := Lib.hid (fun w a cap h => put_as (s := ⟨(lettersF S n).toArray⟩) w a cap (pickL d0 L (placesF S n)) rfl rfl h HF2.out (by show (lettersF S n).length ≤ 1000; unfold lettersF pickL; rw [List.length_map]; have := HPLN.out; omega) (by rw [HPK.out]; have := HPLN.out; omega) hp2)
    have d1 : (n == -1) = false := beq_eq_false_iff_ne.2 (by omega)
    have HXL := Lib.hid (show X.length ≤ 1024 from put_zero_len HP.out)
    have HN := Lib.hid hn
    have HP2 := Lib.hid hp2
    have HLN := Lib.hid (show S.kinds.data.toList.length = S.kinds.size by simp)
    have HYL := Lib.hid (fun (h : z = 0) => put_zero_len (show putF (lettersF S n) (pickL d0 L (placesF S n)) = (Y, 0) by rw [← h]; exact hp2))
    clear hn hp2
    by_cases hz : z = 0
    case neg =>
      have HX := Lib.hid (place_err HT.out HREC.out (by rw [HP.out]) HN.out (by rw [HP2.out]; exact hz))
      rw [HP2.out] at HX
      have d2 : (z != 0) = true := bne_iff_ne.2 hz
      clear hz
      go_enter Try.func22, Try.ntmps22
      go_wp2_with fail
      refine (KP.out _ SB.out.mat).mono ?_
      rintro e w1 ⟨-, h1, b1⟩
      obtain ⟨a2, c2, rfl, hi⟩ := h1 HT.out
      have S1 := Lib.hid (SB.out.later b1)
      have R1 := Lib.hid (HR.out.later (below_then SB.out.below b1))
      have I1 := Lib.hid hi
      clear b1 h1 hi y0 y1 y2 y3
      obtain ⟨y0, y1, y2, y3, -, -, -⟩ := S1.out
      go_wp2_with fail
      refine (KI2.out _ R1.out).mono ?_
      rintro e w2 ⟨rfl, b2⟩
      have S2 := Lib.hid (S1.out.later b2)
      have R2 := Lib.hid (R1.out.later b2)
      have I2 := Lib.hid (I1.out.later b2)
      clear b2 y0 y1 y2 y3
      obtain ⟨y0, y1, y2, y3, -, -, -⟩ := S2.out
      rw [HKK.out] at y2
      go_wp2_with fail
      have R2t : Fds w2.drew ag (L.take K) := (R2.out.later (Below.refl _ _).drew).tk K
      have R2h := Lib.hid R2t
      clear R2t
      go_region_with (first | (go_at_call 49; refine (KQ.out _ R2h.out).mono ?_; rintro e w3 ⟨rfl, b3⟩))
      all_goals (
        have B23 := (Below.refl w2.heap.size w2).drew.trans b3
        have S3 := Lib.hid (S2.out.later B23)
        have R4 := Lib.hid ((R2.out.later B23).later (Below.refl _ w3).drew)
        have I4 := Lib.hid ((I2.out.later B23).later (Below.refl _ w3).drew)
        have B3 := Lib.hid (below_then S2.out.below B23)
        clear b3 B23 y0 y1 y2 y3
        obtain ⟨y0, y1, y2, y3, -, -, -⟩ := S3.out
        go_wp2_with fail
        obtain ⟨cv, w4, hcv, hrow, hbw⟩ := bytes_conv w3.drew S.kinds
        rw [show w3.drew.heap.size = w3.heap.size from rfl] at hcv hrow hbw
        have B4 := Lib.hid (below_then B3.out ((Below.refl _ w3).drew.trans hbw))
        have R5 := Lib.hid (R4.out.later hbw)
        have I5 := Lib.hid (I4.out.later hbw)
        have KB := Lib.hid (pickb_c w4 w3.heap.size cv S.kinds.data.toList a2 c2 (placesF S n) hrow hrow.lt I5.out (by rw [HLN.out]; exact HIN.out) (by have := HPLN.out; omega))
        rw [HLN.out] at KB
        have KF := Lib.hid (fun w h i => pickf_c w ag cg L a2 c2 (placesF S n) h i (by rw [HLS.out]; exact HIN.out) (by have := HPLN.out; omega) d0)
        clear hrow hbw
        go_region_with (first | (go_at_call 44; refine KB.out.mono ?_; rintro e w5 ⟨v5, rfl, ho5, b5⟩; have hst5 := ho5.str; have HO5 := Lib.hid ho5; have R6 := Lib.hid (R5.out.later b5); have I6 := Lib.hid (I5.out.later b5); have B5 := Lib.hid (below_then B4.out b5); clear b5 ho5) | (go_at_call 50; refine (KF.out _ R6.out I6.out).mono ?_; rintro e w6 ⟨a6, c6, rfl, f6, b6⟩; have hst6 := (HO5.out.later b6).str; have F6 := Lib.hid f6; have B6 := Lib.hid (below_then B5.out b6); clear b6 f6) | (go_at_call 49; refine (KQ2.out _ _ _ F6.out).mono ?_; rintro e w7 ⟨rfl, b7⟩; have B7 := Lib.hid (below_then B6.out b7); clear b7))
        all_goals clear hcv hst5 hst6
        all_goals go_wp2_with fail
        all_goals go_ret2
        all_goals exact ⟨by rw [HX.out]; rfl, B7.out⟩)
    subst hz
    have HX := Lib.hid (place_ok HT.out HREC.out (by rw [HP.out]) HN.out (by rw [HP2.out]))
    rw [HP.out, HP2.out] at HX
    have hlen : Y.length + X.length ≤ 9223372036854775807 := by have := HXL.out; have := HYL.out rfl; omega
    go_enter Try.func22, Try.ntmps22
    go_wp2_with fail
    refine (KP.out _ SB.out.mat).mono ?_
    rintro e w1 ⟨-, h1, b1⟩
    obtain ⟨a2, c2, rfl, hi⟩ := h1 HT.out
    have S1 := Lib.hid (SB.out.later b1)
    have R1 := Lib.hid (HR.out.later (below_then SB.out.below b1))
    have I1 := Lib.hid hi
    clear b1 h1 hi y0 y1 y2 y3
    obtain ⟨y0, y1, y2, y3, -, -, -⟩ := S1.out
    go_wp2_with fail
    refine (KI2.out _ R1.out).mono ?_
    rintro e w2 ⟨rfl, b2⟩
    have S2 := Lib.hid (S1.out.later b2)
    have R2 := Lib.hid (R1.out.later b2)
    have I2 := Lib.hid (I1.out.later b2)
    clear b2 y0 y1 y2 y3
    obtain ⟨y0, y1, y2, y3, -, -, -⟩ := S2.out
    rw [HKK.out] at y2
    go_wp2_with fail
    have R2t : Fds w2.drew ag (L.take K) := (R2.out.later (Below.refl _ _).drew).tk K
    have R2h := Lib.hid R2t
    clear R2t
    go_region_with (first | (go_at_call 49; refine (KQ.out _ R2h.out).mono ?_; rintro e w3 ⟨rfl, b3⟩))
    all_goals (
      have B23 := (Below.refl w2.heap.size w2).drew.trans b3
      have S3 := Lib.hid (S2.out.later B23)
      have R4 := Lib.hid ((R2.out.later B23).later (Below.refl _ w3).drew)
      have I4 := Lib.hid ((I2.out.later B23).later (Below.refl _ w3).drew)
      have B3 := Lib.hid (below_then S2.out.below B23)
      clear b3 B23 y0 y1 y2 y3
      obtain ⟨y0, y1, y2, y3, -, -, -⟩ := S3.out
      go_wp2_with fail
      obtain ⟨cv, w4, hcv, hrow, hbw⟩ := bytes_conv w3.drew S.kinds
      rw [show w3.drew.heap.size = w3.heap.size from rfl] at hcv hrow hbw
      have B4 := Lib.hid (below_then B3.out ((Below.refl _ w3).drew.trans hbw))
      have R5 := Lib.hid (R4.out.later hbw)
      have I5 := Lib.hid (I4.out.later hbw)
      have KB := Lib.hid (pickb_c w4 w3.heap.size cv S.kinds.data.toList a2 c2 (placesF S n) hrow hrow.lt I5.out (by rw [HLN.out]; exact HIN.out) (by have := HPLN.out; omega))
      rw [HLN.out] at KB
      have KF := Lib.hid (fun w h i => pickf_c w ag cg L a2 c2 (placesF S n) h i (by rw [HLS.out]; exact HIN.out) (by have := HPLN.out; omega) d0)
      clear hrow hbw
      go_region_with (first | (go_at_call 44; refine KB.out.mono ?_; rintro e w5 ⟨v5, rfl, ho5, b5⟩; have hst5 := ho5.str; have HO5 := Lib.hid ho5; have R6 := Lib.hid (R5.out.later b5); have I6 := Lib.hid (I5.out.later b5); have B5 := Lib.hid (below_then B4.out b5); clear b5 ho5) | (go_at_call 50; refine (KF.out _ R6.out I6.out).mono ?_; rintro e w6 ⟨a6, c6, rfl, f6, b6⟩; have hst6 := (HO5.out.later b6).str; have F6 := Lib.hid f6; have B6 := Lib.hid (below_then B5.out b6); clear b6 f6) | (go_at_call 49; refine (KQ2.out _ _ _ F6.out).mono ?_; rintro e w7 ⟨rfl, b7⟩; have B7 := Lib.hid (below_then B6.out b7); clear b7))
      all_goals clear hcv hst5 hst6
      all_goals go_wp2_with fail
      all_goals go_ret2
      all_goals exact ⟨by rw [HX.out, ← cat_mk2]; rfl, B7.out⟩)
end Go.Proofs.Ytialjglgkfcdmaa.Or
