/- Package codec: the order of places. -/
import Derived.Test.YtialjglgkfcdmaaCoLaws3
import Derived.Test.YtialjglgkfcdmaaCoOrd
import Derived.Deep.DeepCutAuto
namespace Go.Proofs.Ytialjglgkfcdmaa.Or
open Go.RowKit
theorem put_good {K : List UInt8} {L : List Fd} {B : List UInt8} (hok : ∀ f ∈ L, f.ok) (h : putF K L = (B, 0)) : kindsB K = true ∧ fitB K L = true ∧ Good K L B ∧ B.length ≤ 1024 := by
  cases hk : kindsB K with
  | false => rw [put_kinds hk] at h; simp at h
  | true =>
    cases hf : fitB K L with
    | false => rw [put_unfit hk hf] at h; simp at h
    | true =>
      rcases Nat.lt_or_ge 1024 (encAll K L).length with hl | hl
      · rw [put_long hk hf hl] at h; simp at h
      · rw [put_ok hk hf hl] at h
        obtain ⟨rfl, -⟩ := Prod.mk.inj h
        exact ⟨rfl, rfl, fit_good hf hok, hl⟩
theorem lt_nopre : ∀ (x y : List UInt8), x < y → ¬ x <+: y → Lt2 x y
  | [], y, _, h => absurd List.nil_prefix h
  | _ :: _, [], h, _ => absurd h (List.not_lt_nil _)
  | a :: x, b :: y, h, hp => by
    rcases List.cons_lt_cons_iff.1 h with h1 | ⟨rfl, h1⟩
    · exact Lt2.head (UInt8.lt_iff_toNat_lt.1 h1) x y
    · have h2 := lt_nopre x y h1 (fun h3 => hp (List.cons_prefix_cons.2 ⟨rfl, h3⟩))
      exact h2.pre [a]
theorem two_ways {x y : List UInt8} (h1 : ¬ x <+: y) (h2 : ¬ y <+: x) : Lt2 x y ∨ Lt2 y x := by
  have hne : x ≠ y := fun e => h1 (by rw [e]; exact List.prefix_rfl)
  rcases list_tri x y hne with h | h
  · exact .inl (lt_nopre x y h h1)
  · exact .inr (lt_nopre y x h h2)
theorem pre_len {L M : List Fd} (h : M <+: L) (hl : L.length ≤ M.length) : M = L := h.eq_of_length_le hl
/-- Two places, the first parts of which are of as many fields. -/
theorem places_order {K KK : List UInt8} {P Q PK QK : List Fd} {X Y A B : List UInt8} (hk : ∀ c ∈ K, Letter c) (hkk : ∀ c ∈ KK, Letter c) (hl : P.length = Q.length)
    (g1 : Good K P X) (g2 : Good K Q Y) (k1 : Good KK PK A) (k2 : Good KK QK B) :
    (X ++ A < Y ++ B ↔ (if cmpF P Q = 0 then cmpF PK QK else cmpF P Q) < 0) ∧ (X ++ A = Y ++ B ↔ (if cmpF P Q = 0 then cmpF PK QK else cmpF P Q) = 0) := by
  obtain ⟨a1, a2, a3⟩ := keep K P Q X Y hk g1 g2
  obtain ⟨b1, b2, b3⟩ := keep KK PK QK A B hkk k1 k2
  obtain ⟨c1, c2, c3⟩ := keep K Q P Y X hk g2 g1
  by_cases h0 : cmpF P Q = 0
  · rw [if_pos h0]
    have e := a2.2 h0
    subst e
    rw [app_lt, List.append_cancel_left_eq]
    exact ⟨b1, b2⟩
  · rw [if_neg h0]
    have hne : X ≠ Y := fun e => h0 (a2.1 e)
    have n1 : ¬ Y <+: X := fun h => hne (by
      have := pre_len (a3.1 h) (by omega)
      subst this
      exact absurd (a2.2 (by have := cmp_drop Q.length Q Q rfl (by omega) (by omega); simpa [cmpF] using this)) hne)
    have n2 : ¬ X <+: Y := fun h => hne (by
      have := pre_len (c3.1 h) (by omega)
      subst this
      exact absurd (a2.2 (by have := cmp_drop P.length P P rfl (by omega) (by omega); simpa [cmpF] using this)) hne)
    rcases two_ways n2 n1 with h | h
    · have h2 := h.app A B
      exact ⟨⟨fun _ => a1.1 h.lt, fun _ => h2.lt⟩, ⟨fun e => absurd e h2.ne, fun e => absurd e h0⟩⟩
    · have h2 := h.app B A
      exact ⟨⟨fun e => absurd e h2.notlt, fun e => absurd (a1.2 e) h.notlt⟩, ⟨fun e => absurd e.symm h2.ne, fun e => absurd e h0⟩⟩
theorem begin_order {K : List UInt8} {P M : List Fd} {X C A : List UInt8} (hk : ∀ c ∈ K, Letter c) (g1 : Good K P X) (g2 : Good K M C) (hl : M.length ≤ P.length) : C <+: X ++ A ↔ M <+: P := by
  obtain ⟨a1, a2, a3⟩ := keep K P M X C hk g1 g2
  obtain ⟨c1, c2, c3⟩ := keep K M P C X hk g2 g1
  constructor
  · intro h
    by_cases hm : M <+: P
    · exact hm
    · exfalso
      have n1 : ¬ C <+: X := fun h2 => hm (a3.1 h2)
      have n2 : ¬ X <+: C := fun h2 => hm (by
        have := pre_len (c3.1 h2) hl
        rw [this]; exact List.prefix_rfl)
      rcases two_ways n2 n1 with h2 | h2
      · have h3 := h2.app A []
        rw [List.append_nil] at h3
        exact h3.nopre.1 h
      · have h3 := h2.app [] A
        rw [List.append_nil] at h3
        exact h3.nopre.2 h
  · intro h
    exact (a3.2 h).trans (List.prefix_append _ _)
theorem own_cap3 {w : World} {base n g : Nat} {a : Option Addr} {cap : Nat} {e : TypeId} {xs : List Value} (h : w.ownsRow base e g (.slice a n cap) n xs) : n ≤ cap := by
  rcases h.2 with ⟨h', _⟩ | ⟨g', cap', cur, h', _, _, hc, _⟩
  · simp only [Value.slice.injEq] at h'; omega
  · simp only [Value.slice.injEq] at h'
    omega
def FdsRes2 (L : List Fd) (w : World) (e : Ending) (w' : World) : Prop := ∃ a2 c2, e = .returned (.slice a2 L.length c2) ∧ Fds w' a2 L ∧ L.length ≤ c2 ∧ Below w.heap.size w w'
set_option maxRecDepth 100000 in
set_option maxHeartbeats 3200000 in
theorem fieldscap_c (S : Sch) (n : Int) (w : World) (a : Option Addr) (cap : Nat) (ag : Option Addr) (cg : Nat) (L : List Fd) (hM : Mat w a S.idx) (hr : Fds w ag L) (hS : SmallS S) (hT : thereB S n = true) (hL : L.length = S.kinds.size) (d : Fd) :
    Calls Try.prog 29 #[S.val a cap, .int .i64 n, .slice ag L.length cg] w (FdsRes2 (pickL d L (placesF S n)) w) := by
  have SB := Lib.hid (sb_new w S a cap hM 40)
  have KP := Lib.hid (fun w h => rplaces_c S n w a cap h hS hT)
  have HIN := Lib.hid (places_in hT)
  have hlen := places_len hT hS
  have HR := Lib.hid hr
  unfold Sch.val at KP
  unfold Sch.val
  rw [← hL] at HIN
  clear hM hT hr
  generalize placesF S n = zs at KP HIN hlen ⊢
  obtain ⟨y0, y1, y2, y3, -, -, -⟩ := SB.out
  go_enter Try.func29, Try.ntmps29
  go_wp2_with fail
  refine (KP.out _ SB.out.mat).mono ?_
  rintro e w1 ⟨a2, c2, rfl, hi, b1⟩
  have B1 := Lib.hid (below_then SB.out.below b1)
  have HI := Lib.hid hi
  clear b1 hi y0 y1 y2 y3
  go_wp2_with fail
  go_loopw [8, 9] (fun s8 i wr => ∃ k : Nat, k ≤ zs.length ∧ i = .int .i64 k ∧ OwnF w1.heap.size wr s8 (pickL d L (zs.take k)) ∧ Below w1.heap.size w1 wr) (fun _ i _ => zs.length - (intOf i).toNat)
  case atStart => exact ⟨0, by omega, rfl, OwnF.nil _ _, Below.refl _ _⟩
  case round =>
    obtain ⟨k, hk, rfl, hO, hB⟩ := hrel
    have HO := Lib.hid hO
    have HB := Lib.hid hB
    clear hO hB
    by_cases hlt : k < zs.length
    · obtain ⟨b, off, rfl, hb, c⟩ := HI.out.later HB.out k hlt
      have hz9 := HIN.out _ (List.getElem_mem hlt)
      have HNX := Lib.hid (pick_next d L zs k hlt)
      obtain ⟨z, hz⟩ : ∃ z, zs[k] = z := ⟨_, rfl⟩
      rw [hz] at c hz9 HNX
      obtain ⟨m, rfl⟩ : ∃ m : Nat, z = (m : Int) := ⟨z.toNat, by omega⟩
      have hml : m < L.length := by omega
      obtain ⟨b2, off2, rfl, hb2, c1, c2', c3⟩ := HR.out.later (below_then B1.out HB.out) m hml
      have e3 : L.getD ((m : Int)).toNat d = L[m] := by simp [hml]
      rw [e3] at HNX
      obtain ⟨x, hx⟩ : ∃ x, L[m] = x := ⟨_, rfl⟩
      rw [hx] at c1 c2' c3 HNX
      have q0 : (0 : Int) ≤ (k : Int) := by omega
      have q1 : (k : Int) < (zs.length : Int) := by omega
      have q2 : (0 : Int) ≤ (m : Int) := by omega
      have q3 : (m : Int) < (L.length : Int) := by omega
      have HO2 := Lib.hid (OwnF.later HO.out ((Below.refl _ wr).alloc (Nat.le_refl _) (.cells #[.int .u64 x.n, .int .i64 x.i, .string x.s] 59)))
      have HFD := Lib.hid (fd_new wr x 59)
      have hbr : w1.heap.size ≤ wr.heap.size := HB.out.size
      have HPL := Lib.hid (show (pickL d L (zs.take k)).length ≤ 1000 by unfold pickL; rw [List.length_map, List.length_take]; omega)
      clear hz hx hz9 e3
      go_wp2_with (at_builtin; refine app_fds rfl _ _ rfl w1.heap.size _ _ x rfl wr.heap.size 1 rfl HO2.out HFD.out (by have := HPL.out; omega) (by simp; omega) ?_)
      intro v8 w8 h8 b8
      have H8 := Lib.hid h8
      have B8 := Lib.hid (below_under (HB.out.alloc hbr _) b8)
      clear h8 b8
      go_wp2_with fail
      exact ⟨⟨k + 1, by omega, by simp, by rw [HNX.out]; exact H8.out, B8.out⟩, by simp [intOf]; omega⟩
    · obtain rfl : k = zs.length := by omega
      have HF := HO.out
      rw [List.take_length] at HF
      obtain ⟨a', cap', rfl, hfd⟩ := own_fds HF
      have HCP := Lib.hid (own_cap3 HF)
      have H9 := Lib.hid hfd
      have HB9 := Lib.hid (below_then B1.out HB.out)
      clear HF hfd HO
      go_wp2_with fail
      go_ret
      exact ⟨_, _, rfl, H9.out, HCP.out, HB9.out⟩
/-- What two places that may be, and a beginning, are to one another. -/
structure Ord (S : Sch) (n : Int) (R L : List Fd) (m : Nat) (A B C : ByteArray) : Prop where
  lt : Op.bytesLess A.toList B.toList = decide ((if cmpF (pickL d0 R (placesF S n)) (pickL d0 L (placesF S n)) = 0 then cmpF (pickL d0 R (placesF S (-1))) (pickL d0 L (placesF S (-1))) else cmpF (pickL d0 R (placesF S n)) (pickL d0 L (placesF S n))) < 0)
  eq : (A.toList == B.toList) = decide ((if cmpF (pickL d0 R (placesF S n)) (pickL d0 L (placesF S n)) = 0 then cmpF (pickL d0 R (placesF S (-1))) (pickL d0 L (placesF S (-1))) else cmpF (pickL d0 R (placesF S n)) (pickL d0 L (placesF S n))) = 0)
  beg : C.data.toList.isPrefixOf A.data.toList = decide ((pickL d0 R (placesF S n)).take m = (pickL d0 L (placesF S n)).take m)
  ok : beginF S n ((pickL d0 L (placesF S n)).take m) = (C.data.toList, 0)
theorem place_parts {S : Sch} {n : Int} {L : List Fd} {A : List UInt8} (h : placeF S n L = (A, 0)) : thereB S n = true ∧ isRec S L := by
  cases ht : thereB S n with
  | false => rw [place_no ht] at h; simp at h
  | true =>
    by_cases hr : isRec S L
    · exact ⟨rfl, hr⟩
    · rw [place_unfit ht hr] at h; simp at h
theorem place_form {S : Sch} {n : Int} {L : List Fd} {A : List UInt8} (hok : ∀ f ∈ L, f.ok) (hin : ∀ m, thereB S m = true → ∀ f ∈ pickL d0 L (placesF S m), f ∈ L) (h : placeF S n L = (A, 0)) :
    ∃ X Y, Good (lettersF S n) (pickL d0 L (placesF S n)) X ∧ kindsB (lettersF S n) = true ∧ fitB (lettersF S n) (pickL d0 L (placesF S n)) = true ∧ X.length ≤ 1024 ∧ kindsB (lettersF S (-1)) = true ∧ ((n < 0 ∧ A = X ∧ Y = []) ∨ (¬ n < 0 ∧ A = X ++ Y ∧ Good (lettersF S (-1)) (pickL d0 L (placesF S (-1))) Y)) := by
  obtain ⟨ht, hr⟩ := place_parts h
  by_cases hn : n < 0
  · rw [place_key ht hr (.inr hn)] at h
    have e : n = -1 := by have := (there_chk ht).2.1; omega
    subst e
    obtain ⟨k1, k2, k3, k4⟩ := put_good (fun f hf => hok f (hin (-1) ht f hf)) h
    exact ⟨A, [], k3, k1, k2, k4, k1, .inl ⟨hn, rfl, rfl⟩⟩
  · by_cases hk : (keyF S L).2 = 0
    · by_cases ho : (ownF S n L).2 = 0
      · rw [place_ok ht hr hk hn ho] at h
        obtain ⟨hA, -⟩ := Prod.mk.inj h
        have e1 : keyF S L = ((keyF S L).1, 0) := Prod.ext rfl hk
        have e2 : ownF S n L = ((ownF S n L).1, 0) := Prod.ext rfl ho
        obtain ⟨a1, a2, a3, a4⟩ := put_good (fun f hf => hok f (hin (-1) (there_key ht) f hf)) e1
        obtain ⟨b1, b2, b3, b4⟩ := put_good (fun f hf => hok f (hin n ht f hf)) e2
        exact ⟨_, _, b3, b1, b2, b4, a1, .inr ⟨hn, hA.symm, a3⟩⟩
      · rw [place_err ht hr hk hn ho] at h
        obtain ⟨-, h2⟩ := Prod.mk.inj h
        exact absurd h2 ho
    · rw [place_key ht hr (.inl hk)] at h
      rw [h] at hk
      exact absurd rfl hk
theorem good_take {K : List UInt8} {L : List Fd} {X : List UInt8} (g : Good K L X) (hk : kindsB K = true) (hf : fitB K L = true) (hX : X.length ≤ 1024) (m : Nat) : ∃ C, putF K (L.take m) = (C, 0) ∧ Good K (L.take m) C := by
  have hf2 := fit_take hf m
  have g2 := fit_good hf2 (fun f hf => g.ok f (List.mem_of_mem_take hf))
  have hle : (encAll K (L.take m)).length ≤ 1024 := by
    have h1 := encAll_split K L m
    rw [g.enc] at h1
    have h2 := congrArg List.length h1
    rw [List.length_append] at h2
    omega
  exact ⟨_, put_ok hk hf2 hle, g2⟩
theorem pick_len {α : Type} (d : α) (l : List α) (zs : List Int) : (pickL d l zs).length = zs.length := by unfold pickL; rw [List.length_map]
theorem pre_take {P Q : List Fd} (_h : P.length = Q.length) (m : Nat) (hm : m ≤ Q.length) : Q.take m <+: P ↔ P.take m = Q.take m := by
  rw [List.prefix_iff_eq_take, List.length_take, Nat.min_eq_left hm]
  exact eq_comm
theorem ord_of {S : Sch} {n : Int} {R L : List Fd} {A B : ByteArray} (okR : ∀ f ∈ R, f.ok) (okL : ∀ f ∈ L, f.ok) (hA : placeF S n R = (A.data.toList, 0)) (hB : placeF S n L = (B.data.toList, 0)) (m : Nat) (hm : m ≤ (pickL d0 L (placesF S n)).length) : ∃ C : ByteArray, Ord S n R L m A B C := by
  have inR : ∀ m, thereB S m = true → ∀ f ∈ pickL d0 R (placesF S m), f ∈ R := fun m ht => pick_mem (by have h1 := places_in ht; have h2 := (place_parts hA).2.1; simp at h2; rw [h2]; exact h1)
  have inL : ∀ m, thereB S m = true → ∀ f ∈ pickL d0 L (placesF S m), f ∈ L := fun m ht => pick_mem (by have h1 := places_in ht; have h2 := (place_parts hB).2.1; simp at h2; rw [h2]; exact h1)
  obtain ⟨X, Y, g1, k1, f1, l1, kk, hX⟩ := place_form okR inR hA
  obtain ⟨X2, Y2, g2, k2, f2, l2, -, hX2⟩ := place_form okL inL hB
  obtain ⟨C, hC, gC⟩ := good_take g2 k2 f2 l2 m
  have hlen : (pickL d0 R (placesF S n)).length = (pickL d0 L (placesF S n)).length := by rw [pick_len, pick_len]
  have hl := kinds_letters k1
  have hll := kinds_letters kk
  have hbeg : ∀ Z, C <+: X ++ Z ↔ (pickL d0 R (placesF S n)).take m = (pickL d0 L (placesF S n)).take m := fun Z => by
    rw [begin_order hl g1 gC (by rw [List.length_take]; omega), pre_take hlen m hm]
  have hord : ∀ AA BB, (∃ Z Z2, AA = X ++ Z ∧ BB = X2 ++ Z2 ∧ ((n < 0 ∧ Z = [] ∧ Z2 = []) ∨ (Good (lettersF S (-1)) (pickL d0 R (placesF S (-1))) Z ∧ Good (lettersF S (-1)) (pickL d0 L (placesF S (-1))) Z2))) →
      (AA < BB ↔ (if cmpF (pickL d0 R (placesF S n)) (pickL d0 L (placesF S n)) = 0 then cmpF (pickL d0 R (placesF S (-1))) (pickL d0 L (placesF S (-1))) else cmpF (pickL d0 R (placesF S n)) (pickL d0 L (placesF S n))) < 0) ∧
      (AA = BB ↔ (if cmpF (pickL d0 R (placesF S n)) (pickL d0 L (placesF S n)) = 0 then cmpF (pickL d0 R (placesF S (-1))) (pickL d0 L (placesF S (-1))) else cmpF (pickL d0 R (placesF S n)) (pickL d0 L (placesF S n))) = 0) := by
    rintro AA BB ⟨Z, Z2, rfl, rfl, h⟩
    rcases h with ⟨hn, rfl, rfl⟩ | ⟨h1, h2⟩
    · have e : n = -1 := by have := (there_chk (place_parts hA).1).2.1; omega
      subst e
      obtain ⟨a1, a2, a3⟩ := keep _ _ _ _ _ hl g1 g2
      rw [List.append_nil, List.append_nil]
      by_cases h0 : cmpF (pickL d0 R (placesF S (-1))) (pickL d0 L (placesF S (-1))) = 0
      · rw [if_pos h0]; exact ⟨a1, a2⟩
      · rw [if_neg h0]; exact ⟨a1, a2⟩
    · exact places_order hl hll hlen g1 g2 h1 h2
  have hZ : ∃ Z Z2, A.data.toList = X ++ Z ∧ B.data.toList = X2 ++ Z2 ∧ ((n < 0 ∧ Z = [] ∧ Z2 = []) ∨ (Good (lettersF S (-1)) (pickL d0 R (placesF S (-1))) Z ∧ Good (lettersF S (-1)) (pickL d0 L (placesF S (-1))) Z2)) := by
    rcases hX with ⟨hn, e1, -⟩ | ⟨hn, e1, e2⟩
    · rcases hX2 with ⟨-, e3, -⟩ | ⟨hn2, -, -⟩
      · exact ⟨[], [], by rw [e1, List.append_nil], by rw [e3, List.append_nil], .inl ⟨hn, rfl, rfl⟩⟩
      · exact absurd hn hn2
    · rcases hX2 with ⟨hn2, -, -⟩ | ⟨-, e3, e4⟩
      · exact absurd hn2 hn
      · exact ⟨Y, Y2, e1, e3, .inr ⟨e2, e4⟩⟩
  obtain ⟨hlt, heq⟩ := hord _ _ hZ
  refine ⟨⟨C.toArray⟩, ?_, ?_, ?_, ?_⟩
  · rw [less_iff]
    exact decide_eq_decide.2 hlt
  · rw [ByteArray.toList_eq, ByteArray.toList_eq, Bool.eq_iff_iff, beq_iff_eq, heq]
    simp
  · obtain ⟨Z, Z2, e1, -, -⟩ := hZ
    rw [Bool.eq_iff_iff, List.isPrefixOf_iff_prefix, e1]
    simp only [decide_eq_true_eq]
    exact hbeg Z
  · rw [begin_yes (place_parts hA).1]
    exact hC
/-- Does a text begin with another one? -/
def begB (t s : ByteArray) : Bool := s.data.toList.isPrefixOf t.data.toList
theorem begB_iff (t s : ByteArray) : begB t s = true ↔ s.data.toList <+: t.data.toList := List.isPrefixOf_iff_prefix
theorem beg_no {t s : ByteArray} (h : t.size < s.size) : begB t s = false := by
  rw [← Bool.not_eq_true, begB_iff]
  intro h2
  have := h2.length_le
  simp at this
  omega
theorem beg_yes {t s : ByteArray} : begB t s = ((t.extract 0 s.size).toList == s.toList) := by
  have e : (t.extract 0 s.size).toList = t.data.toList.take s.size := by rw [ByteArray.toList_eq, ext_take]
  rw [e, ByteArray.toList_eq]
  have hs : s.data.toList.length = s.size := by simp
  rw [Bool.eq_iff_iff, begB_iff, beq_iff_eq]
  constructor
  · intro h2
    rw [List.prefix_iff_eq_take, hs] at h2
    exact h2.symm
  · intro h2
    rw [List.prefix_iff_eq_take, hs]
    exact h2.symm
theorem fds_dr {w : World} {a : Option Addr} {L : List Fd} (h : Fds w a L) : Fds w.drew a L := h.later (Below.refl _ _).drew
set_option maxRecDepth 100000 in
set_option maxHeartbeats 12800000 in
theorem order_law (S : Sch) (w : World) (a : Option Addr) (cap : Nat) (n : Int) (ar : Option Addr) (cr : Nat) (R : List Fd) (al : Option Addr) (cl : Nat) (L : List Fd) (s : Nat) (hs255 : s ≤ 255) (hM : Mat w a S.idx) (hR : FdsC w cr ar R) (hL : FdsC w cl al L) (hn : S.name.size ≤ maxLen) (hk : S.kinds.size ≤ maxLen) (hi : S.idx.length ≤ maxLen) (hlr : R.length ≤ maxLen) (hll : L.length ≤ maxLen) (hzr : ∀ f ∈ R, Fd.Fits f) (hzl : ∀ f ∈ L, Fd.Fits f) :
    Calls Try.prog 8 #[recV S a cap n ar cr R al cl L, .int .u8 (s : Int)] w fun e w' => e = .returned (.bool true) ∧ Below w.heap.size w w' := by
  have KH := Lib.hid codhead_c
  have KG := Lib.hid (fun w h1 h2 h3 => greatr_c S w a cap n ar cr R al cl L h1 h2 h3 hn hk hi hlr hll (fun f hf => (hzr f hf).2) (fun f hf => (hzl f hf).2))
  have X0 := Lib.hid (rx_new w S a cap n ar cr R al cl L hM hR.1 hL.1 48)
  have hcr := hR.2
  have hcl := hL.2
  unfold recV at KG
  unfold recV
  clear hM hR hL hn hk hi hlr hll
  obtain ⟨y0, y1, y2, y3, y4, y5, y6, -, -, -, -, -⟩ := X0.out
  cases hg : greatR S R L with
  | true =>
    rw [hg] at KG
    clear hg hzr hzl hcr hcl
    go_enter Try.func8, Try.ntmps8
    go_wp2_with fail
    refine (KG.out _ X0.out.mat X0.out.fr X0.out.fl).mono ?_
    rintro e w1 ⟨rfl, b1⟩
    have X1 := Lib.hid (X0.out.later b1)
    clear b1 y0 y1 y2 y3 y4 y5 y6
    obtain ⟨y0, y1, y2, y3, y4, y5, y6, -, -, -, -, -⟩ := X1.out
    go_wp2_with fail
    refine (KH.out _).mono ?_
    rintro e w2 ⟨rfl, b2⟩
    have X2 := Lib.hid (X1.out.later b2)
    clear b2 y0 y1 y2 y3 y4 y5 y6
    obtain ⟨y0, y1, y2, y3, y4, y5, y6, -, -, -, -, -⟩ := X2.out
    go_wp2_with fail
    go_ret
    exact ⟨rfl, X2.out.below⟩
  | false =>
  rw [hg] at KG
  obtain ⟨g1, g2, g3⟩ := not_greatR hg
  have hS := smallS_of g1
  obtain ⟨hfr, hr40⟩ := fine_of g2 hzr
  obtain ⟨hfl, hl40⟩ := fine_of g3 hzl
  have K1 := Lib.hid (fun w h h2 => place_c S n w a cap ar cr R h h2 hcr hfr hr40 hS)
  have K2 := Lib.hid (fun w h h2 => place_c S n w a cap al cl L h h2 hcl hfl hl40 hS)
  unfold PlaceRes at K1 K2
  obtain ⟨⟨Al, zA⟩, hA⟩ : ∃ r, placeF S n R = r := ⟨_, rfl⟩
  obtain ⟨⟨Bl, zB⟩, hB⟩ : ∃ r, placeF S n L = r := ⟨_, rfl⟩
  rw [hA] at K1
  rw [hB] at K2
  obtain ⟨A, hAe⟩ : ∃ F : ByteArray, (⟨Al.toArray⟩ : ByteArray) = F := ⟨_, rfl⟩
  obtain ⟨B, hBe⟩ : ∃ F : ByteArray, (⟨Bl.toArray⟩ : ByteArray) = F := ⟨_, rfl⟩
  simp only [hAe] at K1
  simp only [hBe] at K2
  by_cases z1 : zA = 0
  case neg =>
    have d1 : (zA != 0) = true := bne_iff_ne.2 z1
    unfold Sch.val at K1 K2
    clear hg g1 g2 g3 hS hfr hr40 hfl hl40 hzr hzl hcr hcl hA hB hAe hBe z1
    go_enter Try.func8, Try.ntmps8
    go_wp2_with fail
    refine (KG.out _ X0.out.mat X0.out.fr X0.out.fl).mono ?_
    rintro e w1 ⟨rfl, b1⟩
    have X1 := Lib.hid (X0.out.later b1)
    clear b1 y0 y1 y2 y3 y4 y5 y6
    obtain ⟨y0, y1, y2, y3, y4, y5, y6, -, -, -, -, -⟩ := X1.out
    go_wp2_with fail
    refine (K1.out _ X1.out.mat X1.out.fr).mono ?_
    rintro e w2 ⟨rfl, b2⟩
    have X2 := Lib.hid (X1.out.later b2)
    clear b2 y0 y1 y2 y3 y4 y5 y6
    obtain ⟨y0, y1, y2, y3, y4, y5, y6, -, -, -, -, -⟩ := X2.out
    go_wp2_with fail
    refine (K2.out _ X2.out.mat X2.out.fl).mono ?_
    rintro e w3 ⟨rfl, b3⟩
    have X3 := Lib.hid (X2.out.later b3)
    clear b3 y0 y1 y2 y3 y4 y5 y6
    obtain ⟨y0, y1, y2, y3, y4, y5, y6, -, -, -, -, -⟩ := X3.out
    go_wp2_with fail
    refine (KH.out _).mono ?_
    rintro e w4 ⟨rfl, b4⟩
    have X4 := Lib.hid (X3.out.later b4)
    clear b4 y0 y1 y2 y3 y4 y5 y6
    obtain ⟨y0, y1, y2, y3, y4, y5, y6, -, -, -, -, -⟩ := X4.out
    go_wp2_with fail
    go_ret
    exact ⟨rfl, X4.out.below⟩
  subst z1
  by_cases z2 : zB = 0
  case neg =>
    have d1 : (zB != 0) = true := bne_iff_ne.2 z2
    unfold Sch.val at K1 K2
    clear hg g1 g2 g3 hS hfr hr40 hfl hl40 hzr hzl hcr hcl hA hB hAe hBe z2
    go_enter Try.func8, Try.ntmps8
    go_wp2_with fail
    refine (KG.out _ X0.out.mat X0.out.fr X0.out.fl).mono ?_
    rintro e w1 ⟨rfl, b1⟩
    have X1 := Lib.hid (X0.out.later b1)
    clear b1 y0 y1 y2 y3 y4 y5 y6
    obtain ⟨y0, y1, y2, y3, y4, y5, y6, -, -, -, -, -⟩ := X1.out
    go_wp2_with fail
    refine (K1.out _ X1.out.mat X1.out.fr).mono ?_
    rintro e w2 ⟨rfl, b2⟩
    have X2 := Lib.hid (X1.out.later b2)
    clear b2 y0 y1 y2 y3 y4 y5 y6
    obtain ⟨y0, y1, y2, y3, y4, y5, y6, -, -, -, -, -⟩ := X2.out
    go_wp2_with fail
    refine (K2.out _ X2.out.mat X2.out.fl).mono ?_
    rintro e w3 ⟨rfl, b3⟩
    have X3 := Lib.hid (X2.out.later b3)
    clear b3 y0 y1 y2 y3 y4 y5 y6
    obtain ⟨y0, y1, y2, y3, y4, y5, y6, -, -, -, -, -⟩ := X3.out
    go_wp2_with fail
    refine (KH.out _).mono ?_
    rintro e w4 ⟨rfl, b4⟩
    have X4 := Lib.hid (X3.out.later b4)
    clear b4 y0 y1 y2 y3 y4 y5 y6
    obtain ⟨y0, y1, y2, y3, y4, y5, y6, -, -, -, -, -⟩ := X4.out
    go_wp2_with fail
    go_ret
    exact ⟨rfl, X4.out.below⟩
  subst z2
  obtain ⟨ht, hrr⟩ := place_parts hA
  obtain ⟨-, hrl⟩ := place_parts hB
  have hlr : R.length = S.kinds.size := by have := hrr.1; simpa using this
  have hll : L.length = S.kinds.size := by have := hrl.1; simpa using this
  have hpl := places_len ht hS
  have hpk := places_len (there_key ht) hS
  obtain ⟨m, hm⟩ : ∃ m, s % ((pickL d0 L (placesF S n)).length + 1) = m := ⟨_, rfl⟩
  have hmq : m ≤ (pickL d0 L (placesF S n)).length := by have := Nat.mod_lt s (show 0 < (pickL d0 L (placesF S n)).length + 1 by omega); omega
  have hAd : A.data.toList = Al := by rw [← hAe]
  have hBd : B.data.toList = Bl := by rw [← hBe]
  obtain ⟨C, o1, o2, o3, o4⟩ := ord_of (S := S) (n := n) (R := R) (L := L) (A := A) (B := B) (fun f hf => (hzr f hf).1) (fun f hf => (hzl f hf).1) (by rw [hAd]; exact hA) (by rw [hBd]; exact hB) m hmq
  have inL : Fine (pickL d0 L (placesF S n)) := fun f hf => hfl f (pick_mem (by rw [hll]; exact places_in ht) f hf)
  have KT := Lib.hid (fun w h => there_c S n w a cap h hS)
  rw [ht] at KT
  have KF1 := Lib.hid (fun w h h2 => fieldscap_c S n w a cap ar cr R h h2 hS ht hlr d0)
  have KF2 := Lib.hid (fun w h h2 => fieldscap_c S n w a cap al cl L h h2 hS ht hll d0)
  have KF3 := Lib.hid (fun w h h2 => fieldscap_c S (-1) w a cap ar cr R h h2 hS (there_key ht) hlr d0)
  have KF4 := Lib.hid (fun w h h2 => fieldscap_c S (-1) w a cap al cl L h h2 hS (there_key ht) hll d0)
  have hlp : (pickL d0 R (placesF S n)).length ≤ 40 := by rw [pick_len]; exact hpl
  have hlq : (pickL d0 L (placesF S n)).length ≤ 40 := by rw [pick_len]; exact hpl
  have hlpk : (pickL d0 R (placesF S (-1))).length ≤ 40 := by rw [pick_len]; exact hpk
  have hlqk : (pickL d0 L (placesF S (-1))).length ≤ 40 := by rw [pick_len]; exact hpk
  have hpq : (pickL d0 R (placesF S n)).length = (pickL d0 L (placesF S n)).length := by rw [pick_len, pick_len]
  generalize pickL d0 R (placesF S n) = P at KF1 hlp hpq o1 o2 o3
  generalize pickL d0 L (placesF S n) = Q at KF2 hlq hpq hm hmq inL o1 o2 o3 o4
  generalize pickL d0 R (placesF S (-1)) = PK at KF3 hlpk o1 o2
  generalize pickL d0 L (placesF S (-1)) = QK at KF4 hlqk o1 o2
  have KC := Lib.hid (fun w a b ca cb h k => rcompare_c w a b ca cb P Q h k (by omega) (by omega))
  have KC2 := Lib.hid (fun w a b ca cb h k => rcompare_c w a b ca cb PK QK h k (by omega) (by omega))
  have hmt : (Q.take m).length = m := by rw [List.length_take]; omega
  have hmp : (P.take m).length = m := by rw [List.length_take]; omega
  have KB := Lib.hid (fun w a2 c2 h h2 => begin_c S n w a cap a2 c2 (Q.take m) h h2 (fine_take inL m) (by omega) hS)
  unfold BeginRes at KB
  rw [hmt, o4] at KB
  simp only [mk_data2] at KB
  have KS := Lib.hid (fun w a b ca cb h k => same_c w a b ca cb (P.take m) (Q.take m) h k (by omega) (by omega))
  rw [hmt, hmp] at KS
  generalize decide (P.take m = Q.take m) = d at KS o3
  have zd : (d == d) = true := by simp
  generalize cmpF P Q = p at KC o1 o2
  generalize cmpF PK QK = q at KC2 o1 o2
  have d1 : ((R.length : Int) != (S.kinds.size : Int)) = false := by rw [bne_eq_false_iff_eq]; omega
  have d2 : ((L.length : Int) != (S.kinds.size : Int)) = false := by rw [bne_eq_false_iff_eq]; omega
  have HMD := Lib.hid (show (s : Int) % ((Q.length : Int) + 1) = (m : Int) by have h := congrArg (fun k : Nat => (k : Int)) hm; simpa using h)
  have e1 : (m : Int) ≤ (Q.length : Int) := by omega
  have e0 : (0 : Int) ≤ (m : Int) := by omega
  have ep : (m : Int) ≤ (P.length : Int) := by omega
  have hq1 : ((Q.length : Int) + 1 == 0) = false := beq_eq_false_iff_ne.2 (by omega)
  have hq2 : (Q.length : Int) + 1 ≤ 41 := by omega
  have HPM := Lib.hid hmp
  unfold Sch.val at K1 K2 KT KF1 KF2 KF3 KF4 KB
  clear hg g1 g2 g3 hS hfr hr40 hfl hl40 hzr hzl hcr hcl hA hB hAe hBe ht hrr hrl hlr hll hpl hpk hm hmq hAd hBd o4 inL hlp hlpk hlqk hpq hmt hmp
  go_enter Try.func8, Try.ntmps8
  go_wp2_with fail
  refine (KG.out _ X0.out.mat X0.out.fr X0.out.fl).mono ?_
  rintro e w1 ⟨rfl, b1⟩
  have X1 := Lib.hid (X0.out.later b1)
  clear b1 y0 y1 y2 y3 y4 y5 y6
  obtain ⟨y0, y1, y2, y3, y4, y5, y6, -, -, -, -, -⟩ := X1.out
  go_wp2_with fail
  refine (K1.out _ X1.out.mat X1.out.fr).mono ?_
  rintro e w2 ⟨rfl, b2⟩
  have X2 := Lib.hid (X1.out.later b2)
  clear b2 y0 y1 y2 y3 y4 y5 y6
  obtain ⟨y0, y1, y2, y3, y4, y5, y6, -, -, -, -, -⟩ := X2.out
  go_wp2_with fail
  refine (K2.out _ X2.out.mat X2.out.fl).mono ?_
  rintro e w3 ⟨rfl, b3⟩
  have X3 := Lib.hid (X2.out.later b3)
  clear b3 y0 y1 y2 y3 y4 y5 y6
  obtain ⟨y0, y1, y2, y3, y4, y5, y6, -, -, -, -, -⟩ := X3.out
  go_wp2_with fail
  refine (KT.out _ X3.out.mat).mono ?_
  rintro e w4 ⟨rfl, b4⟩
  have X4 := Lib.hid (X3.out.later b4)
  clear b4 y0 y1 y2 y3 y4 y5 y6
  obtain ⟨y0, y1, y2, y3, y4, y5, y6, -, -, -, -, -⟩ := X4.out
  go_wp2_with fail
  go_upto_region 7 with (fail)
  go_cut [9, 10] (fun s9 s10 wx => ∃ a9 c9 a10 c10, s9 = .slice a9 P.length c9 ∧ s10 = .slice a10 Q.length c10 ∧ Fds wx a9 P ∧ Fds wx a10 Q ∧ P.length ≤ c9 ∧ Q.length ≤ c10 ∧ Rx w.heap.size S a cap n ar cr R al cl L w wx)
  case first =>
    clear y0 y1 y2 y3 y4 y5 y6
    go_region_held3 (fun u => u.cell? ⟨w.heap.size, 0, none⟩ = some (.string S.name) ∧ u.cell? ⟨w.heap.size, 1, none⟩ = some (.string S.kinds) ∧ u.cell? ⟨w.heap.size, 2, none⟩ = some (.int .i64 S.key) ∧ u.cell? ⟨w.heap.size, 3, none⟩ = some (.slice a S.idx.length cap) ∧ u.cell? ⟨w.heap.size, 4, none⟩ = some (.int .i64 n) ∧ u.cell? ⟨w.heap.size, 5, none⟩ = some (.slice ar R.length cr) ∧ u.cell? ⟨w.heap.size, 6, none⟩ = some (.slice al L.length cl) ∧ Rx w.heap.size S a cap n ar cr R al cl L w u)
      (first | exact Rx.pack X4.out | exact Rx.pack X4.out.drew | exact Rx.pack J2 | exact Rx.pack J1)
      (first | (have hq9 := F9.out; go_at_call 29; (try go_split_ands); refine (KF2.out _ (Rx.mat (by assumption)) (Rx.fl (by assumption))).mono ?_; rintro e u2 ⟨a10, c10, rfl, f10, hc10, b6⟩; have J2 := Rx.later (by assumption) b6; have F9' := Lib.hid (hq9.later b6); have F10 := Lib.hid f10; have HC10 := Lib.hid hc10; clear f10 hc10) | (go_at_call 29; (try go_split_ands); refine (KF1.out _ (Rx.mat (by assumption)) (Rx.fr (by assumption))).mono ?_; rintro e u1 ⟨a9, c9, rfl, f9, hc9, b5⟩; have J1 := Rx.later (by assumption) b5; have F9 := Lib.hid f9; have HC9 := Lib.hid hc9; clear f9 hc9))
    go_split_ands
    go_wp2_with fail
    go_meet
    exact ⟨a9, c9, a10, c10, rfl, rfl, F9'.out, F10.out, HC9.out, HC10.out, J2⟩
  obtain ⟨a9, c9, a10, c10, rfl, rfl, f9, f10, h9, h10, hx⟩ := hcut
  have X5 := Lib.hid hx
  have e9 : (m : Int) ≤ (c9 : Int) := by omega
  have e10 : (m : Int) ≤ (c10 : Int) := by omega
  have F9 := Lib.hid f9
  have F10 := Lib.hid f10
  clear hx f9 f10 y0 y1 y2 y3 y4 y5 y6
  obtain ⟨y0, y1, y2, y3, y4, y5, y6, -, -, -, -, -⟩ := X5.out
  go_wp2_with fail
  refine (KC.out _ _ _ _ _ F9.out F10.out).mono ?_
  rintro e w6 ⟨rfl, b6⟩
  have X6 := Lib.hid (X5.out.later b6)
  have F9b := Lib.hid (F9.out.later b6)
  have F10b := Lib.hid (F10.out.later b6)
  clear b6 y0 y1 y2 y3 y4 y5 y6
  obtain ⟨y0, y1, y2, y3, y4, y5, y6, -, -, -, -, -⟩ := X6.out
  rcases Int.lt_trichotomy p 0 with hp | hp | hp
  · have hp0 : p ≠ 0 := by omega
    rw [if_neg hp0] at o1 o2; rw [decide_eq_true hp] at o1
    rw [decide_eq_false hp0] at o2
    have c1 : (p == 0) = false := beq_eq_false_iff_ne.2 hp0
    have c2 : decide (p < 0) = true := decide_eq_true hp
    have T9 := F9b.out.tk m
    have T10 := F10b.out.tk m
    have XO := X6.out
    go_upto_region 14 with (fail)
    rw [HMD.out]
    go_region_held3 (fun u => Fds u a10 (Q.take m) ∧ Fds u a9 (P.take m) ∧ u.cell? ⟨w.heap.size, 0, none⟩ = some (.string S.name) ∧ u.cell? ⟨w.heap.size, 1, none⟩ = some (.string S.kinds) ∧ u.cell? ⟨w.heap.size, 2, none⟩ = some (.int .i64 S.key) ∧ u.cell? ⟨w.heap.size, 3, none⟩ = some (.slice a S.idx.length cap) ∧ u.cell? ⟨w.heap.size, 4, none⟩ = some (.int .i64 n) ∧ u.cell? ⟨w.heap.size, 5, none⟩ = some (.slice ar R.length cr) ∧ u.cell? ⟨w.heap.size, 6, none⟩ = some (.slice al L.length cl) ∧ Rx w.heap.size S a cap n ar cr R al cl L w u)
      (first | exact ⟨by assumption, by assumption, Rx.pack (by assumption)⟩ | exact ⟨fds_dr (by assumption), fds_dr (by assumption), Rx.pack (Rx.drew (by assumption))⟩)
      (first | (go_at_call 24; (try go_split_ands); refine (KB.out _ a10 c10 (Rx.mat (by assumption)) (by assumption)).mono ?_; rintro e u1 ⟨rfl, b1⟩; have J := Rx.later (by assumption) b1; have G10 : Fds u1 a10 (Q.take m) := Fds.later (by assumption) b1; have G9 : Fds u1 a9 (P.take m) := Fds.later (by assumption) b1))
    go_split_ands
    clear HMD
    by_cases hac : A.size < C.size
    · have hd : d = false := o3.symm.trans (beg_no hac)
      subst hd
      have v1 : ¬ (C.size : Int) ≤ (A.size : Int) := by omega
      go_wp2_with fail
      go_region_held3 (fun u => Fds u a10 (Q.take m) ∧ Fds u a9 (P.take m) ∧ u.cell? ⟨w.heap.size, 0, none⟩ = some (.string S.name) ∧ u.cell? ⟨w.heap.size, 1, none⟩ = some (.string S.kinds) ∧ u.cell? ⟨w.heap.size, 2, none⟩ = some (.int .i64 S.key) ∧ u.cell? ⟨w.heap.size, 3, none⟩ = some (.slice a S.idx.length cap) ∧ u.cell? ⟨w.heap.size, 4, none⟩ = some (.int .i64 n) ∧ u.cell? ⟨w.heap.size, 5, none⟩ = some (.slice ar R.length cr) ∧ u.cell? ⟨w.heap.size, 6, none⟩ = some (.slice al L.length cl) ∧ Rx w.heap.size S a cap n ar cr R al cl L w u)
        (first | exact ⟨by assumption, by assumption, Rx.pack (by assumption)⟩ | exact ⟨fds_dr (by assumption), fds_dr (by assumption), Rx.pack (Rx.drew (by assumption))⟩)
        (first | (go_at_call 15; (try go_split_ands); refine (KS.out _ a9 a10 c9 c10 (by assumption) (by assumption)).mono ?_; rintro e u2 ⟨rfl, b2⟩; have J := Rx.later (by assumption) b2; have G10 : Fds u2 a10 (Q.take m) := Fds.later (by assumption) b2; have G9 : Fds u2 a9 (P.take m) := Fds.later (by assumption) b2) | (go_at_call 10; (try go_split_ands); refine (KH.out _).mono ?_; rintro e u3 ⟨rfl, b3⟩; have J := Rx.later (by assumption) b3; have G10 : Fds u3 a10 (Q.take m) := Fds.later (by assumption) b3; have G9 : Fds u3 a9 (P.take m) := Fds.later (by assumption) b3))
      go_split_ands
      go_wp2_with fail
      go_ret
      exact ⟨rfl, Rx.below (by assumption)⟩
    · have hd : ((A.extract 0 C.size).toList == C.toList) = d := beg_yes.symm.trans o3
      have v1 : (C.size : Int) ≤ (A.size : Int) := by omega
      go_wp2_with fail
      go_region_held3 (fun u => Fds u a10 (Q.take m) ∧ Fds u a9 (P.take m) ∧ u.cell? ⟨w.heap.size, 0, none⟩ = some (.string S.name) ∧ u.cell? ⟨w.heap.size, 1, none⟩ = some (.string S.kinds) ∧ u.cell? ⟨w.heap.size, 2, none⟩ = some (.int .i64 S.key) ∧ u.cell? ⟨w.heap.size, 3, none⟩ = some (.slice a S.idx.length cap) ∧ u.cell? ⟨w.heap.size, 4, none⟩ = some (.int .i64 n) ∧ u.cell? ⟨w.heap.size, 5, none⟩ = some (.slice ar R.length cr) ∧ u.cell? ⟨w.heap.size, 6, none⟩ = some (.slice al L.length cl) ∧ Rx w.heap.size S a cap n ar cr R al cl L w u)
        (first | exact ⟨by assumption, by assumption, Rx.pack (by assumption)⟩ | exact ⟨fds_dr (by assumption), fds_dr (by assumption), Rx.pack (Rx.drew (by assumption))⟩)
        (first | (go_at_call 15; (try go_split_ands); refine (KS.out _ a9 a10 c9 c10 (by assumption) (by assumption)).mono ?_; rintro e u2 ⟨rfl, b2⟩; have J := Rx.later (by assumption) b2; have G10 : Fds u2 a10 (Q.take m) := Fds.later (by assumption) b2; have G9 : Fds u2 a9 (P.take m) := Fds.later (by assumption) b2) | (go_at_call 10; (try go_split_ands); refine (KH.out _).mono ?_; rintro e u3 ⟨rfl, b3⟩; have J := Rx.later (by assumption) b3; have G10 : Fds u3 a10 (Q.take m) := Fds.later (by assumption) b3; have G9 : Fds u3 a9 (P.take m) := Fds.later (by assumption) b3))
      go_split_ands
      go_wp2_with fail
      go_ret
      exact ⟨rfl, Rx.below (by assumption)⟩
  · subst hp
    rw [if_pos rfl] at o1 o2
    have G9 := F9b.out
    have G10 := F10b.out
    have XO := X6.out
    go_upto_region 10 with (fail)
    go_region_held3 (fun u => Fds u a10 (Q) ∧ Fds u a9 (P) ∧ u.cell? ⟨w.heap.size, 0, none⟩ = some (.string S.name) ∧ u.cell? ⟨w.heap.size, 1, none⟩ = some (.string S.kinds) ∧ u.cell? ⟨w.heap.size, 2, none⟩ = some (.int .i64 S.key) ∧ u.cell? ⟨w.heap.size, 3, none⟩ = some (.slice a S.idx.length cap) ∧ u.cell? ⟨w.heap.size, 4, none⟩ = some (.int .i64 n) ∧ u.cell? ⟨w.heap.size, 5, none⟩ = some (.slice ar R.length cr) ∧ u.cell? ⟨w.heap.size, 6, none⟩ = some (.slice al L.length cl) ∧ Rx w.heap.size S a cap n ar cr R al cl L w u)
      (first | exact ⟨by assumption, by assumption, Rx.pack (by assumption)⟩ | exact ⟨fds_dr (by assumption), fds_dr (by assumption), Rx.pack (Rx.drew (by assumption))⟩)
      (first | (go_at_call 30; (try go_split_ands); refine (KC2.out _ _ _ _ _ F11'.out F12.out).mono ?_; rintro e u3 ⟨rfl, b3⟩; have J := Rx.later (by assumption) b3; have G10 : Fds u3 a10 (Q) := Fds.later (by assumption) b3; have G9 : Fds u3 a9 (P) := Fds.later (by assumption) b3) | (have hq11 := F11.out; go_at_call 29; (try go_split_ands); refine (KF4.out _ (Rx.mat (by assumption)) (Rx.fl (by assumption))).mono ?_; rintro e u2 ⟨a12, c12, rfl, f12, hc12, b2⟩; have F11' := Lib.hid (hq11.later b2); have F12 := Lib.hid f12; clear f12 hc12; have J := Rx.later (by assumption) b2; have G10 : Fds u2 a10 (Q) := Fds.later (by assumption) b2; have G9 : Fds u2 a9 (P) := Fds.later (by assumption) b2) | (go_at_call 29; (try go_split_ands); refine (KF3.out _ (Rx.mat (by assumption)) (Rx.fr (by assumption))).mono ?_; rintro e u1 ⟨a11, c11, rfl, f11, hc11, b1⟩; have F11 := Lib.hid f11; clear f11 hc11; have J := Rx.later (by assumption) b1; have G10 : Fds u1 a10 (Q) := Fds.later (by assumption) b1; have G9 : Fds u1 a9 (P) := Fds.later (by assumption) b1))
    go_split_ands
    rcases Int.lt_trichotomy q 0 with hp | hp | hp
    · have hp0 : q ≠ 0 := by omega
      rw [decide_eq_true hp] at o1
      rw [decide_eq_false hp0] at o2
      have c1 : (q == 0) = false := beq_eq_false_iff_ne.2 hp0
      have c2 : decide (q < 0) = true := decide_eq_true hp
      have T9 := G9.tk m
      have T10 := G10.tk m
      go_upto_region 14 with (fail)
      rw [HMD.out]
      go_region_held3 (fun u => Fds u a10 (Q.take m) ∧ Fds u a9 (P.take m) ∧ u.cell? ⟨w.heap.size, 0, none⟩ = some (.string S.name) ∧ u.cell? ⟨w.heap.size, 1, none⟩ = some (.string S.kinds) ∧ u.cell? ⟨w.heap.size, 2, none⟩ = some (.int .i64 S.key) ∧ u.cell? ⟨w.heap.size, 3, none⟩ = some (.slice a S.idx.length cap) ∧ u.cell? ⟨w.heap.size, 4, none⟩ = some (.int .i64 n) ∧ u.cell? ⟨w.heap.size, 5, none⟩ = some (.slice ar R.length cr) ∧ u.cell? ⟨w.heap.size, 6, none⟩ = some (.slice al L.length cl) ∧ Rx w.heap.size S a cap n ar cr R al cl L w u)
        (first | exact ⟨by assumption, by assumption, Rx.pack (by assumption)⟩ | exact ⟨fds_dr (by assumption), fds_dr (by assumption), Rx.pack (Rx.drew (by assumption))⟩)
        (first | (go_at_call 24; (try go_split_ands); refine (KB.out _ a10 c10 (Rx.mat (by assumption)) (by assumption)).mono ?_; rintro e u1 ⟨rfl, b1⟩; have J := Rx.later (by assumption) b1; have G10 : Fds u1 a10 (Q.take m) := Fds.later (by assumption) b1; have G9 : Fds u1 a9 (P.take m) := Fds.later (by assumption) b1))
      go_split_ands
      clear HMD
      by_cases hac : A.size < C.size
      · have hd : d = false := o3.symm.trans (beg_no hac)
        subst hd
        have v1 : ¬ (C.size : Int) ≤ (A.size : Int) := by omega
        go_wp2_with fail
        go_region_held3 (fun u => Fds u a10 (Q.take m) ∧ Fds u a9 (P.take m) ∧ u.cell? ⟨w.heap.size, 0, none⟩ = some (.string S.name) ∧ u.cell? ⟨w.heap.size, 1, none⟩ = some (.string S.kinds) ∧ u.cell? ⟨w.heap.size, 2, none⟩ = some (.int .i64 S.key) ∧ u.cell? ⟨w.heap.size, 3, none⟩ = some (.slice a S.idx.length cap) ∧ u.cell? ⟨w.heap.size, 4, none⟩ = some (.int .i64 n) ∧ u.cell? ⟨w.heap.size, 5, none⟩ = some (.slice ar R.length cr) ∧ u.cell? ⟨w.heap.size, 6, none⟩ = some (.slice al L.length cl) ∧ Rx w.heap.size S a cap n ar cr R al cl L w u)
          (first | exact ⟨by assumption, by assumption, Rx.pack (by assumption)⟩ | exact ⟨fds_dr (by assumption), fds_dr (by assumption), Rx.pack (Rx.drew (by assumption))⟩)
          (first | (go_at_call 15; (try go_split_ands); refine (KS.out _ a9 a10 c9 c10 (by assumption) (by assumption)).mono ?_; rintro e u2 ⟨rfl, b2⟩; have J := Rx.later (by assumption) b2; have G10 : Fds u2 a10 (Q.take m) := Fds.later (by assumption) b2; have G9 : Fds u2 a9 (P.take m) := Fds.later (by assumption) b2) | (go_at_call 10; (try go_split_ands); refine (KH.out _).mono ?_; rintro e u3 ⟨rfl, b3⟩; have J := Rx.later (by assumption) b3; have G10 : Fds u3 a10 (Q.take m) := Fds.later (by assumption) b3; have G9 : Fds u3 a9 (P.take m) := Fds.later (by assumption) b3))
        go_split_ands
        go_wp2_with fail
        go_ret
        exact ⟨rfl, Rx.below (by assumption)⟩
      · have hd : ((A.extract 0 C.size).toList == C.toList) = d := beg_yes.symm.trans o3
        have v1 : (C.size : Int) ≤ (A.size : Int) := by omega
        go_wp2_with fail
        go_region_held3 (fun u => Fds u a10 (Q.take m) ∧ Fds u a9 (P.take m) ∧ u.cell? ⟨w.heap.size, 0, none⟩ = some (.string S.name) ∧ u.cell? ⟨w.heap.size, 1, none⟩ = some (.string S.kinds) ∧ u.cell? ⟨w.heap.size, 2, none⟩ = some (.int .i64 S.key) ∧ u.cell? ⟨w.heap.size, 3, none⟩ = some (.slice a S.idx.length cap) ∧ u.cell? ⟨w.heap.size, 4, none⟩ = some (.int .i64 n) ∧ u.cell? ⟨w.heap.size, 5, none⟩ = some (.slice ar R.length cr) ∧ u.cell? ⟨w.heap.size, 6, none⟩ = some (.slice al L.length cl) ∧ Rx w.heap.size S a cap n ar cr R al cl L w u)
          (first | exact ⟨by assumption, by assumption, Rx.pack (by assumption)⟩ | exact ⟨fds_dr (by assumption), fds_dr (by assumption), Rx.pack (Rx.drew (by assumption))⟩)
          (first | (go_at_call 15; (try go_split_ands); refine (KS.out _ a9 a10 c9 c10 (by assumption) (by assumption)).mono ?_; rintro e u2 ⟨rfl, b2⟩; have J := Rx.later (by assumption) b2; have G10 : Fds u2 a10 (Q.take m) := Fds.later (by assumption) b2; have G9 : Fds u2 a9 (P.take m) := Fds.later (by assumption) b2) | (go_at_call 10; (try go_split_ands); refine (KH.out _).mono ?_; rintro e u3 ⟨rfl, b3⟩; have J := Rx.later (by assumption) b3; have G10 : Fds u3 a10 (Q.take m) := Fds.later (by assumption) b3; have G9 : Fds u3 a9 (P.take m) := Fds.later (by assumption) b3))
        go_split_ands
        go_wp2_with fail
        go_ret
        exact ⟨rfl, Rx.below (by assumption)⟩
    · subst hp
      rw [decide_eq_false (Int.lt_irrefl 0)] at o1
      rw [decide_eq_true rfl] at o2
      have T9 := G9.tk m
      have T10 := G10.tk m
      go_upto_region 14 with (fail)
      rw [HMD.out]
      go_region_held3 (fun u => Fds u a10 (Q.take m) ∧ Fds u a9 (P.take m) ∧ u.cell? ⟨w.heap.size, 0, none⟩ = some (.string S.name) ∧ u.cell? ⟨w.heap.size, 1, none⟩ = some (.string S.kinds) ∧ u.cell? ⟨w.heap.size, 2, none⟩ = some (.int .i64 S.key) ∧ u.cell? ⟨w.heap.size, 3, none⟩ = some (.slice a S.idx.length cap) ∧ u.cell? ⟨w.heap.size, 4, none⟩ = some (.int .i64 n) ∧ u.cell? ⟨w.heap.size, 5, none⟩ = some (.slice ar R.length cr) ∧ u.cell? ⟨w.heap.size, 6, none⟩ = some (.slice al L.length cl) ∧ Rx w.heap.size S a cap n ar cr R al cl L w u)
        (first | exact ⟨by assumption, by assumption, Rx.pack (by assumption)⟩ | exact ⟨fds_dr (by assumption), fds_dr (by assumption), Rx.pack (Rx.drew (by assumption))⟩)
        (first | (go_at_call 24; (try go_split_ands); refine (KB.out _ a10 c10 (Rx.mat (by assumption)) (by assumption)).mono ?_; rintro e u1 ⟨rfl, b1⟩; have J := Rx.later (by assumption) b1; have G10 : Fds u1 a10 (Q.take m) := Fds.later (by assumption) b1; have G9 : Fds u1 a9 (P.take m) := Fds.later (by assumption) b1))
      go_split_ands
      clear HMD
      by_cases hac : A.size < C.size
      · have hd : d = false := o3.symm.trans (beg_no hac)
        subst hd
        have v1 : ¬ (C.size : Int) ≤ (A.size : Int) := by omega
        go_wp2_with fail
        go_region_held3 (fun u => Fds u a10 (Q.take m) ∧ Fds u a9 (P.take m) ∧ u.cell? ⟨w.heap.size, 0, none⟩ = some (.string S.name) ∧ u.cell? ⟨w.heap.size, 1, none⟩ = some (.string S.kinds) ∧ u.cell? ⟨w.heap.size, 2, none⟩ = some (.int .i64 S.key) ∧ u.cell? ⟨w.heap.size, 3, none⟩ = some (.slice a S.idx.length cap) ∧ u.cell? ⟨w.heap.size, 4, none⟩ = some (.int .i64 n) ∧ u.cell? ⟨w.heap.size, 5, none⟩ = some (.slice ar R.length cr) ∧ u.cell? ⟨w.heap.size, 6, none⟩ = some (.slice al L.length cl) ∧ Rx w.heap.size S a cap n ar cr R al cl L w u)
          (first | exact ⟨by assumption, by assumption, Rx.pack (by assumption)⟩ | exact ⟨fds_dr (by assumption), fds_dr (by assumption), Rx.pack (Rx.drew (by assumption))⟩)
          (first | (go_at_call 15; (try go_split_ands); refine (KS.out _ a9 a10 c9 c10 (by assumption) (by assumption)).mono ?_; rintro e u2 ⟨rfl, b2⟩; have J := Rx.later (by assumption) b2; have G10 : Fds u2 a10 (Q.take m) := Fds.later (by assumption) b2; have G9 : Fds u2 a9 (P.take m) := Fds.later (by assumption) b2) | (go_at_call 10; (try go_split_ands); refine (KH.out _).mono ?_; rintro e u3 ⟨rfl, b3⟩; have J := Rx.later (by assumption) b3; have G10 : Fds u3 a10 (Q.take m) := Fds.later (by assumption) b3; have G9 : Fds u3 a9 (P.take m) := Fds.later (by assumption) b3))
        go_split_ands
        go_wp2_with fail
        go_ret
        exact ⟨rfl, Rx.below (by assumption)⟩
      · have hd : ((A.extract 0 C.size).toList == C.toList) = d := beg_yes.symm.trans o3
        have v1 : (C.size : Int) ≤ (A.size : Int) := by omega
        go_wp2_with fail
        go_region_held3 (fun u => Fds u a10 (Q.take m) ∧ Fds u a9 (P.take m) ∧ u.cell? ⟨w.heap.size, 0, none⟩ = some (.string S.name) ∧ u.cell? ⟨w.heap.size, 1, none⟩ = some (.string S.kinds) ∧ u.cell? ⟨w.heap.size, 2, none⟩ = some (.int .i64 S.key) ∧ u.cell? ⟨w.heap.size, 3, none⟩ = some (.slice a S.idx.length cap) ∧ u.cell? ⟨w.heap.size, 4, none⟩ = some (.int .i64 n) ∧ u.cell? ⟨w.heap.size, 5, none⟩ = some (.slice ar R.length cr) ∧ u.cell? ⟨w.heap.size, 6, none⟩ = some (.slice al L.length cl) ∧ Rx w.heap.size S a cap n ar cr R al cl L w u)
          (first | exact ⟨by assumption, by assumption, Rx.pack (by assumption)⟩ | exact ⟨fds_dr (by assumption), fds_dr (by assumption), Rx.pack (Rx.drew (by assumption))⟩)
          (first | (go_at_call 15; (try go_split_ands); refine (KS.out _ a9 a10 c9 c10 (by assumption) (by assumption)).mono ?_; rintro e u2 ⟨rfl, b2⟩; have J := Rx.later (by assumption) b2; have G10 : Fds u2 a10 (Q.take m) := Fds.later (by assumption) b2; have G9 : Fds u2 a9 (P.take m) := Fds.later (by assumption) b2) | (go_at_call 10; (try go_split_ands); refine (KH.out _).mono ?_; rintro e u3 ⟨rfl, b3⟩; have J := Rx.later (by assumption) b3; have G10 : Fds u3 a10 (Q.take m) := Fds.later (by assumption) b3; have G9 : Fds u3 a9 (P.take m) := Fds.later (by assumption) b3))
        go_split_ands
        go_wp2_with fail
        go_ret
        exact ⟨rfl, Rx.below (by assumption)⟩
    · have hp0 : q ≠ 0 := by omega
      have hp1 : ¬ q < 0 := by omega
      rw [decide_eq_false hp1] at o1
      rw [decide_eq_false hp0] at o2
      have c1 : (q == 0) = false := beq_eq_false_iff_ne.2 hp0
      have c2 : decide (q < 0) = false := decide_eq_false hp1
      have T9 := G9.tk m
      have T10 := G10.tk m
      go_upto_region 14 with (fail)
      rw [HMD.out]
      go_region_held3 (fun u => Fds u a10 (Q.take m) ∧ Fds u a9 (P.take m) ∧ u.cell? ⟨w.heap.size, 0, none⟩ = some (.string S.name) ∧ u.cell? ⟨w.heap.size, 1, none⟩ = some (.string S.kinds) ∧ u.cell? ⟨w.heap.size, 2, none⟩ = some (.int .i64 S.key) ∧ u.cell? ⟨w.heap.size, 3, none⟩ = some (.slice a S.idx.length cap) ∧ u.cell? ⟨w.heap.size, 4, none⟩ = some (.int .i64 n) ∧ u.cell? ⟨w.heap.size, 5, none⟩ = some (.slice ar R.length cr) ∧ u.cell? ⟨w.heap.size, 6, none⟩ = some (.slice al L.length cl) ∧ Rx w.heap.size S a cap n ar cr R al cl L w u)
        (first | exact ⟨by assumption, by assumption, Rx.pack (by assumption)⟩ | exact ⟨fds_dr (by assumption), fds_dr (by assumption), Rx.pack (Rx.drew (by assumption))⟩)
        (first | (go_at_call 24; (try go_split_ands); refine (KB.out _ a10 c10 (Rx.mat (by assumption)) (by assumption)).mono ?_; rintro e u1 ⟨rfl, b1⟩; have J := Rx.later (by assumption) b1; have G10 : Fds u1 a10 (Q.take m) := Fds.later (by assumption) b1; have G9 : Fds u1 a9 (P.take m) := Fds.later (by assumption) b1))
      go_split_ands
      clear HMD
      by_cases hac : A.size < C.size
      · have hd : d = false := o3.symm.trans (beg_no hac)
        subst hd
        have v1 : ¬ (C.size : Int) ≤ (A.size : Int) := by omega
        go_wp2_with fail
        go_region_held3 (fun u => Fds u a10 (Q.take m) ∧ Fds u a9 (P.take m) ∧ u.cell? ⟨w.heap.size, 0, none⟩ = some (.string S.name) ∧ u.cell? ⟨w.heap.size, 1, none⟩ = some (.string S.kinds) ∧ u.cell? ⟨w.heap.size, 2, none⟩ = some (.int .i64 S.key) ∧ u.cell? ⟨w.heap.size, 3, none⟩ = some (.slice a S.idx.length cap) ∧ u.cell? ⟨w.heap.size, 4, none⟩ = some (.int .i64 n) ∧ u.cell? ⟨w.heap.size, 5, none⟩ = some (.slice ar R.length cr) ∧ u.cell? ⟨w.heap.size, 6, none⟩ = some (.slice al L.length cl) ∧ Rx w.heap.size S a cap n ar cr R al cl L w u)
          (first | exact ⟨by assumption, by assumption, Rx.pack (by assumption)⟩ | exact ⟨fds_dr (by assumption), fds_dr (by assumption), Rx.pack (Rx.drew (by assumption))⟩)
          (first | (go_at_call 15; (try go_split_ands); refine (KS.out _ a9 a10 c9 c10 (by assumption) (by assumption)).mono ?_; rintro e u2 ⟨rfl, b2⟩; have J := Rx.later (by assumption) b2; have G10 : Fds u2 a10 (Q.take m) := Fds.later (by assumption) b2; have G9 : Fds u2 a9 (P.take m) := Fds.later (by assumption) b2) | (go_at_call 10; (try go_split_ands); refine (KH.out _).mono ?_; rintro e u3 ⟨rfl, b3⟩; have J := Rx.later (by assumption) b3; have G10 : Fds u3 a10 (Q.take m) := Fds.later (by assumption) b3; have G9 : Fds u3 a9 (P.take m) := Fds.later (by assumption) b3))
        go_split_ands
        go_wp2_with fail
        go_ret
        exact ⟨rfl, Rx.below (by assumption)⟩
      · have hd : ((A.extract 0 C.size).toList == C.toList) = d := beg_yes.symm.trans o3
        have v1 : (C.size : Int) ≤ (A.size : Int) := by omega
        go_wp2_with fail
        go_region_held3 (fun u => Fds u a10 (Q.take m) ∧ Fds u a9 (P.take m) ∧ u.cell? ⟨w.heap.size, 0, none⟩ = some (.string S.name) ∧ u.cell? ⟨w.heap.size, 1, none⟩ = some (.string S.kinds) ∧ u.cell? ⟨w.heap.size, 2, none⟩ = some (.int .i64 S.key) ∧ u.cell? ⟨w.heap.size, 3, none⟩ = some (.slice a S.idx.length cap) ∧ u.cell? ⟨w.heap.size, 4, none⟩ = some (.int .i64 n) ∧ u.cell? ⟨w.heap.size, 5, none⟩ = some (.slice ar R.length cr) ∧ u.cell? ⟨w.heap.size, 6, none⟩ = some (.slice al L.length cl) ∧ Rx w.heap.size S a cap n ar cr R al cl L w u)
          (first | exact ⟨by assumption, by assumption, Rx.pack (by assumption)⟩ | exact ⟨fds_dr (by assumption), fds_dr (by assumption), Rx.pack (Rx.drew (by assumption))⟩)
          (first | (go_at_call 15; (try go_split_ands); refine (KS.out _ a9 a10 c9 c10 (by assumption) (by assumption)).mono ?_; rintro e u2 ⟨rfl, b2⟩; have J := Rx.later (by assumption) b2; have G10 : Fds u2 a10 (Q.take m) := Fds.later (by assumption) b2; have G9 : Fds u2 a9 (P.take m) := Fds.later (by assumption) b2) | (go_at_call 10; (try go_split_ands); refine (KH.out _).mono ?_; rintro e u3 ⟨rfl, b3⟩; have J := Rx.later (by assumption) b3; have G10 : Fds u3 a10 (Q.take m) := Fds.later (by assumption) b3; have G9 : Fds u3 a9 (P.take m) := Fds.later (by assumption) b3))
        go_split_ands
        go_wp2_with fail
        go_ret
        exact ⟨rfl, Rx.below (by assumption)⟩
  · have hp0 : p ≠ 0 := by omega
    have hp1 : ¬ p < 0 := by omega
    rw [if_neg hp0] at o1 o2; rw [decide_eq_false hp1] at o1
    rw [decide_eq_false hp0] at o2
    have c1 : (p == 0) = false := beq_eq_false_iff_ne.2 hp0
    have c2 : decide (p < 0) = false := decide_eq_false hp1
    have T9 := F9b.out.tk m
    have T10 := F10b.out.tk m
    have XO := X6.out
    go_upto_region 14 with (fail)
    rw [HMD.out]
    go_region_held3 (fun u => Fds u a10 (Q.take m) ∧ Fds u a9 (P.take m) ∧ u.cell? ⟨w.heap.size, 0, none⟩ = some (.string S.name) ∧ u.cell? ⟨w.heap.size, 1, none⟩ = some (.string S.kinds) ∧ u.cell? ⟨w.heap.size, 2, none⟩ = some (.int .i64 S.key) ∧ u.cell? ⟨w.heap.size, 3, none⟩ = some (.slice a S.idx.length cap) ∧ u.cell? ⟨w.heap.size, 4, none⟩ = some (.int .i64 n) ∧ u.cell? ⟨w.heap.size, 5, none⟩ = some (.slice ar R.length cr) ∧ u.cell? ⟨w.heap.size, 6, none⟩ = some (.slice al L.length cl) ∧ Rx w.heap.size S a cap n ar cr R al cl L w u)
      (first | exact ⟨by assumption, by assumption, Rx.pack (by assumption)⟩ | exact ⟨fds_dr (by assumption), fds_dr (by assumption), Rx.pack (Rx.drew (by assumption))⟩)
      (first | (go_at_call 24; (try go_split_ands); refine (KB.out _ a10 c10 (Rx.mat (by assumption)) (by assumption)).mono ?_; rintro e u1 ⟨rfl, b1⟩; have J := Rx.later (by assumption) b1; have G10 : Fds u1 a10 (Q.take m) := Fds.later (by assumption) b1; have G9 : Fds u1 a9 (P.take m) := Fds.later (by assumption) b1))
    go_split_ands
    clear HMD
    by_cases hac : A.size < C.size
    · have hd : d = false := o3.symm.trans (beg_no hac)
      subst hd
      have v1 : ¬ (C.size : Int) ≤ (A.size : Int) := by omega
      go_wp2_with fail
      go_region_held3 (fun u => Fds u a10 (Q.take m) ∧ Fds u a9 (P.take m) ∧ u.cell? ⟨w.heap.size, 0, none⟩ = some (.string S.name) ∧ u.cell? ⟨w.heap.size, 1, none⟩ = some (.string S.kinds) ∧ u.cell? ⟨w.heap.size, 2, none⟩ = some (.int .i64 S.key) ∧ u.cell? ⟨w.heap.size, 3, none⟩ = some (.slice a S.idx.length cap) ∧ u.cell? ⟨w.heap.size, 4, none⟩ = some (.int .i64 n) ∧ u.cell? ⟨w.heap.size, 5, none⟩ = some (.slice ar R.length cr) ∧ u.cell? ⟨w.heap.size, 6, none⟩ = some (.slice al L.length cl) ∧ Rx w.heap.size S a cap n ar cr R al cl L w u)
        (first | exact ⟨by assumption, by assumption, Rx.pack (by assumption)⟩ | exact ⟨fds_dr (by assumption), fds_dr (by assumption), Rx.pack (Rx.drew (by assumption))⟩)
        (first | (go_at_call 15; (try go_split_ands); refine (KS.out _ a9 a10 c9 c10 (by assumption) (by assumption)).mono ?_; rintro e u2 ⟨rfl, b2⟩; have J := Rx.later (by assumption) b2; have G10 : Fds u2 a10 (Q.take m) := Fds.later (by assumption) b2; have G9 : Fds u2 a9 (P.take m) := Fds.later (by assumption) b2) | (go_at_call 10; (try go_split_ands); refine (KH.out _).mono ?_; rintro e u3 ⟨rfl, b3⟩; have J := Rx.later (by assumption) b3; have G10 : Fds u3 a10 (Q.take m) := Fds.later (by assumption) b3; have G9 : Fds u3 a9 (P.take m) := Fds.later (by assumption) b3))
      go_split_ands
      go_wp2_with fail
      go_ret
      exact ⟨rfl, Rx.below (by assumption)⟩
    · have hd : ((A.extract 0 C.size).toList == C.toList) = d := beg_yes.symm.trans o3
      have v1 : (C.size : Int) ≤ (A.size : Int) := by omega
      go_wp2_with fail
      go_region_held3 (fun u => Fds u a10 (Q.take m) ∧ Fds u a9 (P.take m) ∧ u.cell? ⟨w.heap.size, 0, none⟩ = some (.string S.name) ∧ u.cell? ⟨w.heap.size, 1, none⟩ = some (.string S.kinds) ∧ u.cell? ⟨w.heap.size, 2, none⟩ = some (.int .i64 S.key) ∧ u.cell? ⟨w.heap.size, 3, none⟩ = some (.slice a S.idx.length cap) ∧ u.cell? ⟨w.heap.size, 4, none⟩ = some (.int .i64 n) ∧ u.cell? ⟨w.heap.size, 5, none⟩ = some (.slice ar R.length cr) ∧ u.cell? ⟨w.heap.size, 6, none⟩ = some (.slice al L.length cl) ∧ Rx w.heap.size S a cap n ar cr R al cl L w u)
        (first | exact ⟨by assumption, by assumption, Rx.pack (by assumption)⟩ | exact ⟨fds_dr (by assumption), fds_dr (by assumption), Rx.pack (Rx.drew (by assumption))⟩)
        (first | (go_at_call 15; (try go_split_ands); refine (KS.out _ a9 a10 c9 c10 (by assumption) (by assumption)).mono ?_; rintro e u2 ⟨rfl, b2⟩; have J := Rx.later (by assumption) b2; have G10 : Fds u2 a10 (Q.take m) := Fds.later (by assumption) b2; have G9 : Fds u2 a9 (P.take m) := Fds.later (by assumption) b2) | (go_at_call 10; (try go_split_ands); refine (KH.out _).mono ?_; rintro e u3 ⟨rfl, b3⟩; have J := Rx.later (by assumption) b3; have G10 : Fds u3 a10 (Q.take m) := Fds.later (by assumption) b3; have G9 : Fds u3 a9 (P.take m) := Fds.later (by assumption) b3))
      go_split_ands
      go_wp2_with fail
      go_ret
      exact ⟨rfl, Rx.below (by assumption)⟩
end Go.Proofs.Ytialjglgkfcdmaa.Or
