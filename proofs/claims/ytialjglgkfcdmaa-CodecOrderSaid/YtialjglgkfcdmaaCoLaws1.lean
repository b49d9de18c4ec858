/- Package codec: the laws of records' bytes. -/
import Derived.Test.YtialjglgkfcdmaaCoHead
import Derived.Test.YtialjglgkfcdmaaCoSmall
import Derived.Laws.Cover1
namespace Go.Proofs.Ytialjglgkfcdmaa.Or
open Go.RowKit
def Fd.Fits (f : Fd) : Prop := f.ok ∧ f.s.size ≤ maxLen
def FdsC (w : World) (cap : Nat) (a : Option Addr) (L : List Fd) : Prop := Fds w a L ∧ L.length ≤ cap
theorem fine_of {L : List Fd} (h : smallFB L = true) (hz : ∀ f ∈ L, Fd.Fits f) : Fine L ∧ L.length ≤ 40 := ⟨fun f hf => ⟨(hz f hf).1, by have := (smallF_of h).2 f hf; omega⟩, (smallF_of h).1⟩
theorem cput_is {K F : ByteArray} {w : World} {a : Option Addr} {cap : Nat} {L : List Fd} {z : Int} (hL : Fds w a L) (hf : Fine L) (hs : K.size ≤ 1000) (hl : L.length ≤ 1000) (hp : cput K.data.toList L = (F.data.toList, z)) :
    Calls Try.prog 11 #[.string K, .slice a L.length cap] w fun e w' => e = .returned (.tuple #[.string F, .int .i64 z]) ∧ Below w.heap.size w w' := by
  refine (codput_c K w a cap L hL hf hs hl).mono ?_
  rintro e w' ⟨rfl, hb⟩
  rw [hp]
  exact ⟨by simp only [mk_data2], hb⟩
theorem rcput_is {K F : ByteArray} {w : World} {a : Option Addr} {cap : Nat} {L : List Fd} {z : Int} (hL : Fds w a L) (hf : Fine L) (hs : K.size ≤ 1000) (hl : L.length ≤ 1000) (hp : cput K.data.toList L = (F.data.toList, z)) :
    Calls Try.prog 12 #[.string K, .slice a L.length cap] w fun e w' => e = .returned (.tuple #[.string F, .int .i64 z]) ∧ Below w.heap.size w w' := by
  refine (rcodput_c K w a cap L hL hf hs hl).mono ?_
  rintro e w' ⟨rfl, hb⟩
  rw [hp]
  exact ⟨by simp only [mk_data2], hb⟩
theorem cget_is {K F : ByteArray} {w : World} {L : List Fd} {z : Int} (hK : K.size ≤ 1000) (hF : F.size ≤ 100000) (hg : cget K.data.toList F.data.toList = (L, z)) :
    Calls Try.prog 13 #[.string K, .string F] w fun e w' => ∃ a cap, e = .returned (.tuple #[.slice a L.length cap, .int .i64 z]) ∧ Fds w' a L ∧ Below w.heap.size w w' := by
  have h := codget_c K F w hK hF
  unfold CGetRes at h
  rwa [hg] at h
theorem rcget_is {K F : ByteArray} {w : World} {L : List Fd} {z : Int} (hK : K.size ≤ 1000) (hF : F.size ≤ 100000) (hg : cget K.data.toList F.data.toList = (L, z)) :
    Calls Try.prog 14 #[.string K, .string F] w fun e w' => ∃ a cap, e = .returned (.tuple #[.slice a L.length cap, .int .i64 z]) ∧ Fds w' a L ∧ Below w.heap.size w w' := by
  have h := rcodget_c K F w hK hF
  unfold CGetRes at h
  rwa [hg] at h
theorem csame_is (w : World) (a b : Option Addr) (ca cb : Nat) (L : List Fd) (hL : Fds w a L) (hM : Fds w b L) (hl : L.length ≤ 1000) : Calls Try.prog 15 #[.slice a L.length ca, .slice b L.length cb] w fun e w' => e = .returned (.bool true) ∧ Below w.heap.size w w' := by
  have k := same_c w a b ca cb L L hL hM (by omega) (by omega)
  rwa [decide_eq_true rfl] at k
theorem cput_cases (K : List UInt8) (L : List Fd) (hok : Fine L) : (∃ B : ByteArray, cput K L = (B.data.toList, 0) ∧ B.size ≤ 8192 ∧ cget K B.data.toList = (L, 0)) ∨ (∃ (B : ByteArray) (z : Int), cput K L = (B.data.toList, z) ∧ (z == 0) = false) := by
  obtain ⟨⟨x, z⟩, h⟩ : ∃ r, cput K L = r := ⟨_, rfl⟩
  have hk : ∀ f ∈ L, f.ok ∧ f.s.size < 18446744073709551616 := fun f hf => ⟨(hok f hf).1, by have := (hok f hf).2; omega⟩
  by_cases hz : z = 0
  · subst hz
    exact .inl ⟨⟨x.toArray⟩, h, (cput_good hk h).2.2, cget_of_cput hk h⟩
  · exact .inr ⟨⟨x.toArray⟩, z, h, beq_eq_false_iff_ne.2 hz⟩
theorem cget_fine {K B : List UInt8} {L : List Fd} (h : GoodR K L B) (hk : kindsB K = true) (hB : B.length ≤ 9000) : Fine L ∧ L.length ≤ 16 := by
  have hs : ∀ (K : List UInt8) (L : List Fd) (B : List UInt8), GoodR K L B → (∀ c ∈ K, Letter c) → ∀ f ∈ L, f.s.size ≤ B.length := by
    intro K
    induction K with
    | nil => intro L B h _ f hf; have := h.len; simp at this; subst this; simp at hf
    | cons c K ih =>
      intro L B h hl f hf
      cases L with
      | nil => simp at hf
      | cons g L =>
        have he := h.enc
        rw [recAll] at he
        have hfit : fitsB c g = true := h.fits 0 (by simp)
        rcases List.mem_cons.1 hf with rfl | hf
        · have ht := takeC_whole (recAll K L) (hl c (by simp)) hfit (h.ok f (by simp)).1 (h.ok f (by simp)).2
          have := (takeC_sound (hl c (by simp)) ht).2.2.2.2
          rw [he] at this
          exact this
        · have := ih L (recAll K L) ⟨by have := h.len; simpa using this, fun j hj => h.fits (j + 1) (by simpa using hj), fun g hg => h.ok g (by simp [hg]), rfl⟩ (fun d hd => hl d (by simp [hd])) f hf
          rw [← he, List.length_append]; omega
  have hl := h.len
  have hk2 := hk
  unfold kindsB at hk2
  simp only [Bool.and_eq_true, decide_eq_true_eq] at hk2
  exact ⟨fun f hf => ⟨(h.ok f hf).1, by have := hs K L B h (kinds_letters hk) f hf; omega⟩, by omega⟩
set_option maxRecDepth 100000 in
set_option maxHeartbeats 3200000 in
theorem codputs_law (K : ByteArray) (w : World) (a : Option Addr) (cap : Nat) (L : List Fd) (hL : Fds w a L) (hK : K.size ≤ maxLen) (hl : L.length ≤ maxLen) (hz : ∀ f ∈ L, Fd.Fits f) :
    Calls Try.prog 3 #[.string K, .slice a L.length cap] w fun e w' => e = .returned (.bool true) ∧ Below w.heap.size w w' := by
  have KH := Lib.hid codhead_c
  have KS := Lib.hid (fun w h => smallF_c w a cap L h hl (fun f hf => (hz f hf).2))
  have L0 := Lib.hid hL
  unfold maxLen at hK hl
  clear hL
  by_cases h1 : 40 < K.size
  · have q : (40 : Int) < (K.size : Int) := by omega
    clear h1
    go_enter Try.func3, Try.ntmps3
    go_wp2_with fail
    refine (KH.out _).mono ?_
    rintro e w9 ⟨rfl, b9⟩
    have B9 := Lib.hid (b9)
    clear b9
    go_wp2_with fail
    go_ret
    exact ⟨rfl, B9.out⟩
  have q : ¬ (40 : Int) < (K.size : Int) := by omega
  cases hs : smallFB L with
  | false =>
    rw [hs] at KS
    clear hs h1 hz
    go_enter Try.func3, Try.ntmps3
    go_wp2_with fail
    refine (KS.out _ L0.out).mono ?_
    rintro e w1 ⟨rfl, b1⟩
    have B1 := Lib.hid (b1)
    have L1 := Lib.hid (L0.out.later b1)
    clear b1
    go_wp2_with fail
    refine (KH.out _).mono ?_
    rintro e w9 ⟨rfl, b9⟩
    have B9 := Lib.hid (below_then B1.out b9)
    clear b9
    go_wp2_with fail
    go_ret
    exact ⟨rfl, B9.out⟩
  | true =>
  rw [hs] at KS
  obtain ⟨hf, h40⟩ := fine_of hs hz
  obtain ⟨F, z, hp⟩ : ∃ (F : ByteArray) (z : Int), cput K.data.toList L = (F.data.toList, z) := ⟨⟨(cput K.data.toList L).1.toArray⟩, _, rfl⟩
  have K1 := Lib.hid (fun w h => cput_is (cap := cap) (a := a) (w := w) h hf (show K.size ≤ 1000 by omega) (by omega) hp)
  have K2 := Lib.hid (fun w h => rcput_is (cap := cap) (a := a) (w := w) h hf (show K.size ≤ 1000 by omega) (by omega) hp)
  have zf : (F.toList == F.toList) = true := by simp
  have zz : (z == z) = true := by simp
  clear hs h1 hz hf h40 hp
  go_enter Try.func3, Try.ntmps3
  go_wp2_with fail
  refine (KS.out _ L0.out).mono ?_
  rintro e w1 ⟨rfl, b1⟩
  have B1 := Lib.hid (b1)
  have L1 := Lib.hid (L0.out.later b1)
  clear b1
  go_wp2_with fail
  refine (K1.out _ L1.out).mono ?_
  rintro e w2 ⟨rfl, b2⟩
  have B2 := Lib.hid (below_then B1.out b2)
  have L2 := Lib.hid (L1.out.later b2)
  clear b2
  go_wp2_with fail
  refine (K2.out _ L2.out).mono ?_
  rintro e w3 ⟨rfl, b3⟩
  have B3 := Lib.hid (below_then B2.out b3)
  clear b3
  go_wp2_with fail
  refine (KH.out _).mono ?_
  rintro e w9 ⟨rfl, b9⟩
  have B9 := Lib.hid (below_then B3.out b9)
  clear b9
  go_wp2_with fail
  go_ret
  exact ⟨rfl, B9.out⟩
set_option maxRecDepth 100000 in
set_option maxHeartbeats 3200000 in
theorem codgets_law (K F : ByteArray) (w : World) (hK : K.size ≤ maxLen) (hF : F.size ≤ maxLen) : Calls Try.prog 4 #[.string K, .string F] w fun e w' => e = .returned (.bool true) ∧ Below w.heap.size w w' := by
  have KH := Lib.hid codhead_c
  unfold maxLen at hK hF
  by_cases h1 : 40 < K.size
  · have q : (40 : Int) < (K.size : Int) := by omega
    clear h1
    go_enter Try.func4, Try.ntmps4
    go_wp2_with fail
    refine (KH.out _).mono ?_
    rintro e w9 ⟨rfl, b9⟩
    have B9 := Lib.hid (b9)
    clear b9
    go_wp2_with fail
    go_ret
    exact ⟨rfl, B9.out⟩
  have q : ¬ (40 : Int) < (K.size : Int) := by omega
  by_cases h2 : 9000 < F.size
  · have q2 : (9000 : Int) < (F.size : Int) := by omega
    clear h1 h2
    go_enter Try.func4, Try.ntmps4
    go_wp2_with fail
    refine (KH.out _).mono ?_
    rintro e w9 ⟨rfl, b9⟩
    have B9 := Lib.hid (b9)
    clear b9
    go_wp2_with fail
    go_ret
    exact ⟨rfl, B9.out⟩
  have q2 : ¬ (9000 : Int) < (F.size : Int) := by omega
  obtain ⟨L, z, hg, hl⟩ : ∃ L z, cget K.data.toList F.data.toList = (L, z) ∧ L.length ≤ 1000 := by
    rcases cget_cases K.data.toList F.data.toList with ⟨L, h, hp, hg, hk⟩ | ⟨z, h, _⟩
    · exact ⟨L, 0, h, by have := (cget_fine hg hk (by simp; omega)).2; omega⟩
    · exact ⟨[], z, h, by simp⟩
  have K1 := Lib.hid (fun w => cget_is (w := w) (show K.size ≤ 1000 by omega) (show F.size ≤ 100000 by omega) hg)
  have K2 := Lib.hid (fun w => rcget_is (w := w) (show K.size ≤ 1000 by omega) (show F.size ≤ 100000 by omega) hg)
  have KS := Lib.hid (fun w a b ca cb h k => csame_is w a b ca cb L h k hl)
  have zz : (z == z) = true := by simp
  clear h1 h2 hg hl
  go_enter Try.func4, Try.ntmps4
  go_wp2_with fail
  refine (K1.out _).mono ?_
  rintro e w1 ⟨a1, c1, rfl, f1, b1⟩
  have B1 := Lib.hid (b1)
  have L1 := Lib.hid f1
  clear f1
  clear b1
  go_wp2_with fail
  refine (K2.out _).mono ?_
  rintro e w2 ⟨a2, c2, rfl, f2, b2⟩
  have B2 := Lib.hid (below_then B1.out b2)
  have L2 := Lib.hid (L1.out.later b2)
  have M2 := Lib.hid f2
  clear f2
  clear b2
  go_wp2_with fail
  refine (KS.out _ _ _ _ _ L2.out M2.out).mono ?_
  rintro e w3 ⟨rfl, b3⟩
  have B3 := Lib.hid (below_then B2.out b3)
  clear b3
  go_wp2_with fail
  refine (KH.out _).mono ?_
  rintro e w9 ⟨rfl, b9⟩
  have B9 := Lib.hid (below_then B3.out b9)
  clear b9
  go_wp2_with fail
  go_ret
  exact ⟨rfl, B9.out⟩
set_option maxRecDepth 100000 in
set_option maxHeartbeats 6400000 in
theorem codback_law (K F : ByteArray) (w : World) (a : Option Addr) (cap : Nat) (L : List Fd) (hL : Fds w a L) (hK : K.size ≤ maxLen) (hF : F.size ≤ maxLen) (hl : L.length ≤ maxLen) (hz : ∀ f ∈ L, Fd.Fits f) :
    Calls Try.prog 5 #[.string K, .slice a L.length cap, .string F] w fun e w' => e = .returned (.bool true) ∧ Below w.heap.size w w' := by
  have KH := Lib.hid codhead_c
  have KS := Lib.hid (fun w h => smallF_c w a cap L h hl (fun f hf => (hz f hf).2))
  have L0 := Lib.hid hL
  unfold maxLen at hK hl hF
  clear hL
  by_cases h1 : 40 < K.size
  · have q : (40 : Int) < (K.size : Int) := by omega
    clear h1
    go_enter Try.func5, Try.ntmps5
    go_wp2_with fail
    refine (KH.out _).mono ?_
    rintro e w9 ⟨rfl, b9⟩
    have B9 := Lib.hid (b9)
    clear b9
    go_wp2_with fail
    go_ret
    exact ⟨rfl, B9.out⟩
  have q : ¬ (40 : Int) < (K.size : Int) := by omega
  cases hs : smallFB L with
  | false =>
    rw [hs] at KS
    clear hs h1 hz
    go_enter Try.func5, Try.ntmps5
    go_wp2_with fail
    refine (KS.out _ L0.out).mono ?_
    rintro e w1 ⟨rfl, b1⟩
    have B1 := Lib.hid (b1)
    have L1 := Lib.hid (L0.out.later b1)
    clear b1
    go_wp2_with fail
    refine (KH.out _).mono ?_
    rintro e w9 ⟨rfl, b9⟩
    have B9 := Lib.hid (below_then B1.out b9)
    clear b9
    go_wp2_with fail
    go_ret
    exact ⟨rfl, B9.out⟩
  | true =>
  rw [hs] at KS
  by_cases h2 : 9000 < F.size
  · have q2 : (9000 : Int) < (F.size : Int) := by omega
    clear hs h1 h2 hz
    go_enter Try.func5, Try.ntmps5
    go_wp2_with fail
    refine (KS.out _ L0.out).mono ?_
    rintro e w1 ⟨rfl, b1⟩
    have B1 := Lib.hid (b1)
    have L1 := Lib.hid (L0.out.later b1)
    clear b1
    go_wp2_with fail
    refine (KH.out _).mono ?_
    rintro e w9 ⟨rfl, b9⟩
    have B9 := Lib.hid (below_then B1.out b9)
    clear b9
    go_wp2_with fail
    go_ret
    exact ⟨rfl, B9.out⟩
  have q2 : ¬ (9000 : Int) < (F.size : Int) := by omega
  obtain ⟨hf, h40⟩ := fine_of hs hz
  rcases cput_cases K.data.toList L hf with ⟨B, hp, hB, hgb⟩ | ⟨B, z, hp, hz0⟩
  · have K1 := Lib.hid (fun w h => cput_is (cap := cap) (a := a) (w := w) h hf (show K.size ≤ 1000 by omega) (by omega) hp)
    have K2 := Lib.hid (fun w => cget_is (K := K) (F := B) (w := w) (by omega) (by omega) hgb)
    have K3 := Lib.hid (fun w a b ca cb h k => csame_is w a b ca cb L h k (by omega))
    rcases cget_cases K.data.toList F.data.toList with ⟨M, hg, hpm, hgm, hkm⟩ | ⟨q9, hg, hq9⟩
    · obtain ⟨hfM, hM16⟩ := cget_fine hgm hkm (by simp; omega)
      have K4 := Lib.hid (fun w => cget_is (K := K) (F := F) (w := w) (by omega) (by omega) hg)
      have K5 := Lib.hid (fun w a cap h => cput_is (K := K) (F := F) (cap := cap) (a := a) (w := w) h hfM (by omega) (by omega) hpm)
      have zF : (F.toList == F.toList) = true := by simp
      clear hg hgm hpm hkm hfM hM16
      clear hs h1 h2 hz hf h40 hp hB hgb
      go_enter Try.func5, Try.ntmps5
      go_wp2_with fail
      refine (KS.out _ L0.out).mono ?_
      rintro e w1 ⟨rfl, b1⟩
      have B1 := Lib.hid (b1)
      have L1 := Lib.hid (L0.out.later b1)
      clear b1
      go_wp2_with fail
      refine (K1.out _ L1.out).mono ?_
      rintro e w2 ⟨rfl, b2⟩
      have B2 := Lib.hid (below_then B1.out b2)
      have L2 := Lib.hid (L1.out.later b2)
      clear b2
      go_wp2_with fail
      refine (K2.out _).mono ?_
      rintro e w3 ⟨a3, c3, rfl, f3, b3⟩
      have B3 := Lib.hid (below_then B2.out b3)
      have L3 := Lib.hid (L2.out.later b3)
      have M3 := Lib.hid f3
      clear f3
      clear b3
      go_wp2_with fail
      refine (K3.out _ _ _ _ _ M3.out L3.out).mono ?_
      rintro e w4 ⟨rfl, b4⟩
      have B4 := Lib.hid (below_then B3.out b4)
      clear b4
      go_wp2_with fail
      refine (K4.out _).mono ?_
      rintro e w5 ⟨a5, c5, rfl, f5, b5⟩
      have B5 := Lib.hid (below_then B4.out b5)
      have M5 := Lib.hid f5
      clear f5
      clear b5
      go_wp2_with fail
      refine (K5.out _ _ _ M5.out).mono ?_
      rintro e w6 ⟨rfl, b6⟩
      have B6 := Lib.hid (below_then B5.out b6)
      clear b6
      go_wp2_with fail
      refine (KH.out _).mono ?_
      rintro e w9 ⟨rfl, b9⟩
      have B9 := Lib.hid (below_then B6.out b9)
      clear b9
      go_wp2_with fail
      go_ret
      exact ⟨rfl, B9.out⟩
    · have K4 := Lib.hid (fun w => cget_is (K := K) (F := F) (w := w) (by omega) (by omega) hg)
      have zq : (q9 != 0) = true := by simpa using hq9
      clear hg
      clear hs h1 h2 hz hf h40 hp hB hgb
      go_enter Try.func5, Try.ntmps5
      go_wp2_with fail
      refine (KS.out _ L0.out).mono ?_
      rintro e w1 ⟨rfl, b1⟩
      have B1 := Lib.hid (b1)
      have L1 := Lib.hid (L0.out.later b1)
      clear b1
      go_wp2_with fail
      refine (K1.out _ L1.out).mono ?_
      rintro e w2 ⟨rfl, b2⟩
      have B2 := Lib.hid (below_then B1.out b2)
      have L2 := Lib.hid (L1.out.later b2)
      clear b2
      go_wp2_with fail
      refine (K2.out _).mono ?_
      rintro e w3 ⟨a3, c3, rfl, f3, b3⟩
      have B3 := Lib.hid (below_then B2.out b3)
      have L3 := Lib.hid (L2.out.later b3)
      have M3 := Lib.hid f3
      clear f3
      clear b3
      go_wp2_with fail
      refine (K3.out _ _ _ _ _ M3.out L3.out).mono ?_
      rintro e w4 ⟨rfl, b4⟩
      have B4 := Lib.hid (below_then B3.out b4)
      clear b4
      go_wp2_with fail
      refine (K4.out _).mono ?_
      rintro e w5 ⟨a5, c5, rfl, f5, b5⟩
      have B5 := Lib.hid (below_then B4.out b5)
      clear f5
      clear b5
      go_wp2_with fail
      refine (KH.out _).mono ?_
      rintro e w9 ⟨rfl, b9⟩
      have B9 := Lib.hid (below_then B5.out b9)
      clear b9
      go_wp2_with fail
      go_ret
      exact ⟨rfl, B9.out⟩
  · have K1 := Lib.hid (fun w h => cput_is (cap := cap) (a := a) (w := w) h hf (show K.size ≤ 1000 by omega) (by omega) hp)
    rcases cget_cases K.data.toList F.data.toList with ⟨M, hg, hpm, hgm, hkm⟩ | ⟨q9, hg, hq9⟩
    · obtain ⟨hfM, hM16⟩ := cget_fine hgm hkm (by simp; omega)
      have K4 := Lib.hid (fun w => cget_is (K := K) (F := F) (w := w) (by omega) (by omega) hg)
      have K5 := Lib.hid (fun w a cap h => cput_is (K := K) (F := F) (cap := cap) (a := a) (w := w) h hfM (by omega) (by omega) hpm)
      have zF : (F.toList == F.toList) = true := by simp
      clear hg hgm hpm hkm hfM hM16
      clear hs h1 h2 hz hf h40 hp 
      go_enter Try.func5, Try.ntmps5
      go_wp2_with fail
      refine (KS.out _ L0.out).mono ?_
      rintro e w1 ⟨rfl, b1⟩
      have B1 := Lib.hid (b1)
      have L1 := Lib.hid (L0.out.later b1)
      clear b1
      go_wp2_with fail
      refine (K1.out _ L1.out).mono ?_
      rintro e w2 ⟨rfl, b2⟩
      have B2 := Lib.hid (below_then B1.out b2)
      have L2 := Lib.hid (L1.out.later b2)
      clear b2
      go_wp2_with fail
      refine (K4.out _).mono ?_
      rintro e w3 ⟨a5, c5, rfl, f5, b3⟩
      have B3 := Lib.hid (below_then B2.out b3)
      have M5 := Lib.hid f5
      clear f5
      clear b3
      go_wp2_with fail
      refine (K5.out _ _ _ M5.out).mono ?_
      rintro e w4 ⟨rfl, b4⟩
      have B4 := Lib.hid (below_then B3.out b4)
      clear b4
      go_wp2_with fail
      refine (KH.out _).mono ?_
      rintro e w9 ⟨rfl, b9⟩
      have B9 := Lib.hid (below_then B4.out b9)
      clear b9
      go_wp2_with fail
      go_ret
      exact ⟨rfl, B9.out⟩
    · have K4 := Lib.hid (fun w => cget_is (K := K) (F := F) (w := w) (by omega) (by omega) hg)
      have zq : (q9 != 0) = true := by simpa using hq9
      clear hg
      clear hs h1 h2 hz hf h40 hp 
      go_enter Try.func5, Try.ntmps5
      go_wp2_with fail
      refine (KS.out _ L0.out).mono ?_
      rintro e w1 ⟨rfl, b1⟩
      have B1 := Lib.hid (b1)
      have L1 := Lib.hid (L0.out.later b1)
      clear b1
      go_wp2_with fail
      refine (K1.out _ L1.out).mono ?_
      rintro e w2 ⟨rfl, b2⟩
      have B2 := Lib.hid (below_then B1.out b2)
      have L2 := Lib.hid (L1.out.later b2)
      clear b2
      go_wp2_with fail
      refine (K4.out _).mono ?_
      rintro e w3 ⟨a5, c5, rfl, f5, b3⟩
      have B3 := Lib.hid (below_then B2.out b3)
      clear f5
      clear b3
      go_wp2_with fail
      refine (KH.out _).mono ?_
      rintro e w9 ⟨rfl, b9⟩
      have B9 := Lib.hid (below_then B3.out b9)
      clear b9
      go_wp2_with fail
      go_ret
      exact ⟨rfl, B9.out⟩
end Go.Proofs.Ytialjglgkfcdmaa.Or
