/- Package order: the laws of what is got back, and of the order of keys. -/
import Derived.Test.YtoicnpekbpphjaaOrLaws2
namespace Go.Proofs.Ytoicnpekbpphjaa.Or
open Go.RowKit
theorem put_is {K F : ByteArray} {w : World} {a : Option Addr} {cap : Nat} {L : List Fd} {z : Int} (hL : Fds w a L) (hf : Fine L) (hs : K.size ≤ 1000) (hl : L.length ≤ 1000) (hp : putF K.data.toList L = (F.data.toList, z)) :
    Calls Try.prog 10 #[.string K, .slice a L.length cap] w fun e w' => e = .returned (.tuple #[.string F, .int .i64 z]) ∧ Below w.heap.size w w' := by
  refine (put_c K w a cap L hL hf (by omega) (by omega)).mono ?_
  rintro e w' ⟨rfl, hb⟩
  rw [hp]
  exact ⟨by simp only [mk_data], hb⟩
theorem get_is {K F : ByteArray} {w : World} {L : List Fd} {z : Int} (hK : K.size ≤ 1000) (hF : F.size ≤ 100000) (hg : getF K.data.toList F.data.toList = (L, z)) :
    Calls Try.prog 16 #[.string K, .string F] w fun e w' => ∃ a cap, e = .returned (.tuple #[.slice a L.length cap, .int .i64 z]) ∧ Fds w' a L ∧ Below w.heap.size w w' := by
  have h := pget_c K F w hK hF
  unfold GetRes at h
  rwa [hg] at h
theorem same_is (w : World) (a b : Option Addr) (ca cb : Nat) (L : List Fd) (hL : Fds w a L) (hM : Fds w b L) (hl : L.length ≤ 1000) : Calls Try.prog 18 #[.slice a L.length ca, .slice b L.length cb] w fun e w' => e = .returned (.bool true) ∧ Below w.heap.size w w' := by
  have k := same_c w a b ca cb L L hL hM (by omega) (by omega)
  rwa [decide_eq_true rfl] at k
theorem put_cases (K : List UInt8) (L : List Fd) (hok : ∀ f ∈ L, f.ok) : (∃ B : ByteArray, putF K L = (B.data.toList, 0) ∧ B.size ≤ 1024 ∧ getF K B.data.toList = (L, 0)) ∨ (∃ (B : ByteArray) (z : Int), putF K L = (B.data.toList, z) ∧ (z == 0) = false) := by
  obtain ⟨⟨x, z⟩, h⟩ : ∃ r, putF K L = r := ⟨_, rfl⟩
  by_cases hz : z = 0
  · subst hz
    exact .inl ⟨⟨x.toArray⟩, h, (put_good hok h).2.2.2, get_of_put hok h⟩
  · exact .inr ⟨⟨x.toArray⟩, z, h, beq_eq_false_iff_ne.2 hz⟩
set_option maxRecDepth 100000 in
set_option maxHeartbeats 3200000 in
theorem back_law (K F : ByteArray) (w : World) (a : Option Addr) (cap : Nat) (L : List Fd) (hL : Fds w a L) (hK : K.size ≤ maxLen) (hF : F.size ≤ maxLen) (hl : L.length ≤ maxLen) (hz : ∀ f ∈ L, Fd.Fits f) :
    Calls Try.prog 5 #[.agg #[.string K, .slice a L.length cap], .string F] w fun e w' => e = .returned (.bool true) ∧ Below w.heap.size w w' := by
  have KH := Lib.hid head_c
  unfold maxLen at hK hl hF
  have hz2 : ∀ f ∈ L, f.s.size ≤ 9223372036854775807 := fun f hf => (hz f hf).2
  have KG := Lib.hid (fun w h => great_c K w a cap L h hl hK hz2)
  have Y0 := Lib.hid (ky_new w K a L.length cap L hL 24)
  obtain ⟨y0, y1, y2, y3, y4⟩ := Y0.out
  cases hg : greatB K L with
  | true =>
    rw [hg] at KG
    clear hg hz hz2 hL hK hl hF
    go_enter Try.func5, Try.ntmps5
    go_wp2_with fail
    refine (KG.out _ Y0.out.fds).mono ?_
    rintro e w1 ⟨rfl, b1⟩
    have Y1 := Lib.hid (Y0.out.later b1)
    clear b1 y0 y1 y2 y3 y4
    obtain ⟨y0, y1, -, -, -⟩ := Y1.out
    go_wp2_with fail
    refine (KH.out _).mono ?_
    rintro e w9 ⟨rfl, b9⟩
    have Y9 := Lib.hid (Y1.out.later b9)
    clear b9
    go_wp2_with fail
    go_ret
    exact ⟨rfl, Y9.out.below⟩

  | false =>
    obtain ⟨hf, h40, hk40⟩ := not_great hg (fun f hf => (hz f hf).1)
    have hok : ∀ f ∈ L, f.ok := fun f h => (hz f h).1
    rw [hg] at KG
    by_cases hF2 : 1100 < F.size
    · have q : (1100 : Int) < (F.size : Int) := by omega
      clear hg hz hz2 hL hK hl hF hf h40 hk40 hok hF2
      go_enter Try.func5, Try.ntmps5
      go_wp2_with fail
      refine (KG.out _ Y0.out.fds).mono ?_
      rintro e w1 ⟨rfl, b1⟩
      have Y1 := Lib.hid (Y0.out.later b1)
      clear b1 y0 y1 y2 y3 y4
      obtain ⟨y0, y1, -, -, -⟩ := Y1.out
      go_wp2_with fail
      refine (KH.out _).mono ?_
      rintro e w9 ⟨rfl, b9⟩
      have Y9 := Lib.hid (Y1.out.later b9)
      clear b9
      go_wp2_with fail
      go_ret
      exact ⟨rfl, Y9.out.below⟩

    · have q : ¬ (1100 : Int) < (F.size : Int) := by omega
      rcases put_cases K.data.toList L hok with ⟨B, hp, hB, hgb⟩ | ⟨B, z, hp, hz0⟩
      · have K1 := Lib.hid (fun w h => put_is (cap := cap) (a := a) (w := w) h hf (by omega) (by omega) hp)
        have K2 := Lib.hid (fun w => get_is (K := K) (F := B) (w := w) (by omega) (by omega) hgb)
        have K3 := Lib.hid (fun w a b ca cb h k => same_is w a b ca cb L h k (by omega))
        rcases get_cases K.data.toList F.data.toList with ⟨M, hgm, hpm, hom⟩ | ⟨q9, hgm, hq9⟩
        · have K4 := Lib.hid (fun w => get_is (K := K) (F := F) (w := w) (by omega) (by omega) hgm)
          have K5 := Lib.hid (fun w a cap h => put_is (K := K) (F := F) (cap := cap) (a := a) (w := w) h (get_fine hpm hom).1 (by omega) (by have := (get_fine hpm hom).2; omega) hpm)
          have zF : (F.toList == F.toList) = true := by simp
          clear hgm hpm hom
          clear hg hz hz2 hL hK hl hF hf h40 hk40 hok hF2 hp hB hgb
          go_enter Try.func5, Try.ntmps5
          go_wp2_with fail
          refine (KG.out _ Y0.out.fds).mono ?_
          rintro e w1 ⟨rfl, b1⟩
          have Y1 := Lib.hid (Y0.out.later b1)
          clear b1 y0 y1 y2 y3 y4
          obtain ⟨y0, y1, -, -, -⟩ := Y1.out
          go_wp2_with fail
          refine (K1.out _ Y1.out.fds).mono ?_
          rintro e w2 ⟨rfl, b2⟩
          have Y2 := Lib.hid (Y1.out.later b2)
          clear b2 y0 y1
          obtain ⟨y0, y1, -, -, -⟩ := Y2.out
          go_wp2_with fail
          refine (K2.out _).mono ?_
          rintro e w3 ⟨a3, c3, rfl, f3, b3⟩
          have Y3 := Lib.hid (Y2.out.later b3)
          have F3 := Lib.hid f3
          clear b3 f3 y0 y1
          obtain ⟨y0, y1, -, -, -⟩ := Y3.out
          go_wp2_with fail
          refine (K3.out _ _ _ _ _ F3.out Y3.out.fds).mono ?_
          rintro e w4 ⟨rfl, b4⟩
          have Y4 := Lib.hid (Y3.out.later b4)
          clear b4 y0 y1 F3
          obtain ⟨y0, y1, -, -, -⟩ := Y4.out
          go_wp2_with fail
          refine (K4.out _).mono ?_
          rintro e w5 ⟨a5, c5, rfl, f5, b5⟩
          have Y5 := Lib.hid (Y4.out.later b5)
          have F5 := Lib.hid f5
          clear b5 f5 y0 y1
          obtain ⟨y0, y1, -, -, -⟩ := Y5.out
          go_wp2_with fail
          refine (K5.out _ _ _ F5.out).mono ?_
          rintro e w6 ⟨rfl, b6⟩
          have Y6 := Lib.hid (Y5.out.later b6)
          clear b6 y0 y1 F5
          go_wp2_with fail
          refine (KH.out _).mono ?_
          rintro e w9 ⟨rfl, b9⟩
          have Y9 := Lib.hid (Y6.out.later b9)
          clear b9
          go_wp2_with fail
          go_ret
          exact ⟨rfl, Y9.out.below⟩
        · have K4 := Lib.hid (fun w => get_is (K := K) (F := F) (w := w) (by omega) (by omega) hgm)
          have zq : (q9 != 0) = true := by simpa using hq9
          clear hgm
          clear hg hz hz2 hL hK hl hF hf h40 hk40 hok hF2 hp hB hgb
          go_enter Try.func5, Try.ntmps5
          go_wp2_with fail
          refine (KG.out _ Y0.out.fds).mono ?_
          rintro e w1 ⟨rfl, b1⟩
          have Y1 := Lib.hid (Y0.out.later b1)
          clear b1 y0 y1 y2 y3 y4
          obtain ⟨y0, y1, -, -, -⟩ := Y1.out
          go_wp2_with fail
          refine (K1.out _ Y1.out.fds).mono ?_
          rintro e w2 ⟨rfl, b2⟩
          have Y2 := Lib.hid (Y1.out.later b2)
          clear b2 y0 y1
          obtain ⟨y0, y1, -, -, -⟩ := Y2.out
          go_wp2_with fail
          refine (K2.out _).mono ?_
          rintro e w3 ⟨a3, c3, rfl, f3, b3⟩
          have Y3 := Lib.hid (Y2.out.later b3)
          have F3 := Lib.hid f3
          clear b3 f3 y0 y1
          obtain ⟨y0, y1, -, -, -⟩ := Y3.out
          go_wp2_with fail
          refine (K3.out _ _ _ _ _ F3.out Y3.out.fds).mono ?_
          rintro e w4 ⟨rfl, b4⟩
          have Y4 := Lib.hid (Y3.out.later b4)
          clear b4 y0 y1 F3
          obtain ⟨y0, y1, -, -, -⟩ := Y4.out
          go_wp2_with fail
          refine (K4.out _).mono ?_
          rintro e w5 ⟨a5, c5, rfl, f5, b5⟩
          have Y5 := Lib.hid (Y4.out.later b5)
          clear b5 f5 y0 y1
          go_wp2_with fail
          refine (KH.out _).mono ?_
          rintro e w9 ⟨rfl, b9⟩
          have Y9 := Lib.hid (Y5.out.later b9)
          clear b9
          go_wp2_with fail
          go_ret
          exact ⟨rfl, Y9.out.below⟩
      · have K1 := Lib.hid (fun w h => put_is (cap := cap) (a := a) (w := w) h hf (by omega) (by omega) hp)
        rcases get_cases K.data.toList F.data.toList with ⟨M, hgm, hpm, hom⟩ | ⟨q9, hgm, hq9⟩
        · have K4 := Lib.hid (fun w => get_is (K := K) (F := F) (w := w) (by omega) (by omega) hgm)
          have K5 := Lib.hid (fun w a cap h => put_is (K := K) (F := F) (cap := cap) (a := a) (w := w) h (get_fine hpm hom).1 (by omega) (by have := (get_fine hpm hom).2; omega) hpm)
          have zF : (F.toList == F.toList) = true := by simp
          clear hgm hpm hom
          clear hg hz hz2 hL hK hl hF hf h40 hk40 hok hF2 hp 
          go_enter Try.func5, Try.ntmps5
          go_wp2_with fail
          refine (KG.out _ Y0.out.fds).mono ?_
          rintro e w1 ⟨rfl, b1⟩
          have Y1 := Lib.hid (Y0.out.later b1)
          clear b1 y0 y1 y2 y3 y4
          obtain ⟨y0, y1, -, -, -⟩ := Y1.out
          go_wp2_with fail
          refine (K1.out _ Y1.out.fds).mono ?_
          rintro e w2 ⟨rfl, b2⟩
          have Y2 := Lib.hid (Y1.out.later b2)
          clear b2 y0 y1
          obtain ⟨y0, y1, -, -, -⟩ := Y2.out
          go_wp2_with fail
          refine (K4.out _).mono ?_
          rintro e w5 ⟨a5, c5, rfl, f5, b5⟩
          have Y5 := Lib.hid (Y2.out.later b5)
          have F5 := Lib.hid f5
          clear b5 f5 y0 y1
          obtain ⟨y0, y1, -, -, -⟩ := Y5.out
          go_wp2_with fail
          refine (K5.out _ _ _ F5.out).mono ?_
          rintro e w6 ⟨rfl, b6⟩
          have Y6 := Lib.hid (Y5.out.later b6)
          clear b6 y0 y1 F5
          go_wp2_with fail
          refine (KH.out _).mono ?_
          rintro e w9 ⟨rfl, b9⟩
          have Y9 := Lib.hid (Y6.out.later b9)
          clear b9
          go_wp2_with fail
          go_ret
          exact ⟨rfl, Y9.out.below⟩
        · have K4 := Lib.hid (fun w => get_is (K := K) (F := F) (w := w) (by omega) (by omega) hgm)
          have zq : (q9 != 0) = true := by simpa using hq9
          clear hgm
          clear hg hz hz2 hL hK hl hF hf h40 hk40 hok hF2 hp 
          go_enter Try.func5, Try.ntmps5
          go_wp2_with fail
          refine (KG.out _ Y0.out.fds).mono ?_
          rintro e w1 ⟨rfl, b1⟩
          have Y1 := Lib.hid (Y0.out.later b1)
          clear b1 y0 y1 y2 y3 y4
          obtain ⟨y0, y1, -, -, -⟩ := Y1.out
          go_wp2_with fail
          refine (K1.out _ Y1.out.fds).mono ?_
          rintro e w2 ⟨rfl, b2⟩
          have Y2 := Lib.hid (Y1.out.later b2)
          clear b2 y0 y1
          obtain ⟨y0, y1, -, -, -⟩ := Y2.out
          go_wp2_with fail
          refine (K4.out _).mono ?_
          rintro e w5 ⟨a5, c5, rfl, f5, b5⟩
          have Y5 := Lib.hid (Y2.out.later b5)
          clear b5 f5 y0 y1
          go_wp2_with fail
          refine (KH.out _).mono ?_
          rintro e w9 ⟨rfl, b9⟩
          have Y9 := Lib.hid (Y5.out.later b9)
          clear b9
          go_wp2_with fail
          go_ret
          exact ⟨rfl, Y9.out.below⟩
theorem take_same {L M : List Fd} : decide (M.length ≤ L.length ∧ L.take M.length = M) = decide (M <+: L) := by
  congr 1
  rw [List.prefix_iff_eq_take, eq_iff_iff]
  constructor
  · rintro ⟨_, h⟩; exact h.symm
  · intro h
    have := congrArg List.length h
    rw [List.length_take] at this
    exact ⟨by omega, h.symm⟩
theorem keep_bools {K : List UInt8} {L M : List Fd} {x y : ByteArray} (hL : ∀ f ∈ L, f.ok) (hM : ∀ f ∈ M, f.ok) (h1 : putF K L = (x.data.toList, 0)) (h2 : putF K M = (y.data.toList, 0)) :
    begB x y = decide (M <+: L) ∧ ((cmpF L M < 0 ∧ Op.bytesLess x.toList y.toList = true ∧ (x.toList == y.toList) = false) ∨ (cmpF L M = 0 ∧ Op.bytesLess x.toList y.toList = false ∧ (x.toList == y.toList) = true) ∨ (0 < cmpF L M ∧ Op.bytesLess x.toList y.toList = false ∧ (x.toList == y.toList) = false)) := by
  obtain ⟨hk, -, g1, -⟩ := put_good hL h1
  obtain ⟨-, -, g2, -⟩ := put_good hM h2
  obtain ⟨klt, keq, kpre⟩ := keep K L M _ _ (kinds_letters hk) g1 g2
  refine ⟨by rw [Bool.eq_iff_iff, begB_iff, kpre]; simp, ?_⟩
  rw [less_iff, ByteArray.toList_eq, ByteArray.toList_eq]
  rcases Int.lt_trichotomy (cmpF L M) 0 with h | h | h
  · left
    exact ⟨h, decide_eq_true (klt.2 h), beq_eq_false_iff_ne.2 fun e => by have := keq.1 e; omega⟩
  · right; left
    exact ⟨h, decide_eq_false fun e => by have := klt.1 e; omega, beq_iff_eq.2 (keq.2 h)⟩
  · right; right
    exact ⟨h, decide_eq_false fun e => by have := klt.1 e; omega, beq_eq_false_iff_ne.2 fun e => by have := keq.1 e; omega⟩
set_option maxRecDepth 100000 in
set_option maxHeartbeats 6400000 in
theorem keeps_law (K : ByteArray) (w : World) (a b : Option Addr) (ca cb : Nat) (L M : List Fd) (hL : FdsC w ca a L) (hM : FdsC w cb b M) (hK : K.size ≤ maxLen) (hl : L.length ≤ maxLen) (hm : M.length ≤ maxLen) (hz : ∀ f ∈ L, Fd.Fits f) (hy : ∀ f ∈ M, Fd.Fits f) :
    Calls Try.prog 6 #[.string K, .slice a L.length ca, .slice b M.length cb] w fun e w' => e = .returned (.bool true) ∧ Below w.heap.size w w' := by
  have KH := Lib.hid head_c
  unfold maxLen at hK hl hm
  have hz2 : ∀ f ∈ L, f.s.size ≤ 9223372036854775807 := fun f hf => (hz f hf).2
  have hy2 : ∀ f ∈ M, f.s.size ≤ 9223372036854775807 := fun f hf => (hy f hf).2
  have okL : ∀ f ∈ L, f.ok := fun f h => (hz f h).1
  have okM : ∀ f ∈ M, f.ok := fun f h => (hy f h).1
  have KG := Lib.hid (fun w h => great_c K w a ca L h hl hK hz2)
  have KG2 := Lib.hid (fun w h => great_c K w b cb M h hm hK hy2)
  have HL := Lib.hid hL.1
  have HM := Lib.hid hM.1
  have hcap := hL.2
  clear hL hM
  cases hg : greatB K L with
  | true =>
    rw [hg] at KG
    clear hg hz hz2 hy hy2 hK hl hm okL okM hcap
    go_enter Try.func6, Try.ntmps6
    go_wp2_with fail
    refine (KG.out _ HL.out).mono ?_
    rintro e w1 ⟨rfl, b1⟩
    have B1 := Lib.hid b1
    have L1 := Lib.hid (HL.out.later b1)
    have M1 := Lib.hid (HM.out.later b1)
    clear b1
    go_wp2_with fail
    refine (KH.out _).mono ?_
    rintro e w9 ⟨rfl, b9⟩
    have B9 := Lib.hid (then_below B1.out b9)
    clear b9
    go_wp2_with fail
    go_ret
    exact ⟨rfl, B9.out⟩

  | false =>
    obtain ⟨hf, h40, hk40⟩ := not_great hg okL
    rw [hg] at KG
    cases hg2 : greatB K M with
    | true =>
      rw [hg2] at KG2
      clear hg hg2 hz hz2 hy hy2 hK hl hm okL okM hcap hf h40 hk40
      go_enter Try.func6, Try.ntmps6
      go_wp2_with fail
      refine (KG.out _ HL.out).mono ?_
      rintro e w1 ⟨rfl, b1⟩
      have B1 := Lib.hid b1
      have L1 := Lib.hid (HL.out.later b1)
      have M1 := Lib.hid (HM.out.later b1)
      clear b1
      go_wp2_with fail
      refine (KG2.out _ M1.out).mono ?_
      rintro e w2 ⟨rfl, b2⟩
      have B2 := Lib.hid (then_below B1.out b2)
      have L2 := Lib.hid (L1.out.later b2)
      have M2 := Lib.hid (M1.out.later b2)
      clear b2 B1 L1 M1
      go_wp2_with fail
      refine (KH.out _).mono ?_
      rintro e w9 ⟨rfl, b9⟩
      have B9 := Lib.hid (then_below B2.out b9)
      clear b9
      go_wp2_with fail
      go_ret
      exact ⟨rfl, B9.out⟩

    | false =>
      obtain ⟨hf2, h402, -⟩ := not_great hg2 okM
      rw [hg2] at KG2
      have KC := Lib.hid (fun w h k => compare_c w a b ca cb L M h k (by omega) (by omega))
      have KR := Lib.hid (fun w h k => rcompare_c w a b ca cb L M h k (by omega) (by omega))
      have zn : (cmpF L M == cmpF L M) = true := by simp
      obtain ⟨x, z1, hp1⟩ : ∃ (x : ByteArray) (z : Int), putF K.data.toList L = (x.data.toList, z) := ⟨⟨(putF K.data.toList L).1.toArray⟩, _, rfl⟩
      obtain ⟨y, z2, hp2⟩ : ∃ (x : ByteArray) (z : Int), putF K.data.toList M = (x.data.toList, z) := ⟨⟨(putF K.data.toList M).1.toArray⟩, _, rfl⟩
      have K1 := Lib.hid (fun w h => put_is (cap := ca) (w := w) (a := a) h hf (by omega) (by omega) hp1)
      have K2 := Lib.hid (fun w h => put_is (cap := cb) (w := w) (a := b) h hf2 (by omega) (by omega) hp2)
      by_cases e1 : z1 = 0
      case neg =>
        have y1 : (z1 != 0) = true := bne_iff_ne.2 e1
        generalize cmpF L M = n at KC KR zn
        clear hg hg2 hz hz2 hy hy2 hK hl hm okL okM hcap hf h40 hk40 hf2 h402 hp1 hp2 e1
        go_enter Try.func6, Try.ntmps6
        go_wp2_with fail
        refine (KG.out _ HL.out).mono ?_
        rintro e w1 ⟨rfl, b1⟩
        have B1 := Lib.hid b1
        have L1 := Lib.hid (HL.out.later b1)
        have M1 := Lib.hid (HM.out.later b1)
        clear b1
        go_wp2_with fail
        refine (KG2.out _ M1.out).mono ?_
        rintro e w2 ⟨rfl, b2⟩
        have B2 := Lib.hid (then_below B1.out b2)
        have L2 := Lib.hid (L1.out.later b2)
        have M2 := Lib.hid (M1.out.later b2)
        clear b2 B1 L1 M1
        go_wp2_with fail
        refine (KC.out _ L2.out M2.out).mono ?_
        rintro e w3 ⟨rfl, b3⟩
        have B3 := Lib.hid (then_below B2.out b3)
        have L3 := Lib.hid (L2.out.later b3)
        have M3 := Lib.hid (M2.out.later b3)
        clear b3 B2 L2 M2
        go_wp2_with fail
        refine (KR.out _ L3.out M3.out).mono ?_
        rintro e w4 ⟨rfl, b4⟩
        have B4 := Lib.hid (then_below B3.out b4)
        have L4 := Lib.hid (L3.out.later b4)
        have M4 := Lib.hid (M3.out.later b4)
        clear b4 B3 L3 M3
        go_wp2_with fail
        refine (K1.out _ L4.out).mono ?_
        rintro e w5 ⟨rfl, b5⟩
        have B5 := Lib.hid (then_below B4.out b5)
        have L5 := Lib.hid (L4.out.later b5)
        have M5 := Lib.hid (M4.out.later b5)
        clear b5 B4 L4 M4
        go_wp2_with fail
        refine (K2.out _ M5.out).mono ?_
        rintro e w6 ⟨rfl, b6⟩
        have B6 := Lib.hid (then_below B5.out b6)
        have L6 := Lib.hid (L5.out.later b6)
        have M6 := Lib.hid (M5.out.later b6)
        clear b6 B5 L5 M5
        go_wp2_with fail
        refine (KH.out _).mono ?_
        rintro e w9 ⟨rfl, b9⟩
        have B9 := Lib.hid (then_below B6.out b9)
        clear b9
        go_wp2_with fail
        go_ret
        exact ⟨rfl, B9.out⟩

      subst e1
      by_cases e2 : z2 = 0
      case neg =>
        have y1 : (z2 != 0) = true := bne_iff_ne.2 e2
        generalize cmpF L M = n at KC KR zn
        clear hg hg2 hz hz2 hy hy2 hK hl hm okL okM hcap hf h40 hk40 hf2 h402 hp1 hp2 e2
        go_enter Try.func6, Try.ntmps6
        go_wp2_with fail
        refine (KG.out _ HL.out).mono ?_
        rintro e w1 ⟨rfl, b1⟩
        have B1 := Lib.hid b1
        have L1 := Lib.hid (HL.out.later b1)
        have M1 := Lib.hid (HM.out.later b1)
        clear b1
        go_wp2_with fail
        refine (KG2.out _ M1.out).mono ?_
        rintro e w2 ⟨rfl, b2⟩
        have B2 := Lib.hid (then_below B1.out b2)
        have L2 := Lib.hid (L1.out.later b2)
        have M2 := Lib.hid (M1.out.later b2)
        clear b2 B1 L1 M1
        go_wp2_with fail
        refine (KC.out _ L2.out M2.out).mono ?_
        rintro e w3 ⟨rfl, b3⟩
        have B3 := Lib.hid (then_below B2.out b3)
        have L3 := Lib.hid (L2.out.later b3)
        have M3 := Lib.hid (M2.out.later b3)
        clear b3 B2 L2 M2
        go_wp2_with fail
        refine (KR.out _ L3.out M3.out).mono ?_
        rintro e w4 ⟨rfl, b4⟩
        have B4 := Lib.hid (then_below B3.out b4)
        have L4 := Lib.hid (L3.out.later b4)
        have M4 := Lib.hid (M3.out.later b4)
        clear b4 B3 L3 M3
        go_wp2_with fail
        refine (K1.out _ L4.out).mono ?_
        rintro e w5 ⟨rfl, b5⟩
        have B5 := Lib.hid (then_below B4.out b5)
        have L5 := Lib.hid (L4.out.later b5)
        have M5 := Lib.hid (M4.out.later b5)
        clear b5 B4 L4 M4
        go_wp2_with fail
        refine (K2.out _ M5.out).mono ?_
        rintro e w6 ⟨rfl, b6⟩
        have B6 := Lib.hid (then_below B5.out b6)
        have L6 := Lib.hid (L5.out.later b6)
        have M6 := Lib.hid (M5.out.later b6)
        clear b6 B5 L5 M5
        go_wp2_with fail
        refine (KH.out _).mono ?_
        rintro e w9 ⟨rfl, b9⟩
        have B9 := Lib.hid (then_below B6.out b9)
        clear b9
        go_wp2_with fail
        go_ret
        exact ⟨rfl, B9.out⟩

      subst e2
      obtain ⟨hbeg, hn⟩ := keep_bools okL okM hp1 hp2
      have KB := Lib.hid (fun w => begins_c x y w)
      rw [hbeg, ← take_same] at KB
      generalize cmpF L M = n at KC KR zn hn
      by_cases hlen : M.length ≤ L.length
      · have hlt : (L.take M.length).length = M.length := by rw [List.length_take]; omega
        have KS := Lib.hid (fun w h k => same_c w a b ca cb (L.take M.length) M h k (by omega) (by omega))
        rw [hlt] at KS
        have hd : decide (M.length ≤ L.length ∧ L.take M.length = M) = decide (L.take M.length = M) := by simp [hlen]
        rw [hd] at KB
        generalize decide (L.take M.length = M) = d at KS KB
        have zd : (d == d) = true := by simp
        have i0 : (M.length : Int) ≤ (L.length : Int) := by omega
        have i1 : (M.length : Int) ≤ (ca : Int) := by omega
        have i2 : (0 : Int) ≤ (M.length : Int) := by omega
        have HMI := Lib.hid (show min (L.length : Int) (M.length : Int) = (M.length : Int) by omega)
        clear hg hg2 hz hz2 hy hy2 hK hl hm okL okM hcap hf h40 hk40 hf2 h402 hp1 hp2 hbeg hlen hlt hd
        rcases hn with ⟨n1, n2, n3⟩ | ⟨n1, n2, n3⟩ | ⟨n1, n2, n3⟩
        · have n4 : (n == 0) = false := beq_eq_false_iff_ne.2 (by omega)
          go_enter Try.func6, Try.ntmps6
          go_wp2_with fail
          refine (KG.out _ HL.out).mono ?_
          rintro e w1 ⟨rfl, b1⟩
          have B1 := Lib.hid b1
          have L1 := Lib.hid (HL.out.later b1)
          have M1 := Lib.hid (HM.out.later b1)
          clear b1
          go_wp2_with fail
          refine (KG2.out _ M1.out).mono ?_
          rintro e w2 ⟨rfl, b2⟩
          have B2 := Lib.hid (then_below B1.out b2)
          have L2 := Lib.hid (L1.out.later b2)
          have M2 := Lib.hid (M1.out.later b2)
          clear b2 B1 L1 M1
          go_wp2_with fail
          refine (KC.out _ L2.out M2.out).mono ?_
          rintro e w3 ⟨rfl, b3⟩
          have B3 := Lib.hid (then_below B2.out b3)
          have L3 := Lib.hid (L2.out.later b3)
          have M3 := Lib.hid (M2.out.later b3)
          clear b3 B2 L2 M2
          go_wp2_with fail
          refine (KR.out _ L3.out M3.out).mono ?_
          rintro e w4 ⟨rfl, b4⟩
          have B4 := Lib.hid (then_below B3.out b4)
          have L4 := Lib.hid (L3.out.later b4)
          have M4 := Lib.hid (M3.out.later b4)
          clear b4 B3 L3 M3
          go_wp2_with fail
          refine (K1.out _ L4.out).mono ?_
          rintro e w5 ⟨rfl, b5⟩
          have B5 := Lib.hid (then_below B4.out b5)
          have L5 := Lib.hid (L4.out.later b5)
          have M5 := Lib.hid (M4.out.later b5)
          clear b5 B4 L4 M4
          go_wp2_with fail
          refine (K2.out _ M5.out).mono ?_
          rintro e w6 ⟨rfl, b6⟩
          have B6 := Lib.hid (then_below B5.out b6)
          have L6 := Lib.hid (L5.out.later b6)
          have M6 := Lib.hid (M5.out.later b6)
          clear b6 B5 L5 M5
          go_wp2_with fail
          try rw [HMI.out]
          try go_wp2_with fail
          refine (KS.out _ (L6.out.take _) M6.out).mono ?_
          rintro e w7 ⟨rfl, b7⟩
          have B7 := Lib.hid (then_below B6.out b7)
          clear b7 B6 L6 M6
          go_wp2_with fail
          refine (KB.out _).mono ?_
          rintro e w8 ⟨rfl, rfl⟩
          go_wp2_with fail
          refine (KH.out _).mono ?_
          rintro e w9 ⟨rfl, b9⟩
          have B9 := Lib.hid (then_below B7.out b9)
          clear b9
          go_wp2_with fail
          go_ret
          exact ⟨rfl, B9.out⟩
        · subst n1
          go_enter Try.func6, Try.ntmps6
          go_wp2_with fail
          refine (KG.out _ HL.out).mono ?_
          rintro e w1 ⟨rfl, b1⟩
          have B1 := Lib.hid b1
          have L1 := Lib.hid (HL.out.later b1)
          have M1 := Lib.hid (HM.out.later b1)
          clear b1
          go_wp2_with fail
          refine (KG2.out _ M1.out).mono ?_
          rintro e w2 ⟨rfl, b2⟩
          have B2 := Lib.hid (then_below B1.out b2)
          have L2 := Lib.hid (L1.out.later b2)
          have M2 := Lib.hid (M1.out.later b2)
          clear b2 B1 L1 M1
          go_wp2_with fail
          refine (KC.out _ L2.out M2.out).mono ?_
          rintro e w3 ⟨rfl, b3⟩
          have B3 := Lib.hid (then_below B2.out b3)
          have L3 := Lib.hid (L2.out.later b3)
          have M3 := Lib.hid (M2.out.later b3)
          clear b3 B2 L2 M2
          go_wp2_with fail
          refine (KR.out _ L3.out M3.out).mono ?_
          rintro e w4 ⟨rfl, b4⟩
          have B4 := Lib.hid (then_below B3.out b4)
          have L4 := Lib.hid (L3.out.later b4)
          have M4 := Lib.hid (M3.out.later b4)
          clear b4 B3 L3 M3
          go_wp2_with fail
          refine (K1.out _ L4.out).mono ?_
          rintro e w5 ⟨rfl, b5⟩
          have B5 := Lib.hid (then_below B4.out b5)
          have L5 := Lib.hid (L4.out.later b5)
          have M5 := Lib.hid (M4.out.later b5)
          clear b5 B4 L4 M4
          go_wp2_with fail
          refine (K2.out _ M5.out).mono ?_
          rintro e w6 ⟨rfl, b6⟩
          have B6 := Lib.hid (then_below B5.out b6)
          have L6 := Lib.hid (L5.out.later b6)
          have M6 := Lib.hid (M5.out.later b6)
          clear b6 B5 L5 M5
          go_wp2_with fail
          try rw [HMI.out]
          try go_wp2_with fail
          refine (KS.out _ (L6.out.take _) M6.out).mono ?_
          rintro e w7 ⟨rfl, b7⟩
          have B7 := Lib.hid (then_below B6.out b7)
          clear b7 B6 L6 M6
          go_wp2_with fail
          refine (KB.out _).mono ?_
          rintro e w8 ⟨rfl, rfl⟩
          go_wp2_with fail
          refine (KH.out _).mono ?_
          rintro e w9 ⟨rfl, b9⟩
          have B9 := Lib.hid (then_below B7.out b9)
          clear b9
          go_wp2_with fail
          go_ret
          exact ⟨rfl, B9.out⟩
        · have n4 : (n == 0) = false := beq_eq_false_iff_ne.2 (by omega)
          have n5 : decide (n < 0) = false := decide_eq_false (by omega)
          go_enter Try.func6, Try.ntmps6
          go_wp2_with fail
          refine (KG.out _ HL.out).mono ?_
          rintro e w1 ⟨rfl, b1⟩
          have B1 := Lib.hid b1
          have L1 := Lib.hid (HL.out.later b1)
          have M1 := Lib.hid (HM.out.later b1)
          clear b1
          go_wp2_with fail
          refine (KG2.out _ M1.out).mono ?_
          rintro e w2 ⟨rfl, b2⟩
          have B2 := Lib.hid (then_below B1.out b2)
          have L2 := Lib.hid (L1.out.later b2)
          have M2 := Lib.hid (M1.out.later b2)
          clear b2 B1 L1 M1
          go_wp2_with fail
          refine (KC.out _ L2.out M2.out).mono ?_
          rintro e w3 ⟨rfl, b3⟩
          have B3 := Lib.hid (then_below B2.out b3)
          have L3 := Lib.hid (L2.out.later b3)
          have M3 := Lib.hid (M2.out.later b3)
          clear b3 B2 L2 M2
          go_wp2_with fail
          refine (KR.out _ L3.out M3.out).mono ?_
          rintro e w4 ⟨rfl, b4⟩
          have B4 := Lib.hid (then_below B3.out b4)
          have L4 := Lib.hid (L3.out.later b4)
          have M4 := Lib.hid (M3.out.later b4)
          clear b4 B3 L3 M3
          go_wp2_with fail
          refine (K1.out _ L4.out).mono ?_
          rintro e w5 ⟨rfl, b5⟩
          have B5 := Lib.hid (then_below B4.out b5)
          have L5 := Lib.hid (L4.out.later b5)
          have M5 := Lib.hid (M4.out.later b5)
          clear b5 B4 L4 M4
          go_wp2_with fail
          refine (K2.out _ M5.out).mono ?_
          rintro e w6 ⟨rfl, b6⟩
          have B6 := Lib.hid (then_below B5.out b6)
          have L6 := Lib.hid (L5.out.later b6)
          have M6 := Lib.hid (M5.out.later b6)
          clear b6 B5 L5 M5
          go_wp2_with fail
          try rw [HMI.out]
          try go_wp2_with fail
          refine (KS.out _ (L6.out.take _) M6.out).mono ?_
          rintro e w7 ⟨rfl, b7⟩
          have B7 := Lib.hid (then_below B6.out b7)
          clear b7 B6 L6 M6
          go_wp2_with fail
          refine (KB.out _).mono ?_
          rintro e w8 ⟨rfl, rfl⟩
          go_wp2_with fail
          refine (KH.out _).mono ?_
          rintro e w9 ⟨rfl, b9⟩
          have B9 := Lib.hid (then_below B7.out b9)
          clear b9
          go_wp2_with fail
          go_ret
          exact ⟨rfl, B9.out⟩
      · have hd : decide (M.length ≤ L.length ∧ L.take M.length = M) = false := by simp [hlen]
        rw [hd] at KB
        have i0 : ¬ (M.length : Int) ≤ (L.length : Int) := by omega
        clear hg hg2 hz hz2 hy hy2 hK hl hm okL okM hcap hf h40 hk40 hf2 h402 hp1 hp2 hbeg hlen hd
        rcases hn with ⟨n1, n2, n3⟩ | ⟨n1, n2, n3⟩ | ⟨n1, n2, n3⟩
        · have n4 : (n == 0) = false := beq_eq_false_iff_ne.2 (by omega)
          go_enter Try.func6, Try.ntmps6
          go_wp2_with fail
          refine (KG.out _ HL.out).mono ?_
          rintro e w1 ⟨rfl, b1⟩
          have B1 := Lib.hid b1
          have L1 := Lib.hid (HL.out.later b1)
          have M1 := Lib.hid (HM.out.later b1)
          clear b1
          go_wp2_with fail
          refine (KG2.out _ M1.out).mono ?_
          rintro e w2 ⟨rfl, b2⟩
          have B2 := Lib.hid (then_below B1.out b2)
          have L2 := Lib.hid (L1.out.later b2)
          have M2 := Lib.hid (M1.out.later b2)
          clear b2 B1 L1 M1
          go_wp2_with fail
          refine (KC.out _ L2.out M2.out).mono ?_
          rintro e w3 ⟨rfl, b3⟩
          have B3 := Lib.hid (then_below B2.out b3)
          have L3 := Lib.hid (L2.out.later b3)
          have M3 := Lib.hid (M2.out.later b3)
          clear b3 B2 L2 M2
          go_wp2_with fail
          refine (KR.out _ L3.out M3.out).mono ?_
          rintro e w4 ⟨rfl, b4⟩
          have B4 := Lib.hid (then_below B3.out b4)
          have L4 := Lib.hid (L3.out.later b4)
          have M4 := Lib.hid (M3.out.later b4)
          clear b4 B3 L3 M3
          go_wp2_with fail
          refine (K1.out _ L4.out).mono ?_
          rintro e w5 ⟨rfl, b5⟩
          have B5 := Lib.hid (then_below B4.out b5)
          have L5 := Lib.hid (L4.out.later b5)
          have M5 := Lib.hid (M4.out.later b5)
          clear b5 B4 L4 M4
          go_wp2_with fail
          refine (K2.out _ M5.out).mono ?_
          rintro e w6 ⟨rfl, b6⟩
          have B6 := Lib.hid (then_below B5.out b6)
          have L6 := Lib.hid (L5.out.later b6)
          have M6 := Lib.hid (M5.out.later b6)
          clear b6 B5 L5 M5
          go_wp2_with fail
          refine (KB.out _).mono ?_
          rintro e w8 ⟨rfl, rfl⟩
          go_wp2_with fail
          refine (KH.out _).mono ?_
          rintro e w9 ⟨rfl, b9⟩
          have B9 := Lib.hid (then_below B6.out b9)
          clear b9
          go_wp2_with fail
          go_ret
          exact ⟨rfl, B9.out⟩
        · subst n1
          go_enter Try.func6, Try.ntmps6
          go_wp2_with fail
          refine (KG.out _ HL.out).mono ?_
          rintro e w1 ⟨rfl, b1⟩
          have B1 := Lib.hid b1
          have L1 := Lib.hid (HL.out.later b1)
          have M1 := Lib.hid (HM.out.later b1)
          clear b1
          go_wp2_with fail
          refine (KG2.out _ M1.out).mono ?_
          rintro e w2 ⟨rfl, b2⟩
          have B2 := Lib.hid (then_below B1.out b2)
          have L2 := Lib.hid (L1.out.later b2)
          have M2 := Lib.hid (M1.out.later b2)
          clear b2 B1 L1 M1
          go_wp2_with fail
          refine (KC.out _ L2.out M2.out).mono ?_
          rintro e w3 ⟨rfl, b3⟩
          have B3 := Lib.hid (then_below B2.out b3)
          have L3 := Lib.hid (L2.out.later b3)
          have M3 := Lib.hid (M2.out.later b3)
          clear b3 B2 L2 M2
          go_wp2_with fail
          refine (KR.out _ L3.out M3.out).mono ?_
          rintro e w4 ⟨rfl, b4⟩
          have B4 := Lib.hid (then_below B3.out b4)
          have L4 := Lib.hid (L3.out.later b4)
          have M4 := Lib.hid (M3.out.later b4)
          clear b4 B3 L3 M3
          go_wp2_with fail
          refine (K1.out _ L4.out).mono ?_
          rintro e w5 ⟨rfl, b5⟩
          have B5 := Lib.hid (then_below B4.out b5)
          have L5 := Lib.hid (L4.out.later b5)
          have M5 := Lib.hid (M4.out.later b5)
          clear b5 B4 L4 M4
          go_wp2_with fail
          refine (K2.out _ M5.out).mono ?_
          rintro e w6 ⟨rfl, b6⟩
          have B6 := Lib.hid (then_below B5.out b6)
          have L6 := Lib.hid (L5.out.later b6)
          have M6 := Lib.hid (M5.out.later b6)
          clear b6 B5 L5 M5
          go_wp2_with fail
          refine (KB.out _).mono ?_
          rintro e w8 ⟨rfl, rfl⟩
          go_wp2_with fail
          refine (KH.out _).mono ?_
          rintro e w9 ⟨rfl, b9⟩
          have B9 := Lib.hid (then_below B6.out b9)
          clear b9
          go_wp2_with fail
          go_ret
          exact ⟨rfl, B9.out⟩
        · have n4 : (n == 0) = false := beq_eq_false_iff_ne.2 (by omega)
          have n5 : decide (n < 0) = false := decide_eq_false (by omega)
          go_enter Try.func6, Try.ntmps6
          go_wp2_with fail
          refine (KG.out _ HL.out).mono ?_
          rintro e w1 ⟨rfl, b1⟩
          have B1 := Lib.hid b1
          have L1 := Lib.hid (HL.out.later b1)
          have M1 := Lib.hid (HM.out.later b1)
          clear b1
          go_wp2_with fail
          refine (KG2.out _ M1.out).mono ?_
          rintro e w2 ⟨rfl, b2⟩
          have B2 := Lib.hid (then_below B1.out b2)
          have L2 := Lib.hid (L1.out.later b2)
          have M2 := Lib.hid (M1.out.later b2)
          clear b2 B1 L1 M1
          go_wp2_with fail
          refine (KC.out _ L2.out M2.out).mono ?_
          rintro e w3 ⟨rfl, b3⟩
          have B3 := Lib.hid (then_below B2.out b3)
          have L3 := Lib.hid (L2.out.later b3)
          have M3 := Lib.hid (M2.out.later b3)
          clear b3 B2 L2 M2
          go_wp2_with fail
          refine (KR.out _ L3.out M3.out).mono ?_
          rintro e w4 ⟨rfl, b4⟩
          have B4 := Lib.hid (then_below B3.out b4)
          have L4 := Lib.hid (L3.out.later b4)
          have M4 := Lib.hid (M3.out.later b4)
          clear b4 B3 L3 M3
          go_wp2_with fail
          refine (K1.out _ L4.out).mono ?_
          rintro e w5 ⟨rfl, b5⟩
          have B5 := Lib.hid (then_below B4.out b5)
          have L5 := Lib.hid (L4.out.later b5)
          have M5 := Lib.hid (M4.out.later b5)
          clear b5 B4 L4 M4
          go_wp2_with fail
          refine (K2.out _ M5.out).mono ?_
          rintro e w6 ⟨rfl, b6⟩
          have B6 := Lib.hid (then_below B5.out b6)
          have L6 := Lib.hid (L5.out.later b6)
          have M6 := Lib.hid (M5.out.later b6)
          clear b6 B5 L5 M5
          go_wp2_with fail
          refine (KB.out _).mono ?_
          rintro e w8 ⟨rfl, rfl⟩
          go_wp2_with fail
          refine (KH.out _).mono ?_
          rintro e w9 ⟨rfl, b9⟩
          have B9 := Lib.hid (then_below B6.out b9)
          clear b9
          go_wp2_with fail
          go_ret
          exact ⟨rfl, B9.out⟩
end Go.Proofs.Ytoicnpekbpphjaa.Or
