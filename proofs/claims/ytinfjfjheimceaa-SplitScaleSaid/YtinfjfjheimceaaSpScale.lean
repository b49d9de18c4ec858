/- Package split: the law of weights so many times as great. -/
import Derived.Test.YtinfjfjheimceaaSpWhole
namespace Go.Proofs.Ytinfjfjheimceaa.Sp
open Go Go.RowKit Go.Lib Go.Proofs.Ytinfjfjheimceaa.So Rf Cm
/-- All weights K times as great. -/
def scl (K : Int) (l : List Int) : List Int := l.map (· * K)
theorem scl_len (K : Int) (l : List Int) : (scl K l).length = l.length := by unfold scl; simp
theorem scl_at (K : Int) (l : List Int) (i : Nat) : (scl K l).getD i 0 = l.getD i 0 * K := by
  unfold scl
  by_cases h : i < l.length
  · simp [h]
  · simp [Nat.not_lt.1 h]
theorem scl_sum (K : Int) (l : List Int) : (scl K l).sum = l.sum * K := by
  unfold scl
  induction l with
  | nil => simp
  | cons x l ih => rw [List.map_cons, List.sum_cons, List.sum_cons, ih, Int.add_mul]
theorem scl_q {K : Int} (hK : 0 < K) (T A x : Int) : T * (x * K) / (A * K) = T * x / A ∧ T * (x * K) % (A * K) = T * x % A * K := by
  rw [← Int.mul_assoc]
  exact ⟨Int.mul_ediv_mul_of_pos_left _ _ hK, by rw [Int.mul_comm (T * x) K, Int.mul_comm A K, Int.mul_emod_mul_of_pos _ _ hK, Int.mul_comm]⟩
theorem scl_bf {K : Int} (hK : 0 < K) (T A : Int) (l : List Int) (i k : Nat) : bf (sh T (A * K) (scl K l) i) (sh T (A * K) (scl K l) k) ↔ bf (sh T A l i) (sh T A l k) := by
  unfold bf sh
  simp only [scl_at, (scl_q hK T A _).2]
  constructor
  · rintro (h | ⟨h, h2⟩)
    · exact Or.inl (Int.lt_of_mul_lt_mul_right h (by omega))
    · exact Or.inr ⟨Int.eq_of_mul_eq_mul_right (by omega) h, h2⟩
  · rintro (h | ⟨h, h2⟩)
    · exact Or.inl (Int.mul_lt_mul_of_pos_right h hK)
    · exact Or.inr ⟨by rw [h], h2⟩
theorem scl_cnt {K : Int} (hK : 0 < K) (T A : Int) (l : List Int) (i : Nat) : cnt T (A * K) (scl K l) i = cnt T A l i := by
  unfold cnt cn
  rw [scl_len]
  refine List.countP_congr fun k _ => ?_
  unfold ahead
  simp only [decide_eq_true_eq]
  exact scl_bf hK T A l k i
theorem scl_left {K : Int} (hK : 0 < K) (T A : Int) (l : List Int) : left T (A * K) (scl K l) = left T A l := by
  unfold left
  rw [scl_len]
  congr 1
  exact sm_congr fun k _ => by rw [scl_at, (scl_q hK T A _).1]
theorem scl_out {K : Int} (hK : 0 < K) (T A : Int) (l : List Int) : outl T (A * K) (scl K l) = outl T A l := by
  unfold outl
  rw [scl_len]
  refine List.map_congr_left fun i _ => ?_
  unfold slice
  rw [scl_at, (scl_q hK T A _).1, scl_cnt hK, scl_left hK]
theorem scl_good {K : Int} (hK : 1 ≤ K) {l : List Int} (h : good (scl K l) = true) : good l = true := by
  obtain ⟨h1, h2, h3, h4⟩ := (good_iff _).1 h
  rw [scl_len] at h1
  rw [scl_sum] at h3 h4
  have hs : 0 < l.sum := by
    rcases Int.lt_or_le 0 l.sum with q | q
    · exact q
    · have := Int.mul_nonpos_of_nonpos_of_nonneg q (show 0 ≤ K by omega); omega
  have hs2 : l.sum * 1 ≤ l.sum * K := Int.mul_le_mul_of_nonneg_left hK (by omega)
  refine (good_iff l).2 ⟨h1, fun x hx => ?_, hs, by omega⟩
  have := h2 (x * K) (List.mem_map.2 ⟨x, hx, rfl⟩)
  rcases Int.lt_or_le x 0 with q | q
  · have := Int.mul_neg_of_neg_of_pos q (show 0 < K by omega); omega
  · exact q
theorem own_ints {w : World} {base e n : Nat} {v : Value} {l : List Int} (h : w.ownsRow base e 1 v n (l.map (Value.int .i64))) (hn : n = l.length) : ∃ a cap, v = .slice a n cap ∧ Ints w a l := by
  subst hn
  rcases h.2 with ⟨rfl, h0⟩ | ⟨g, cap, cur, rfl, _⟩
  · rw [h0]
    exact ⟨none, 0, rfl, Or.inl (List.length_eq_zero_iff.1 h0)⟩
  · have hc := own_cell h
    refine ⟨_, _, rfl, Or.inr ⟨g, 0, rfl, hc.1, fun j hj => ?_⟩⟩
    rw [Nat.zero_add]
    exact hc.2 j _ (by simp [hj])
theorem take_scl (K : Int) (l : List Int) (k : Nat) (hk : k < l.length) : ((scl K l).take (k + 1)).map (Value.int .i64) = ((scl K l).take k).map (Value.int .i64) ++ [.int .i64 (l.getD k 0 * K)] := by
  have e : (scl K l).take (k + 1) = (scl K l).take k ++ [(scl K l).getD k 0] := by
    rw [List.take_add_one]
    simp [show k < (scl K l).length by rw [scl_len]; exact hk]
  rw [e, List.map_append, scl_at]; rfl
structure SS (K : Int) (l : List Int) (w : World) (k : Nat) (v : Value) (wr : World) : Prop where
  row : wr.ownsRow w.heap.size 2 1 v k (((scl K l).take k).map (Value.int .i64))
  below : Below w.heap.size w wr
  fits : ∀ j, j < k → -9223372036854775808 ≤ l.getD j 0 * K ∧ l.getD j 0 * K ≤ 9223372036854775807
set_option maxRecDepth 100000 in
set_option maxHeartbeats 4000000 in
theorem scale_law (T : Int) (a : Option Addr) (cap : Nat) (l : List Int) (t : Int) (w : World) (hI : Ints w a l) (hr : ∀ x ∈ l, -9223372036854775808 ≤ x ∧ x ≤ 9223372036854775807) (hlen : l.length ≤ 9223372036854775807) (t0 : 0 ≤ t) (t1 : t ≤ 65535) :
    Calls Try.prog 6 #[.int .i64 T, .slice a l.length cap, .int .u16 t] w fun e w' => e = .returned (.bool true) ∧ Below w.heap.size w w' := by
  have HI := Lib.hid hI
  have HRL := Lib.hid hr
  obtain ⟨n, hn⟩ : ∃ n, n = l.length := ⟨_, rfl⟩
  have HN := Lib.hid hn
  rw [← hn] at hlen ⊢
  clear hI hr hn
  by_cases hbig : 300 < n
  · have hz : (300 : Int) < (n : Int) := by omega
    go_enter Try.func6, Try.ntmps6
    go_wp2_with fail
    refine (head_c _).mono ?_
    rintro e w1 ⟨rfl, b1⟩
    go_wp2_with fail
    go_ret
    exact ⟨rfl, b1⟩
  · have hz : ¬ (300 : Int) < (n : Int) := by omega
    have hzd : decide ((300 : Int) < (n : Int)) = false := decide_eq_false hz
    obtain ⟨i1, hj, hy0, hy1, hy2⟩ := info_parts infoI64
    obtain ⟨K, hK⟩ : ∃ K, K = 1 + t := ⟨_, rfl⟩
    have hK1 : 1 ≤ K := by omega
    have hK2 : K ≤ 65536 := by omega
    have eK : (1 : Int) + t = K := hK.symm
    have W0 : Hid (SS K l w 0 (.slice none 0 0) w) := ⟨World.ownsRow_nil _ _ _ _, Below.refl _ _, fun j hj => absurd hj (by omega)⟩
    clear hK
    go_enter Try.func6, Try.ntmps6
    go_wp2_with fail
    clear eK t0 t1
    go_loopw [8, 9] (fun s8 s9 wr => ∃ (k : Nat) (v : Value), v = s8 ∧ s9 = .int .i64 (k : Int) ∧ k ≤ n ∧ Hid (SS K l w k v wr)) (fun _ s9 _ => n - (intOf s9).toNat)
    case atStart => exact ⟨0, _, rfl, rfl, Nat.zero_le _, W0⟩
    case round =>
      clear W0
      obtain ⟨k, v, rfl, rfl, hk, HS⟩ := hrel
      by_cases hlt : k < n
      · have hkz : (k : Int) < (n : Int) := by omega
        have hkl : k < l.length := by rw [← HN.out]; exact hlt
        obtain ⟨b, off, rfl, _, ck⟩ := (HI.out.later HS.out.below).at_ hkl
        have hx := HRL.out (l.getD k 0) (by simp [hkl])
        have HT := Lib.hid (take_scl K l k hkl)
        obtain ⟨x, hx0⟩ : ∃ x, x = l.getD k 0 := ⟨_, rfl⟩
        rw [← hx0] at ck hx HT
        have HX := Lib.hid hx0
        clear hx0
        have KM := Lib.hid (fun w => mul_c x K w hx ⟨by omega, by omega⟩)
        by_cases hf : -9223372036854775808 ≤ x * K ∧ x * K ≤ 9223372036854775807
        · have E := Lib.hid (ok_in hf.1 hf.2)
          have HF := Lib.hid hf
          clear hf
          go_wp2_with fail
          refine (KM.out _).mono ?_
          rintro e w4 ⟨rfl, b4⟩
          rw [E.out.1, E.out.2]
          have HS4 : Hid (SS K l w k v w4) := ⟨own_later HS.out.row b4, HS.out.below.trans (b4.mono HS.out.below.size), HS.out.fits⟩
          have HF2 : Hid (∀ j, j < k + 1 → -9223372036854775808 ≤ l.getD j 0 * K ∧ l.getD j 0 * K ≤ 9223372036854775807) := fun j hj => by
            by_cases ej : j = k
            · rw [ej, ← HX.out]; exact HF.out
            · exact HS.out.fits j (by omega)
          have s4 := HS4.out.below.size
          clear HS b4 ck E
          generalize x * K = y at *
          go_wp2_with (at_builtin; refine wpList_append_own _ rfl _ _ 22 rfl w.heap.size 2 i1 (.int .i64 0) 1 8 Try.underlying22 hj hy0 hy1 hy2 rfl (by decide) _ _ _ rfl (HS4.out.row.alloc _) ⟨w4.heap.size, 0, none⟩ 1 1 [.int .i64 y] rfl rfl ?d0 ?d1 ?d2 ?d3 ?d4 ?_)
          case d0 => exact one_new _ _ _
          case d1 => simp [Value.oneCell']
          case d2 => unfold maxLen; omega
          case d3 => omega
          case d4 => simp; omega
          intro v' w6 hown hgrow hnil
          clear hnil
          have W6 : Hid (SS K l w (k + 1) v' w6) := ⟨by rw [HT.out, List.map_take]; exact hown, HS4.out.below.trans (grown_below HS4.out.row s4 hgrow), HF2.out⟩
          clear HS4 hown hgrow
          go_wp2_with fail
          exact ⟨⟨k + 1, v', rfl, by go_num, by omega, W6⟩, by simp [intOf]; omega⟩
        · have E := Lib.hid (ok_out (n := x * K) (by omega))
          clear hf HT
          go_wp2_with fail
          refine (KM.out _).mono ?_
          rintro e w4 ⟨rfl, b4⟩
          rw [E.out.1, E.out.2]
          have B4 : Hid (Below w.heap.size w w4) := HS.out.below.trans (b4.mono HS.out.below.size)
          clear HS b4 ck E
          go_wp2_with fail
          refine (head_c _).mono ?_
          rintro e w5 ⟨rfl, b5⟩
          go_wp2_with fail
          go_ret
          exact ⟨rfl, B4.out.trans (b5.mono B4.out.size)⟩
      · obtain rfl : n = k := by omega
        have hkz : ¬ (n : Int) < (n : Int) := by omega
        have hrow := HS.out.row
        rw [List.take_of_length_le (by rw [scl_len, HN.out]; exact Nat.le_refl _)] at hrow
        obtain ⟨a2, c2, rfl, hI2⟩ := own_ints hrow (by rw [scl_len]; exact HN.out)
        have B0 := Lib.hid HS.out.below
        have HI2 := Lib.hid hI2
        have HM64 : Hid (∀ x ∈ scl K l, -9223372036854775808 ≤ x ∧ x ≤ 9223372036854775807) := fun x hx => by
          obtain ⟨j, hj, rfl⟩ := List.getElem_of_mem hx
          have := HS.out.fits j (by rw [scl_len] at hj; have := HN.out; omega)
          rw [← scl_at] at this
          simpa [hj] using this
        clear hrow hI2 HS
        by_cases hbad : good l = false ∨ T < 0 ∨ 4611686018427387904 ≤ T
        · have hbad2 : good (scl K l) = false ∨ T < 0 ∨ 4611686018427387904 ≤ T := by
            rcases hbad with h | h
            · left
              cases hg : good (scl K l) with
              | false => rfl
              | true => rw [scl_good hK1 hg] at h; cases h
            · exact Or.inr h
          have K1 := split_no T a cap l wr (HI.out.later B0.out) HRL.out (by rw [← HN.out]; exact hlen) hbad
          rw [← HN.out] at K1
          have K1H := Lib.hid K1
          have K2 := Lib.hid (fun w h => split_no T a2 c2 (scl K l) w h HM64.out (by rw [scl_len, ← HN.out]; exact hlen) hbad2)
          rw [scl_len, ← HN.out] at K2
          clear K1 hbad hbad2
          go_wp2_with fail
          refine K1H.out.mono ?_
          rintro e w4 ⟨rfl, b4⟩
          go_wp2_with fail
          refine (K2.out _ (HI2.out.later b4)).mono ?_
          rintro e w5 ⟨rfl, b5⟩
          have b45 : Below wr.heap.size wr w5 := b4.trans (b5.mono b4.size)
          go_wp2_with fail
          refine (head_c _).mono ?_
          rintro e w6 ⟨rfl, b6⟩
          have b46 : Below wr.heap.size wr w6 := b45.trans (b6.mono b45.size)
          go_wp2_with fail
          go_ret
          exact ⟨rfl, B0.out.trans (b46.mono B0.out.size)⟩
        · have hg : good l = true := by cases h : good l with | true => rfl | false => exact absurd (Or.inl h) hbad
          have h0 : 0 ≤ T := by omega
          have h1 : T < 4611686018427387904 := by omega
          have K1 := split_ok T a cap l wr (HI.out.later B0.out) HRL.out hg h0 h1
          rw [← HN.out] at K1
          have K1H := Lib.hid K1
          clear K1 hbad hg
          cases hg2 : good (scl K l) with
          | false =>
            have K2 := Lib.hid (fun w h => split_no T a2 c2 (scl K l) w h HM64.out (by rw [scl_len, ← HN.out]; exact hlen) (Or.inl hg2))
            rw [scl_len, ← HN.out] at K2
            clear hg2
            go_wp2_with fail
            refine K1H.out.mono ?_
            rintro e w4 ⟨g, rfl, O4, b4, -⟩
            clear O4
            go_wp2_with fail
            refine (K2.out _ (HI2.out.later b4)).mono ?_
            rintro e w5 ⟨rfl, b5⟩
            have b45 : Below wr.heap.size wr w5 := b4.trans (b5.mono b4.size)
            go_wp2_with fail
            refine (head_c _).mono ?_
            rintro e w6 ⟨rfl, b6⟩
            have b46 : Below wr.heap.size wr w6 := b45.trans (b6.mono b45.size)
            go_wp2_with fail
            go_ret
            exact ⟨rfl, B0.out.trans (b46.mono B0.out.size)⟩
          | true =>
            have K2 := Lib.hid (fun w h => split_ok T a2 c2 (scl K l) w h HM64.out hg2 h0 h1)
            rw [scl_len, ← HN.out, scl_sum, scl_out (show 0 < K by omega)] at K2
            have KS := Lib.hid (fun w a b ha hb => same_c a b n n (outl T l.sum l) (outl T l.sum l) w ha hb (by rw [outl_len, ← HN.out]; exact hlen) (by rw [outl_len, ← HN.out]; exact hlen) true (by simp))
            rw [outl_len, ← HN.out] at KS
            clear hg2 h0 h1
            go_wp2_with fail
            refine K1H.out.mono ?_
            rintro e w4 ⟨g, rfl, O4, b4, -⟩
            have O4 := Lib.hid O4
            go_wp2_with fail
            refine (K2.out _ (HI2.out.later b4)).mono ?_
            rintro e w5 ⟨g', rfl, O5, b5, -⟩
            have O45 := Lib.hid (O4.out.later b5)
            have O5 := Lib.hid O5
            have b45 : Below wr.heap.size wr w5 := b4.trans (b5.mono b4.size)
            clear b5
            go_wp2_with fail
            refine (KS.out _ _ _ O45.out O5.out).mono ?_
            rintro e w6 ⟨rfl, b6⟩
            have b46 : Below wr.heap.size wr w6 := b45.trans (b6.mono b45.size)
            clear b6
            go_wp2_with fail
            refine (head_c _).mono ?_
            rintro e w7 ⟨rfl, b7⟩
            have b47 : Below wr.heap.size wr w7 := b46.trans (b7.mono b46.size)
            go_wp2_with fail
            go_ret
            exact ⟨rfl, B0.out.trans (b47.mono B0.out.size)⟩
end Go.Proofs.Ytinfjfjheimceaa.Sp
