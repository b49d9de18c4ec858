/- Package split: the law of order. -/
import Derived.Test.YtinfjfjheimceaaSpHead
namespace Go.Proofs.Ytinfjfjheimceaa.Sp
open Go Go.RowKit Go.Lib Go.Proofs.Ytinfjfjheimceaa.So Rf Cm
section
variable {T A : Int} {l : List Int}
/-- A weight that is greater, or the same and ahead, has no lesser slice. -/
theorem Fine.order (F : Fine T A l) {i k : Nat} (hi : i < l.length) (hk : k < l.length) (h : l.getD k 0 < l.getD i 0 ∨ l.getD i 0 = l.getD k 0 ∧ i < k) : slice T A l k ≤ slice T A l i := by
  obtain ⟨qi0, qi1, ri0, ri1⟩ := F.q i hi
  obtain ⟨qk0, qk1, rk0, rk1⟩ := F.q k hk
  have ha := F.a0
  have t0 := F.t0
  have mi := Int.mul_ediv_add_emod (T * l.getD i 0) A
  have mk := Int.mul_ediv_add_emod (T * l.getD k 0) A
  have hmono : T * l.getD k 0 ≤ T * l.getD i 0 := Int.mul_le_mul_of_nonneg_left (by omega) t0
  have hq : T * l.getD k 0 / A ≤ T * l.getD i 0 / A := Int.ediv_le_ediv ha hmono
  by_cases e : T * l.getD k 0 / A = T * l.getD i 0 / A
  · by_cases hm : (cnt T A l k : Int) < Sp.left T A l
    · have hr := F.more hm hk
      have hb : bf (sh T A l i) (sh T A l k) := by
        unfold bf sh
        simp only
        rcases h with h | ⟨h, h2⟩
        · have hT : 0 < T := by
            rcases Int.lt_or_eq_of_le t0 with q | q
            · exact q
            · rw [← q] at hr; simp at hr
          have h3 : T * l.getD k 0 < T * l.getD i 0 := Int.mul_lt_mul_of_pos_left h hT
          left
          rw [e] at mk
          omega
        · right
          rw [h]; exact ⟨rfl, h2⟩
      have hc := cnt_lt hi hb
      unfold slice
      rw [if_pos hm, if_pos (by omega)]
      omega
    · unfold slice
      rw [if_neg hm]
      split <;> omega
  · unfold slice
    split <;> split <;> omega
theorem Fine.none (F : Fine T A l) {i : Nat} (hi : i < l.length) (h : l.getD i 0 = 0) : slice T A l i = 0 := by
  unfold slice
  by_cases hm : (cnt T A l i : Int) < Sp.left T A l
  · have := F.more hm hi
    rw [h] at this; simp at this
  · rw [if_neg hm, h]; simp
end
/-- What a row and its slices read as, at a place. -/
theorem both_at {w w' : World} {a : Option Addr} {g : Nat} {T A : Int} {l : List Int} (hI : Ints w a l) (hO : Ints w (some ⟨g, 0, none⟩) (outl T A l)) (hb : Below w.heap.size w w') {i : Nat} (hi : i < l.length) :
    ∃ b off, a = some ⟨b, off, none⟩ ∧ w'.cell? ⟨b, off + i, none⟩ = some (.int .i64 (l.getD i 0)) ∧ w'.cell? ⟨g, i, none⟩ = some (.int .i64 (slice T A l i)) := by
  obtain ⟨b, off, e, _, hc⟩ := (hI.later hb).at_ hi
  obtain ⟨b2, off2, e2, _, hc2⟩ := (hO.later hb).at_ (k := i) (by rw [outl_len]; exact hi)
  obtain ⟨rfl, rfl⟩ : g = b2 ∧ 0 = off2 := by simpa using e2
  rw [outl_at _ _ _ _ hi, Nat.zero_add] at hc2
  exact ⟨b, off, e, hc, hc2⟩
theorem drew_below {w w' : World} {B n : Nat} (h : Below B w w') : Below B w (w'.drewN n) := h.trans ⟨rfl, rfl, rfl, Nat.le_refl _, fun _ _ => rfl⟩
set_option maxRecDepth 100000 in
set_option maxHeartbeats 4000000 in
theorem order_law (T : Int) (a : Option Addr) (cap : Nat) (l : List Int) (w : World) (hI : Ints w a l) (hr : ∀ x ∈ l, -9223372036854775808 ≤ x ∧ x ≤ 9223372036854775807) (hlen : l.length ≤ 9223372036854775807) :
    Calls Try.prog 5 #[.int .i64 T, .slice a l.length cap] w fun e w' => e = .returned (.bool true) ∧ Below w.heap.size w w' := by
  by_cases hbad : good l = false ∨ T < 0 ∨ 4611686018427387904 ≤ T
  · have K := Lib.hid (split_no T a cap l w hI hr hlen hbad)
    clear hI hr hbad
    go_enter Try.func5, Try.ntmps5
    go_wp2_with fail
    refine K.out.mono ?_
    rintro e w1 ⟨rfl, b1⟩
    go_wp2_with fail
    refine (head_c _).mono ?_
    rintro e w2 ⟨rfl, b2⟩
    go_wp2_with fail
    go_ret
    exact ⟨rfl, b1.trans (b2.mono b1.size)⟩
  · have hg : good l = true := by cases h : good l with | true => rfl | false => exact absurd (Or.inl h) hbad
    have h0 : 0 ≤ T := by omega
    have h1 : T < 4611686018427387904 := by omega
    have K := Lib.hid (split_ok T a cap l w hI hr hg h0 h1)
    have FI := Lib.hid (fine_of hg h0 h1)
    have HI := Lib.hid hI
    obtain ⟨n, hn⟩ : ∃ n, n = l.length := ⟨_, rfl⟩
    rw [← hn] at hlen K ⊢
    have HN := Lib.hid hn
    clear hI hr hbad hg hn h0 h1
    by_cases hbig : 300 < n
    · have hz : (300 : Int) < (n : Int) := by omega
      go_enter Try.func5, Try.ntmps5
      go_wp2_with fail
      refine K.out.mono ?_
      rintro e w1 ⟨g, rfl, O1, b1, -⟩
      clear O1
      go_wp2_with fail
      refine (head_c _).mono ?_
      rintro e w2 ⟨rfl, b2⟩
      go_wp2_with fail
      go_ret
      exact ⟨rfl, b1.trans (b2.mono b1.size)⟩
    · have hz : ¬ (300 : Int) < (n : Int) := by omega
      have hzd : decide ((300 : Int) < (n : Int)) = false := decide_eq_false hz
      go_enter Try.func5, Try.ntmps5
      go_wp2_with fail
      refine K.out.mono ?_
      rintro e w1 ⟨g, rfl, O1, b1, -⟩
      have J1 := Lib.hid (And.intro (HI.out.later b1) O1)
      have B1 := Lib.hid b1
      clear O1 b1 K HI
      go_wp2_with fail
      go_loopw [7] (fun s wr => ∃ i : Nat, s = .int .i64 (i : Int) ∧ i ≤ n ∧ Hid (Below w1.heap.size w1 wr)) (fun s _ => n - (intOf s).toNat)
      case atStart => exact ⟨0, rfl, Nat.zero_le _, Lib.hid (Below.refl _ _)⟩
      case round =>
        obtain ⟨i, rfl, hin, HB⟩ := hrel
        by_cases hlt : i < n
        · have hiz : (i : Int) < (n : Int) := by omega
          have hil : i < l.length := by rw [← HN.out]; exact hlt
          obtain ⟨b, off, rfl, ci, oi⟩ := both_at J1.out.1 J1.out.2 HB.out hil
          have o0 := (FI.out.slice_bd hil).1
          have hz0 := Lib.hid (fun h => FI.out.none hil h)
          obtain ⟨x, hx⟩ : ∃ x, x = l.getD i 0 := ⟨_, rfl⟩
          obtain ⟨y, hy⟩ : ∃ y, y = slice T l.sum l i := ⟨_, rfl⟩
          rw [← hx] at ci hz0
          rw [← hy] at oi o0 hz0
          have HX := Lib.hid (And.intro hx hy)
          clear hx hy
          have hy1 : ¬ y < 0 := by omega
          have hy2 : decide (y < 0) = false := decide_eq_false hy1
          obtain ⟨wo, hwo⟩ : ∃ u : World, u = wr := ⟨_, rfl⟩
          have HBo : Hid (Below w1.heap.size w1 wo) := by rw [hwo]; exact HB
          rw [← hwo] at ci oi ⊢
          clear HB hwo
          by_cases hx0 : x = 0
          · have hy0 := hz0.out hx0
            have e1 : (x == 0) = true := by simpa using hx0
            have e2 : (y == 0) = true := by simpa using hy0
            have e3 : (y != 0) = false := by simpa using hy0
            clear hx0 hy0
            go_wp2_with fail
            go_loopw [8] (fun s wr => ∃ k : Nat, s = .int .i64 (k : Int) ∧ k ≤ n ∧ Hid (Below w1.heap.size w1 wr)) (fun s _ => n - (intOf s).toNat)
            case atStart => exact ⟨0, rfl, Nat.zero_le _, HBo⟩
            case round =>
              obtain ⟨k, rfl, hkn, HBi⟩ := hrel
              by_cases hkt : k < n
              · have hkz : (k : Int) < (n : Int) := by omega
                have hkl : k < l.length := by rw [← HN.out]; exact hkt
                clear ci oi
                obtain ⟨b', off', eb, ci, oi⟩ := both_at J1.out.1 J1.out.2 HBi.out hil
                obtain ⟨rfl, rfl⟩ : b = b' ∧ off = off' := by simpa using eb
                obtain ⟨b', off', eb2, ck, ok⟩ := both_at J1.out.1 J1.out.2 HBi.out hkl
                obtain ⟨rfl, rfl⟩ : b = b' ∧ off = off' := by simpa using eb2
                clear eb eb2
                have hord := Lib.hid (FI.out.order hil hkl)
                rw [← HX.out.1] at ci hord
                rw [← HX.out.2] at oi hord
                obtain ⟨u, hu⟩ : ∃ u, u = l.getD k 0 := ⟨_, rfl⟩
                obtain ⟨v, hv⟩ : ∃ v, v = slice T l.sum l k := ⟨_, rfl⟩
                rw [← hu] at ck hord
                rw [← hv] at ok hord
                clear hu hv
                by_cases c1 : u < x
                · have c2 : ¬ y < v := by have := hord.out (Or.inl c1); omega
                  have c3 : decide (y < v) = false := decide_eq_false c2
                  have c4 : decide (u < x) = true := decide_eq_true c1
                  have c5 : decide (x > u) = true := decide_eq_true c1
                  go_wp2_with fail
                  go_quiet (fail)
                  go_wp2_with fail
                  exact ⟨⟨k + 1, by go_num, by omega, Lib.hid (drew_below HBi.out)⟩, by simp [intOf]; omega⟩
                · have c4 : decide (u < x) = false := decide_eq_false c1
                  by_cases c6 : x = u
                  · have c7 : (x == u) = true := by simpa using c6
                    by_cases c8 : i < k
                    · have c2 : ¬ y < v := by have := hord.out (Or.inr ⟨c6, c8⟩); omega
                      have c3 : decide (y < v) = false := decide_eq_false c2
                      have c9 : (i : Int) < (k : Int) := by omega
                      have c10 : decide ((i : Int) < (k : Int)) = true := decide_eq_true c9
                      have c11 : decide (i < k) = true := decide_eq_true c8
                      clear c6
                      go_wp2_with fail
                      go_quiet (fail)
                      go_wp2_with fail
                      exact ⟨⟨k + 1, by go_num, by omega, Lib.hid (drew_below HBi.out)⟩, by simp [intOf]; omega⟩
                    · have c9 : ¬ (i : Int) < (k : Int) := by omega
                      have c10 : decide ((i : Int) < (k : Int)) = false := decide_eq_false c9
                      have c11 : decide (i < k) = false := decide_eq_false c8
                      clear c6
                      go_wp2_with fail
                      go_quiet (fail)
                      go_wp2_with fail
                      exact ⟨⟨k + 1, by go_num, by omega, Lib.hid (drew_below HBi.out)⟩, by simp [intOf]; omega⟩
                  · have c7 : (x == u) = false := by simpa using c6
                    clear c6
                    go_wp2_with fail
                    go_quiet (fail)
                    go_wp2_with fail
                    exact ⟨⟨k + 1, by go_num, by omega, Lib.hid (drew_below HBi.out)⟩, by simp [intOf]; omega⟩
              · have hkz : ¬ (k : Int) < (n : Int) := by omega
                go_wp2_with fail
                exact ⟨⟨i + 1, by go_num, by omega, HBi⟩, by simp [intOf]; omega⟩
          · have e1 : (x == 0) = false := by simpa using hx0
            go_wp2_with fail
            go_loopw [8] (fun s wr => ∃ k : Nat, s = .int .i64 (k : Int) ∧ k ≤ n ∧ Hid (Below w1.heap.size w1 wr)) (fun s _ => n - (intOf s).toNat)
            case atStart => exact ⟨0, rfl, Nat.zero_le _, HBo⟩
            case round =>
              obtain ⟨k, rfl, hkn, HBi⟩ := hrel
              by_cases hkt : k < n
              · have hkz : (k : Int) < (n : Int) := by omega
                have hkl : k < l.length := by rw [← HN.out]; exact hkt
                clear ci oi
                obtain ⟨b', off', eb, ci, oi⟩ := both_at J1.out.1 J1.out.2 HBi.out hil
                obtain ⟨rfl, rfl⟩ : b = b' ∧ off = off' := by simpa using eb
                obtain ⟨b', off', eb2, ck, ok⟩ := both_at J1.out.1 J1.out.2 HBi.out hkl
                obtain ⟨rfl, rfl⟩ : b = b' ∧ off = off' := by simpa using eb2
                clear eb eb2
                have hord := Lib.hid (FI.out.order hil hkl)
                rw [← HX.out.1] at ci hord
                rw [← HX.out.2] at oi hord
                obtain ⟨u, hu⟩ : ∃ u, u = l.getD k 0 := ⟨_, rfl⟩
                obtain ⟨v, hv⟩ : ∃ v, v = slice T l.sum l k := ⟨_, rfl⟩
                rw [← hu] at ck hord
                rw [← hv] at ok hord
                clear hu hv
                by_cases c1 : u < x
                · have c2 : ¬ y < v := by have := hord.out (Or.inl c1); omega
                  have c3 : decide (y < v) = false := decide_eq_false c2
                  have c4 : decide (u < x) = true := decide_eq_true c1
                  have c5 : decide (x > u) = true := decide_eq_true c1
                  go_wp2_with fail
                  go_quiet (fail)
                  go_wp2_with fail
                  exact ⟨⟨k + 1, by go_num, by omega, Lib.hid (drew_below HBi.out)⟩, by simp [intOf]; omega⟩
                · have c4 : decide (u < x) = false := decide_eq_false c1
                  by_cases c6 : x = u
                  · have c7 : (x == u) = true := by simpa using c6
                    by_cases c8 : i < k
                    · have c2 : ¬ y < v := by have := hord.out (Or.inr ⟨c6, c8⟩); omega
                      have c3 : decide (y < v) = false := decide_eq_false c2
                      have c9 : (i : Int) < (k : Int) := by omega
                      have c10 : decide ((i : Int) < (k : Int)) = true := decide_eq_true c9
                      have c11 : decide (i < k) = true := decide_eq_true c8
                      clear c6
                      go_wp2_with fail
                      go_quiet (fail)
                      go_wp2_with fail
                      exact ⟨⟨k + 1, by go_num, by omega, Lib.hid (drew_below HBi.out)⟩, by simp [intOf]; omega⟩
                    · have c9 : ¬ (i : Int) < (k : Int) := by omega
                      have c10 : decide ((i : Int) < (k : Int)) = false := decide_eq_false c9
                      have c11 : decide (i < k) = false := decide_eq_false c8
                      clear c6
                      go_wp2_with fail
                      go_quiet (fail)
                      go_wp2_with fail
                      exact ⟨⟨k + 1, by go_num, by omega, Lib.hid (drew_below HBi.out)⟩, by simp [intOf]; omega⟩
                  · have c7 : (x == u) = false := by simpa using c6
                    clear c6
                    go_wp2_with fail
                    go_quiet (fail)
                    go_wp2_with fail
                    exact ⟨⟨k + 1, by go_num, by omega, Lib.hid (drew_below HBi.out)⟩, by simp [intOf]; omega⟩
              · have hkz : ¬ (k : Int) < (n : Int) := by omega
                go_wp2_with fail
                exact ⟨⟨i + 1, by go_num, by omega, HBi⟩, by simp [intOf]; omega⟩
        · have hiz : ¬ (i : Int) < (n : Int) := by omega
          go_wp2_with fail
          refine (head_c _).mono ?_
          rintro e w2 ⟨rfl, b2⟩
          go_wp2_with fail
          go_ret
          exact ⟨rfl, B1.out.trans ((HB.out.trans (b2.mono HB.out.size)).mono B1.out.size)⟩
end Go.Proofs.Ytinfjfjheimceaa.Sp
