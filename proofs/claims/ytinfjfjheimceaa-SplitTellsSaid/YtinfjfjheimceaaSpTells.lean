/- Package split: the law of what it tells. -/
import Derived.Test.YtinfjfjheimceaaSpRef2
import Derived.Test.YtinfjfjheimceaaSpRows
import Derived.Laws.AppendOwnNone
namespace Go.Proofs.Ytinfjfjheimceaa.Sp
open Go Go.RowKit Go.Lib Go.Proofs.Ytinfjfjheimceaa.So Rf Cm
open Go.Sort (SWO SortedIn insertionSort insertionSort_holds)
theorem swo_bf : SWO (fun x y : Sh => decide (bf x y)) where
  irrefl x := decide_eq_false (bf_irrefl x)
  trans x y z h1 h2 := decide_eq_true (bf_trans x y z (of_decide_eq_true h1) (of_decide_eq_true h2))
  ntrans x y z h1 h2 := by
    have h1 := of_decide_eq_false h1
    have h2 := of_decide_eq_false h2
    refine decide_eq_false ?_
    unfold bf at *; omega
/-- There is a sorted row. -/
theorem sorted_is (T A : Int) (l : List Int) : ∃ d, Sorted T A l d := by
  obtain ⟨h1, h2⟩ := insertionSort_holds (lt := fun x y : Sh => decide (bf x y)) swo_bf (shs T A l l.length) 0 l.length (Nat.zero_le _) (by rw [shs_size]; exact Nat.le_refl _)
  generalize insertionSort (fun x y : Sh => decide (bf x y)) (shs T A l l.length) 0 l.length = d at h1 h2
  have hz : d.size = l.length := by rw [h1.1, shs_size]
  have hp : ((List.range l.length).map fun i => d[i]!).Perm ((List.range l.length).map fun i => sh T A l i) := by
    have h := h1.2.2
    have e1 := extract_list d
    have e2 := extract_list (shs T A l l.length)
    rw [hz] at e1
    rw [shs_size] at e2
    rw [e1, e2] at h
    exact h.trans (List.Perm.of_eq (List.map_congr_left fun i hi => shs_get _ _ _ _ _ (List.mem_range.1 hi)))
  have hn : ((List.range l.length).map fun i => (d[i]!).1).Nodup := by
    have h := hp.map (fun x : Sh => x.1)
    rw [List.map_map, List.map_map] at h
    refine h.nodup_iff.2 ?_
    have : (List.range l.length).map ((fun x : Sh => x.1) ∘ fun i => sh T A l i) = List.range l.length := by
      conv => rhs; rw [← List.map_id (List.range l.length)]
      exact List.map_congr_left fun i _ => rfl
    rw [this]
    exact List.nodup_range
  refine ⟨d, h1, fun i j g1 g2 g3 => ?_⟩
  have hb := of_decide_eq_false (h2 i j g1 g2 g3)
  have hne : (d[i]!).1 ≠ (d[j]!).1 := by
    have := List.pairwise_iff_getElem.1 hn i j (by simp; omega) (by simp; omega) g2
    simpa using this
  rcases bf_total hne with h | h
  · exact h
  · exact absurd h hb
/-- What a call answers: a row, and an error. -/
def Ret (L : List Int) (f : Int) (w : World) (e : Ending) (w' : World) : Prop := ∃ a c, e = .returned (.tuple #[.slice a L.length c, .int .i64 f]) ∧ Ints w' a L ∧ Below w.heap.size w w'
def I64s (l : List Int) : Prop := ∀ x ∈ l, -9223372036854775808 ≤ x ∧ x ≤ 9223372036854775807
theorem both_split (T : Int) (l : List Int) (hr : I64s l) (hlen : l.length ≤ 9223372036854775807) : ∃ (L : List Int) (f : Int), L.length ≤ 9223372036854775807 ∧
    (∀ w a cap, Ints w a l → Calls Try.prog 9 #[.int .i64 T, .slice a l.length cap] w (Ret L f w)) ∧ ∀ w a cap, Ints w a l → Calls Try.prog 10 #[.int .i64 T, .slice a l.length cap] w (Ret L f w) := by
  by_cases hbad : good l = false ∨ T < 0 ∨ 4611686018427387904 ≤ T
  · exact ⟨[], 2, by simp, fun w a cap h => (split_no T a cap l w h hr hlen hbad).mono fun e w' ⟨he, hb⟩ => ⟨none, 0, he, Or.inl rfl, hb⟩, fun w a cap h => (rsplit_no T a cap l w h hr hlen hbad).mono fun e w' ⟨he, hb⟩ => ⟨none, 0, he, Or.inl rfl, hb⟩⟩
  · have hg : good l = true := by cases h : good l with | true => rfl | false => exact absurd (Or.inl h) hbad
    obtain ⟨d, hS⟩ := sorted_is T l.sum l
    refine ⟨outl T l.sum l, 0, by rw [outl_len]; exact hlen, fun w a cap h => (split_ok T a cap l w h hr hg (by omega) (by omega)).mono fun e w' ⟨g, he, hi, hb, _⟩ => ⟨_, _, by rw [outl_len]; exact he, hi, hb⟩, fun w a cap h => (rsplit_ok T a cap l w h hr hg (by omega) (by omega) d hS).mono fun e w' ⟨g, c, he, hi, hb⟩ => ⟨_, _, by rw [outl_len]; exact he, hi, hb⟩⟩
/-- How many weights 1 the statement lays. -/
def manyN (n : Int) : Nat := if n < 0 then 0 else if 4097 ≤ n then 4097 else n.toNat
theorem manyN_le (n : Int) : manyN n ≤ 4097 := by
  unfold manyN
  split
  · omega
  · split <;> omega
theorem both_even (T n : Int) (hn : n ≤ 100 ∨ 4096 < n) : ∃ (L : List Int) (f : Int), L.length ≤ 9223372036854775807 ∧
    (∀ w, Calls Try.prog 12 #[.int .i64 T, .int .i64 n] w (Ret L f w)) ∧ ∀ w a cap, Ints w a (List.replicate (manyN n) 1) → Calls Try.prog 10 #[.int .i64 T, .slice a (manyN n) cap] w (Ret L f w) := by
  by_cases h1 : n < 1 ∨ 4096 < n
  · refine ⟨[], 2, by simp, fun w => (even_no2 T n w h1).mono fun e w' ⟨he, hb⟩ => ⟨none, 0, he, Or.inl rfl, hb⟩, fun w a cap h => ?_⟩
    have hg : good (List.replicate (manyN n) 1) = false := good_no fun g => by
      rw [List.length_replicate, sum_rep] at g
      unfold manyN at g
      split at g
      · omega
      · split at g <;> omega
    have K := rsplit_no T a cap _ w h (rep_i64 _) (by rw [List.length_replicate]; have := manyN_le n; omega) (Or.inl hg)
    rw [List.length_replicate] at K
    exact K.mono fun e w' ⟨he, hb⟩ => ⟨none, 0, he, Or.inl rfl, hb⟩
  · obtain ⟨m, rfl⟩ := Int.eq_ofNat_of_zero_le (show 0 ≤ n by omega)
    have hm : manyN (m : Int) = m := by unfold manyN; rw [if_neg (by omega), if_neg (by omega)]; simp
    rw [hm]
    by_cases hT : T < 0 ∨ 4611686018427387904 ≤ T
    · refine ⟨[], 2, by simp, fun w => (even_no1 T m w (by omega) (by omega) hT).mono fun e w' ⟨he, hb⟩ => ⟨none, 0, he, Or.inl rfl, hb⟩, fun w a cap h => ?_⟩
      have K := rsplit_no T a cap _ w h (rep_i64 _) (by rw [List.length_replicate]; omega) (Or.inr hT)
      rw [List.length_replicate] at K
      exact K.mono fun e w' ⟨he, hb⟩ => ⟨none, 0, he, Or.inl rfl, hb⟩
    · obtain ⟨d, hS⟩ := sorted_is T (List.replicate m (1 : Int)).sum (List.replicate m 1)
      have hl : (outl T (m : Int) (List.replicate m 1)).length = m := by rw [outl_len, List.length_replicate]
      refine ⟨outl T m (List.replicate m 1), 0, by rw [hl]; omega, fun w => (even_ok T m w (by omega) (by omega) (by omega) (by omega)).mono fun e w' ⟨g, he, hi, hb, _⟩ => ⟨_, _, by rw [hl]; exact he, hi, hb⟩, fun w a cap h => ?_⟩
      have K := rsplit_ok T a cap (List.replicate m 1) w h (rep_i64 m) (good_rep (by omega) (by omega)) (by omega) (by omega) d hS
      rw [List.length_replicate] at K
      exact K.mono fun e w' ⟨g, c, he, hi, hb⟩ => ⟨_, _, by rw [hl]; rwa [List.length_replicate] at he, by rwa [sum_rep] at hi, hb⟩
/-- n weights 1 so far. -/
structure OS (w : World) (k : Nat) (v : Value) (wr : World) : Prop where
  row : wr.ownsRow w.heap.size 2 1 v k ((List.replicate k (1 : Int)).map (Value.int .i64))
  below : Below w.heap.size w wr
theorem rep_snoc (k : Nat) : ((List.replicate (k + 1) (1 : Int)).map (Value.int .i64)) = (List.replicate k (1 : Int)).map (Value.int .i64) ++ [.int .i64 1] := by rw [List.replicate_succ', List.map_append]; rfl
theorem own_none (W : World) (t base : Nat) (hb : base ≤ W.heap.size) : (W.alloc (.cells #[] t)).ownsRow base t 1 (.slice (some ⟨W.heap.size, 0, none⟩) 0 0) 0 [] :=
  ⟨rfl, .inr ⟨W.heap.size, 0, #[], rfl, hb, World.alloc_heap_new W _, Nat.le_refl _, by unfold maxLen; omega, rfl, rfl⟩⟩
set_option maxRecDepth 100000 in
set_option maxHeartbeats 4000000 in
theorem tells_walk (T n : Int) (a : Option Addr) (cap : Nat) (l : List Int) (w : World) (hI : Ints w a l) (hr : I64s l) (hl : l.length ≤ 100 ∨ 4096 < l.length ∧ l.length ≤ 4200) (hn : n ≤ 100 ∨ 4096 < n) (hn1 : n ≤ 9223372036854775807) (hn0 : -9223372036854775808 ≤ n) (hnil : a = none → cap = 0) :
    Calls Try.prog 3 #[.int .i64 T, .slice a l.length cap, .int .i64 n] w fun e w' => e = .returned (.bool true) ∧ Below w.heap.size w w' := by
  obtain ⟨L, f, hLl, KS, KR⟩ := both_split T l hr (by omega)
  obtain ⟨M, g, hMl, KE, KQ⟩ := both_even T n hn
  have KSame := Lib.hid (fun (L : List Int) (h : L.length ≤ 9223372036854775807) w a b ca cb ha hb => same_c a b ca cb L L w ha hb h h true (by simp))
  have KS := Lib.hid KS
  have KR := Lib.hid KR
  have KE := Lib.hid KE
  have KQ := Lib.hid KQ
  have HI := Lib.hid hI
  have HMN := Lib.hid (manyN_le n)
  obtain ⟨m, hm⟩ : ∃ m, m = l.length := ⟨_, rfl⟩
  rw [← hm] at hl KS KR ⊢
  have HM := Lib.hid hm
  have KOwn := Lib.hid (KSame.out l (by rw [← hm]; omega))
  rw [← hm] at KOwn
  obtain ⟨i1, hj, hy0, hy1, hy2⟩ := info_parts infoI64
  have O0 := Lib.hid (own_none w 2 w.heap.size (Nat.le_refl _))
  have B0 := Lib.hid ((Below.refl w.heap.size w).alloc (Nat.le_refl _) (.cells #[] 2))
  have hmm : m ≤ 4200 := by omega
  have q3 : ¬ (4200 : Int) < (m : Int) := by omega
  have q3d : decide ((4200 : Int) < (m : Int)) = false := decide_eq_false q3
  have ql : Hid (decide ((100 : Int) < (m : Int)) = false ∨ decide ((100 : Int) < (m : Int)) = true ∧ decide ((m : Int) ≤ 4096) = false) := by
    rcases hl with h | h
    · exact Or.inl (decide_eq_false (by omega))
    · exact Or.inr ⟨decide_eq_true (by omega), decide_eq_false (by omega)⟩
  have qn : Hid (decide (100 < n) = false ∨ decide (100 < n) = true ∧ decide (n ≤ 4096) = false) := by
    rcases hn with h | h
    · exact Or.inl (decide_eq_false (by omega))
    · exact Or.inr ⟨decide_eq_true (by omega), decide_eq_false (by omega)⟩
  have KA : Hid (∀ ad, a = some ad → ∀ (j : Nat) (u : Value), (l.map (Value.int .i64))[j]? = some u → w.cell? (ad.add j) = some u) := fun ad e j u hu => by
    rcases hI with h | ⟨b, off, h1, h2, h3⟩
    · rw [h] at hu; simp at hu
    · obtain rfl : ad = ⟨b, off, none⟩ := by rw [h1] at e; exact (Option.some.inj e).symm
      obtain ⟨hj, rfl⟩ := List.getElem?_eq_some_iff.1 hu
      have hj : j < l.length := by simpa using hj
      rw [Go.WideShapes.add_plain, h3 j hj]
      simp [hj]
  clear hI hr hl hn hm
  cases a with
  | none =>
    obtain rfl := hnil rfl
    have hl0 : Hid (m = 0 ∧ l = []) := by
      rcases HI.out with h | ⟨_, _, h, _⟩
      · exact ⟨by rw [HM.out, h]; rfl, h⟩
      · cases h
    obtain rfl := hl0.out.1
    clear hnil KA
    rcases ql.out with ql1 | ⟨ql1, ql2⟩ <;> rcases qn.out with qn1 | ⟨qn1, qn2⟩
    · go_enter Try.func3, Try.ntmps3
      go_wp2_with (at_builtin; refine wpList_append_own_none rfl _ _ 22 rfl w.heap.size 2 i1 1 Try.underlying22 hj _ 0 [] rfl O0.out rfl ?_)
      have W5 : Hid ((w.alloc (.cells #[] 2)).ownsRow w.heap.size 2 1 (.slice (some ⟨w.heap.size, 0, none⟩) 0 0) 0 (l.map (Value.int .i64)) ∧ Below w.heap.size w (w.alloc (.cells #[] 2))) := ⟨by rw [hl0.out.2]; exact O0.out, B0.out⟩
      generalize hvv : (Value.slice (some ⟨w.heap.size, 0, none⟩) 0 0) = v' at W5 ⊢
      generalize (w.alloc (.cells #[] 2)) = w5 at W5 ⊢
      clear hvv
      obtain ⟨a', c', rfl, I5⟩ := own_ints W5.out.1 HM.out
      have B5 := Lib.hid W5.out.2
      have I5 := Lib.hid I5
      clear W5
      go_wp2_with fail
      refine (KS.out _ _ _ I5.out).mono ?_
      rintro e w6 ⟨aS, cS, rfl, IS, b6⟩
      have B6 : Hid (Below w.heap.size w w6) := B5.out.trans (b6.mono B5.out.size)
      have I6 := Lib.hid (And.intro (I5.out.later b6) IS)
      clear IS b6 B5 I5
      go_wp2_with fail
      refine (KR.out _ _ _ (HI.out.later B6.out)).mono ?_
      rintro e w7 ⟨aR, cR, rfl, IR, b7⟩
      have B7 : Hid (Below w.heap.size w w7) := B6.out.trans (b7.mono B6.out.size)
      have I7 := Lib.hid (And.intro (I6.out.1.later b7) (And.intro (I6.out.2.later b7) IR))
      clear IR b7 B6 I6
      go_wp2_with fail
      refine (KSame.out L hLl _ _ _ _ _ I7.out.2.1 I7.out.2.2).mono ?_
      rintro e w8 ⟨rfl, b8⟩
      have B8 : Hid (Below w.heap.size w w8) := B7.out.trans (b8.mono B7.out.size)
      have I8 := Lib.hid (I7.out.1.later b8)
      clear b8 B7 I7
      have ff : (f == f) = true := by simp
      have ff2 : (f != f) = false := by simp
      go_wp2_with fail
      refine (KOwn.out _ _ _ _ _ I8.out (HI.out.later B8.out)).mono ?_
      rintro e w9 ⟨rfl, b9⟩
      have B9 : Hid (Below w.heap.size w w9) := B8.out.trans (b9.mono B8.out.size)
      clear b9 B8 I8
      go_wp2_with fail
      have W0 : Hid (OS w9 0 (.slice none 0 0) w9) := ⟨World.ownsRow_nil _ _ _ _, Below.refl _ _⟩
      go_loopw [12, 13] (fun s12 s13 wr => ∃ (k : Nat) (v : Value), v = s12 ∧ s13 = .int .i64 (k : Int) ∧ k ≤ manyN n ∧ Hid (OS w9 k v wr)) (fun _ s13 _ => 4097 - (intOf s13).toNat)
      case atStart => exact ⟨0, _, rfl, rfl, Nat.zero_le _, W0⟩
      case round =>
        clear W0
        obtain ⟨k, v, rfl, rfl, hk, HS⟩ := hrel
        by_cases hlt : k < manyN n
        · have k1 : (k : Int) < n := by unfold manyN at hlt; split at hlt; · omega
                                        · split at hlt <;> omega
          have k2 : (k : Int) < 4097 := by have := HMN.out; omega
          have k3 : k < 4097 := by omega
          have s9 := HS.out.below.size
          clear hlt hk
          go_wp2_with (at_builtin; refine wpList_append_own _ rfl _ _ 22 rfl w9.heap.size 2 i1 (.int .i64 0) 1 8 Try.underlying22 hj hy0 hy1 hy2 rfl (by decide) _ _ _ rfl (HS.out.row.alloc _) ⟨wr.heap.size, 0, none⟩ 1 1 [.int .i64 1] rfl rfl ?px00 ?px01 ?px02 ?px03 ?px04 ?_)
          case px00 => exact one_at _ _ _
          case px01 => simp [Value.oneCell']
          case px02 => unfold maxLen; omega
          case px03 => omega
          case px04 => simp; omega
          intro v' w10 hown hgrow hnil'
          clear hnil'
          have W10 : Hid (OS w9 (k + 1) v' w10) := ⟨by rw [rep_snoc]; simpa using hown, HS.out.below.trans (grown_below HS.out.row s9 hgrow)⟩
          clear hown hgrow HS s9
          go_wp2_with fail
          refine ⟨⟨k + 1, v', rfl, by go_num, ?_, W10⟩, by simp [intOf]; omega⟩
          unfold manyN
          split
          · omega
          · split <;> omega
        · obtain rfl : k = manyN n := by omega
          obtain ⟨a3, c3, rfl, I10⟩ := own_ints HS.out.row (by simp)
          have B10 : Hid (Below w.heap.size w wr) := B9.out.trans (HS.out.below.mono B9.out.size)
          have I10 := Lib.hid I10
          have kk : Hid (¬ ((manyN n : Int) < n) ∨ ¬ ((manyN n : Int) < 4097)) := by
            show ¬ ((manyN n : Int) < n) ∨ ¬ ((manyN n : Int) < 4097)
            unfold manyN
            split
            · left; omega
            · split
              · right; omega
              · left; omega
          clear HS hlt hk
          generalize manyN n = N at *
          have hgo : ∀ P : Prop, (decide ((N : Int) < n) = false → P) → (decide ((N : Int) < n) = true → decide ((N : Int) < 4097) = false → P) → P := fun P p1 p2 => by
            by_cases c1 : (N : Int) < n
            · exact p2 (decide_eq_true c1) (decide_eq_false (kk.out.resolve_left (fun h => h c1)))
            · exact p1 (decide_eq_false c1)
          refine hgo _ (fun x1 => ?_) (fun x1 x2 => ?_)
          all_goals
            clear hgo kk
            go_wp2_with fail
            refine (KE.out _).mono ?_
            rintro e w11 ⟨aE, cE, rfl, IE, b11⟩
            have B11 : Hid (Below w.heap.size w w11) := B10.out.trans (b11.mono B10.out.size)
            have I11 := Lib.hid (And.intro (I10.out.later b11) IE)
            clear b11 B10 I10 IE
            go_wp2_with fail
            refine (KQ.out _ _ _ I11.out.1).mono ?_
            rintro e w12 ⟨aQ, cQ, rfl, IQ, b12⟩
            have B12 : Hid (Below w.heap.size w w12) := B11.out.trans (b12.mono B11.out.size)
            have I12 := Lib.hid (And.intro (I11.out.2.later b12) IQ)
            clear b12 B11 I11 IQ
            go_wp2_with fail
            refine (KSame.out M hMl _ _ _ _ _ I12.out.1 I12.out.2).mono ?_
            rintro e w13 ⟨rfl, b13⟩
            have B13 : Hid (Below w.heap.size w w13) := B12.out.trans (b13.mono B12.out.size)
            clear b13 B12 I12
            have gg : (g == g) = true := by simp
            go_wp2_with fail
            refine (head_c _).mono ?_
            rintro e w14 ⟨rfl, b14⟩
            have B14 : Hid (Below w.heap.size w w14) := B13.out.trans (b14.mono B13.out.size)
            go_wp2_with fail
            go_ret
            exact ⟨rfl, B14.out⟩
    · go_enter Try.func3, Try.ntmps3
      go_wp2_with (at_builtin; refine wpList_append_own_none rfl _ _ 22 rfl w.heap.size 2 i1 1 Try.underlying22 hj _ 0 [] rfl O0.out rfl ?_)
      have W5 : Hid ((w.alloc (.cells #[] 2)).ownsRow w.heap.size 2 1 (.slice (some ⟨w.heap.size, 0, none⟩) 0 0) 0 (l.map (Value.int .i64)) ∧ Below w.heap.size w (w.alloc (.cells #[] 2))) := ⟨by rw [hl0.out.2]; exact O0.out, B0.out⟩
      generalize hvv : (Value.slice (some ⟨w.heap.size, 0, none⟩) 0 0) = v' at W5 ⊢
      generalize (w.alloc (.cells #[] 2)) = w5 at W5 ⊢
      clear hvv
      obtain ⟨a', c', rfl, I5⟩ := own_ints W5.out.1 HM.out
      have B5 := Lib.hid W5.out.2
      have I5 := Lib.hid I5
      clear W5
      go_wp2_with fail
      refine (KS.out _ _ _ I5.out).mono ?_
      rintro e w6 ⟨aS, cS, rfl, IS, b6⟩
      have B6 : Hid (Below w.heap.size w w6) := B5.out.trans (b6.mono B5.out.size)
      have I6 := Lib.hid (And.intro (I5.out.later b6) IS)
      clear IS b6 B5 I5
      go_wp2_with fail
      refine (KR.out _ _ _ (HI.out.later B6.out)).mono ?_
      rintro e w7 ⟨aR, cR, rfl, IR, b7⟩
      have B7 : Hid (Below w.heap.size w w7) := B6.out.trans (b7.mono B6.out.size)
      have I7 := Lib.hid (And.intro (I6.out.1.later b7) (And.intro (I6.out.2.later b7) IR))
      clear IR b7 B6 I6
      go_wp2_with fail
      refine (KSame.out L hLl _ _ _ _ _ I7.out.2.1 I7.out.2.2).mono ?_
      rintro e w8 ⟨rfl, b8⟩
      have B8 : Hid (Below w.heap.size w w8) := B7.out.trans (b8.mono B7.out.size)
      have I8 := Lib.hid (I7.out.1.later b8)
      clear b8 B7 I7
      have ff : (f == f) = true := by simp
      have ff2 : (f != f) = false := by simp
      go_wp2_with fail
      refine (KOwn.out _ _ _ _ _ I8.out (HI.out.later B8.out)).mono ?_
      rintro e w9 ⟨rfl, b9⟩
      have B9 : Hid (Below w.heap.size w w9) := B8.out.trans (b9.mono B8.out.size)
      clear b9 B8 I8
      go_wp2_with fail
      have W0 : Hid (OS w9 0 (.slice none 0 0) w9) := ⟨World.ownsRow_nil _ _ _ _, Below.refl _ _⟩
      go_loopw [12, 13] (fun s12 s13 wr => ∃ (k : Nat) (v : Value), v = s12 ∧ s13 = .int .i64 (k : Int) ∧ k ≤ manyN n ∧ Hid (OS w9 k v wr)) (fun _ s13 _ => 4097 - (intOf s13).toNat)
      case atStart => exact ⟨0, _, rfl, rfl, Nat.zero_le _, W0⟩
      case round =>
        clear W0
        obtain ⟨k, v, rfl, rfl, hk, HS⟩ := hrel
        by_cases hlt : k < manyN n
        · have k1 : (k : Int) < n := by unfold manyN at hlt; split at hlt; · omega
                                        · split at hlt <;> omega
          have k2 : (k : Int) < 4097 := by have := HMN.out; omega
          have k3 : k < 4097 := by omega
          have s9 := HS.out.below.size
          clear hlt hk
          go_wp2_with (at_builtin; refine wpList_append_own _ rfl _ _ 22 rfl w9.heap.size 2 i1 (.int .i64 0) 1 8 Try.underlying22 hj hy0 hy1 hy2 rfl (by decide) _ _ _ rfl (HS.out.row.alloc _) ⟨wr.heap.size, 0, none⟩ 1 1 [.int .i64 1] rfl rfl ?px10 ?px11 ?px12 ?px13 ?px14 ?_)
          case px10 => exact one_at _ _ _
          case px11 => simp [Value.oneCell']
          case px12 => unfold maxLen; omega
          case px13 => omega
          case px14 => simp; omega
          intro v' w10 hown hgrow hnil'
          clear hnil'
          have W10 : Hid (OS w9 (k + 1) v' w10) := ⟨by rw [rep_snoc]; simpa using hown, HS.out.below.trans (grown_below HS.out.row s9 hgrow)⟩
          clear hown hgrow HS s9
          go_wp2_with fail
          refine ⟨⟨k + 1, v', rfl, by go_num, ?_, W10⟩, by simp [intOf]; omega⟩
          unfold manyN
          split
          · omega
          · split <;> omega
        · obtain rfl : k = manyN n := by omega
          obtain ⟨a3, c3, rfl, I10⟩ := own_ints HS.out.row (by simp)
          have B10 : Hid (Below w.heap.size w wr) := B9.out.trans (HS.out.below.mono B9.out.size)
          have I10 := Lib.hid I10
          have kk : Hid (¬ ((manyN n : Int) < n) ∨ ¬ ((manyN n : Int) < 4097)) := by
            show ¬ ((manyN n : Int) < n) ∨ ¬ ((manyN n : Int) < 4097)
            unfold manyN
            split
            · left; omega
            · split
              · right; omega
              · left; omega
          clear HS hlt hk
          generalize manyN n = N at *
          have hgo : ∀ P : Prop, (decide ((N : Int) < n) = false → P) → (decide ((N : Int) < n) = true → decide ((N : Int) < 4097) = false → P) → P := fun P p1 p2 => by
            by_cases c1 : (N : Int) < n
            · exact p2 (decide_eq_true c1) (decide_eq_false (kk.out.resolve_left (fun h => h c1)))
            · exact p1 (decide_eq_false c1)
          refine hgo _ (fun x1 => ?_) (fun x1 x2 => ?_)
          all_goals
            clear hgo kk
            go_wp2_with fail
            refine (KE.out _).mono ?_
            rintro e w11 ⟨aE, cE, rfl, IE, b11⟩
            have B11 : Hid (Below w.heap.size w w11) := B10.out.trans (b11.mono B10.out.size)
            have I11 := Lib.hid (And.intro (I10.out.later b11) IE)
            clear b11 B10 I10 IE
            go_wp2_with fail
            refine (KQ.out _ _ _ I11.out.1).mono ?_
            rintro e w12 ⟨aQ, cQ, rfl, IQ, b12⟩
            have B12 : Hid (Below w.heap.size w w12) := B11.out.trans (b12.mono B11.out.size)
            have I12 := Lib.hid (And.intro (I11.out.2.later b12) IQ)
            clear b12 B11 I11 IQ
            go_wp2_with fail
            refine (KSame.out M hMl _ _ _ _ _ I12.out.1 I12.out.2).mono ?_
            rintro e w13 ⟨rfl, b13⟩
            have B13 : Hid (Below w.heap.size w w13) := B12.out.trans (b13.mono B12.out.size)
            clear b13 B12 I12
            have gg : (g == g) = true := by simp
            go_wp2_with fail
            refine (head_c _).mono ?_
            rintro e w14 ⟨rfl, b14⟩
            have B14 : Hid (Below w.heap.size w w14) := B13.out.trans (b14.mono B13.out.size)
            go_wp2_with fail
            go_ret
            exact ⟨rfl, B14.out⟩
    · go_enter Try.func3, Try.ntmps3
      go_wp2_with (at_builtin; refine wpList_append_own_none rfl _ _ 22 rfl w.heap.size 2 i1 1 Try.underlying22 hj _ 0 [] rfl O0.out rfl ?_)
      have W5 : Hid ((w.alloc (.cells #[] 2)).ownsRow w.heap.size 2 1 (.slice (some ⟨w.heap.size, 0, none⟩) 0 0) 0 (l.map (Value.int .i64)) ∧ Below w.heap.size w (w.alloc (.cells #[] 2))) := ⟨by rw [hl0.out.2]; exact O0.out, B0.out⟩
      generalize hvv : (Value.slice (some ⟨w.heap.size, 0, none⟩) 0 0) = v' at W5 ⊢
      generalize (w.alloc (.cells #[] 2)) = w5 at W5 ⊢
      clear hvv
      obtain ⟨a', c', rfl, I5⟩ := own_ints W5.out.1 HM.out
      have B5 := Lib.hid W5.out.2
      have I5 := Lib.hid I5
      clear W5
      go_wp2_with fail
      refine (KS.out _ _ _ I5.out).mono ?_
      rintro e w6 ⟨aS, cS, rfl, IS, b6⟩
      have B6 : Hid (Below w.heap.size w w6) := B5.out.trans (b6.mono B5.out.size)
      have I6 := Lib.hid (And.intro (I5.out.later b6) IS)
      clear IS b6 B5 I5
      go_wp2_with fail
      refine (KR.out _ _ _ (HI.out.later B6.out)).mono ?_
      rintro e w7 ⟨aR, cR, rfl, IR, b7⟩
      have B7 : Hid (Below w.heap.size w w7) := B6.out.trans (b7.mono B6.out.size)
      have I7 := Lib.hid (And.intro (I6.out.1.later b7) (And.intro (I6.out.2.later b7) IR))
      clear IR b7 B6 I6
      go_wp2_with fail
      refine (KSame.out L hLl _ _ _ _ _ I7.out.2.1 I7.out.2.2).mono ?_
      rintro e w8 ⟨rfl, b8⟩
      have B8 : Hid (Below w.heap.size w w8) := B7.out.trans (b8.mono B7.out.size)
      have I8 := Lib.hid (I7.out.1.later b8)
      clear b8 B7 I7
      have ff : (f == f) = true := by simp
      have ff2 : (f != f) = false := by simp
      go_wp2_with fail
      refine (KOwn.out _ _ _ _ _ I8.out (HI.out.later B8.out)).mono ?_
      rintro e w9 ⟨rfl, b9⟩
      have B9 : Hid (Below w.heap.size w w9) := B8.out.trans (b9.mono B8.out.size)
      clear b9 B8 I8
      go_wp2_with fail
      have W0 : Hid (OS w9 0 (.slice none 0 0) w9) := ⟨World.ownsRow_nil _ _ _ _, Below.refl _ _⟩
      go_loopw [12, 13] (fun s12 s13 wr => ∃ (k : Nat) (v : Value), v = s12 ∧ s13 = .int .i64 (k : Int) ∧ k ≤ manyN n ∧ Hid (OS w9 k v wr)) (fun _ s13 _ => 4097 - (intOf s13).toNat)
      case atStart => exact ⟨0, _, rfl, rfl, Nat.zero_le _, W0⟩
      case round =>
        clear W0
        obtain ⟨k, v, rfl, rfl, hk, HS⟩ := hrel
        by_cases hlt : k < manyN n
        · have k1 : (k : Int) < n := by unfold manyN at hlt; split at hlt; · omega
                                        · split at hlt <;> omega
          have k2 : (k : Int) < 4097 := by have := HMN.out; omega
          have k3 : k < 4097 := by omega
          have s9 := HS.out.below.size
          clear hlt hk
          go_wp2_with (at_builtin; refine wpList_append_own _ rfl _ _ 22 rfl w9.heap.size 2 i1 (.int .i64 0) 1 8 Try.underlying22 hj hy0 hy1 hy2 rfl (by decide) _ _ _ rfl (HS.out.row.alloc _) ⟨wr.heap.size, 0, none⟩ 1 1 [.int .i64 1] rfl rfl ?px20 ?px21 ?px22 ?px23 ?px24 ?_)
          case px20 => exact one_at _ _ _
          case px21 => simp [Value.oneCell']
          case px22 => unfold maxLen; omega
          case px23 => omega
          case px24 => simp; omega
          intro v' w10 hown hgrow hnil'
          clear hnil'
          have W10 : Hid (OS w9 (k + 1) v' w10) := ⟨by rw [rep_snoc]; simpa using hown, HS.out.below.trans (grown_below HS.out.row s9 hgrow)⟩
          clear hown hgrow HS s9
          go_wp2_with fail
          refine ⟨⟨k + 1, v', rfl, by go_num, ?_, W10⟩, by simp [intOf]; omega⟩
          unfold manyN
          split
          · omega
          · split <;> omega
        · obtain rfl : k = manyN n := by omega
          obtain ⟨a3, c3, rfl, I10⟩ := own_ints HS.out.row (by simp)
          have B10 : Hid (Below w.heap.size w wr) := B9.out.trans (HS.out.below.mono B9.out.size)
          have I10 := Lib.hid I10
          have kk : Hid (¬ ((manyN n : Int) < n) ∨ ¬ ((manyN n : Int) < 4097)) := by
            show ¬ ((manyN n : Int) < n) ∨ ¬ ((manyN n : Int) < 4097)
            unfold manyN
            split
            · left; omega
            · split
              · right; omega
              · left; omega
          clear HS hlt hk
          generalize manyN n = N at *
          have hgo : ∀ P : Prop, (decide ((N : Int) < n) = false → P) → (decide ((N : Int) < n) = true → decide ((N : Int) < 4097) = false → P) → P := fun P p1 p2 => by
            by_cases c1 : (N : Int) < n
            · exact p2 (decide_eq_true c1) (decide_eq_false (kk.out.resolve_left (fun h => h c1)))
            · exact p1 (decide_eq_false c1)
          refine hgo _ (fun x1 => ?_) (fun x1 x2 => ?_)
          all_goals
            clear hgo kk
            go_wp2_with fail
            refine (KE.out _).mono ?_
            rintro e w11 ⟨aE, cE, rfl, IE, b11⟩
            have B11 : Hid (Below w.heap.size w w11) := B10.out.trans (b11.mono B10.out.size)
            have I11 := Lib.hid (And.intro (I10.out.later b11) IE)
            clear b11 B10 I10 IE
            go_wp2_with fail
            refine (KQ.out _ _ _ I11.out.1).mono ?_
            rintro e w12 ⟨aQ, cQ, rfl, IQ, b12⟩
            have B12 : Hid (Below w.heap.size w w12) := B11.out.trans (b12.mono B11.out.size)
            have I12 := Lib.hid (And.intro (I11.out.2.later b12) IQ)
            clear b12 B11 I11 IQ
            go_wp2_with fail
            refine (KSame.out M hMl _ _ _ _ _ I12.out.1 I12.out.2).mono ?_
            rintro e w13 ⟨rfl, b13⟩
            have B13 : Hid (Below w.heap.size w w13) := B12.out.trans (b13.mono B12.out.size)
            clear b13 B12 I12
            have gg : (g == g) = true := by simp
            go_wp2_with fail
            refine (head_c _).mono ?_
            rintro e w14 ⟨rfl, b14⟩
            have B14 : Hid (Below w.heap.size w w14) := B13.out.trans (b14.mono B13.out.size)
            go_wp2_with fail
            go_ret
            exact ⟨rfl, B14.out⟩
    · go_enter Try.func3, Try.ntmps3
      go_wp2_with (at_builtin; refine wpList_append_own_none rfl _ _ 22 rfl w.heap.size 2 i1 1 Try.underlying22 hj _ 0 [] rfl O0.out rfl ?_)
      have W5 : Hid ((w.alloc (.cells #[] 2)).ownsRow w.heap.size 2 1 (.slice (some ⟨w.heap.size, 0, none⟩) 0 0) 0 (l.map (Value.int .i64)) ∧ Below w.heap.size w (w.alloc (.cells #[] 2))) := ⟨by rw [hl0.out.2]; exact O0.out, B0.out⟩
      generalize hvv : (Value.slice (some ⟨w.heap.size, 0, none⟩) 0 0) = v' at W5 ⊢
      generalize (w.alloc (.cells #[] 2)) = w5 at W5 ⊢
      clear hvv
      obtain ⟨a', c', rfl, I5⟩ := own_ints W5.out.1 HM.out
      have B5 := Lib.hid W5.out.2
      have I5 := Lib.hid I5
      clear W5
      go_wp2_with fail
      refine (KS.out _ _ _ I5.out).mono ?_
      rintro e w6 ⟨aS, cS, rfl, IS, b6⟩
      have B6 : Hid (Below w.heap.size w w6) := B5.out.trans (b6.mono B5.out.size)
      have I6 := Lib.hid (And.intro (I5.out.later b6) IS)
      clear IS b6 B5 I5
      go_wp2_with fail
      refine (KR.out _ _ _ (HI.out.later B6.out)).mono ?_
      rintro e w7 ⟨aR, cR, rfl, IR, b7⟩
      have B7 : Hid (Below w.heap.size w w7) := B6.out.trans (b7.mono B6.out.size)
      have I7 := Lib.hid (And.intro (I6.out.1.later b7) (And.intro (I6.out.2.later b7) IR))
      clear IR b7 B6 I6
      go_wp2_with fail
      refine (KSame.out L hLl _ _ _ _ _ I7.out.2.1 I7.out.2.2).mono ?_
      rintro e w8 ⟨rfl, b8⟩
      have B8 : Hid (Below w.heap.size w w8) := B7.out.trans (b8.mono B7.out.size)
      have I8 := Lib.hid (I7.out.1.later b8)
      clear b8 B7 I7
      have ff : (f == f) = true := by simp
      have ff2 : (f != f) = false := by simp
      go_wp2_with fail
      refine (KOwn.out _ _ _ _ _ I8.out (HI.out.later B8.out)).mono ?_
      rintro e w9 ⟨rfl, b9⟩
      have B9 : Hid (Below w.heap.size w w9) := B8.out.trans (b9.mono B8.out.size)
      clear b9 B8 I8
      go_wp2_with fail
      have W0 : Hid (OS w9 0 (.slice none 0 0) w9) := ⟨World.ownsRow_nil _ _ _ _, Below.refl _ _⟩
      go_loopw [12, 13] (fun s12 s13 wr => ∃ (k : Nat) (v : Value), v = s12 ∧ s13 = .int .i64 (k : Int) ∧ k ≤ manyN n ∧ Hid (OS w9 k v wr)) (fun _ s13 _ => 4097 - (intOf s13).toNat)
      case atStart => exact ⟨0, _, rfl, rfl, Nat.zero_le _, W0⟩
      case round =>
        clear W0
        obtain ⟨k, v, rfl, rfl, hk, HS⟩ := hrel
        by_cases hlt : k < manyN n
        · have k1 : (k : Int) < n := by unfold manyN at hlt; split at hlt; · omega
                                        · split at hlt <;> omega
          have k2 : (k : Int) < 4097 := by have := HMN.out; omega
          have k3 : k < 4097 := by omega
          have s9 := HS.out.below.size
          clear hlt hk
          go_wp2_with (at_builtin; refine wpList_append_own _ rfl _ _ 22 rfl w9.heap.size 2 i1 (.int .i64 0) 1 8 Try.underlying22 hj hy0 hy1 hy2 rfl (by decide) _ _ _ rfl (HS.out.row.alloc _) ⟨wr.heap.size, 0, none⟩ 1 1 [.int .i64 1] rfl rfl ?px30 ?px31 ?px32 ?px33 ?px34 ?_)
          case px30 => exact one_at _ _ _
          case px31 => simp [Value.oneCell']
          case px32 => unfold maxLen; omega
          case px33 => omega
          case px34 => simp; omega
          intro v' w10 hown hgrow hnil'
          clear hnil'
          have W10 : Hid (OS w9 (k + 1) v' w10) := ⟨by rw [rep_snoc]; simpa using hown, HS.out.below.trans (grown_below HS.out.row s9 hgrow)⟩
          clear hown hgrow HS s9
          go_wp2_with fail
          refine ⟨⟨k + 1, v', rfl, by go_num, ?_, W10⟩, by simp [intOf]; omega⟩
          unfold manyN
          split
          · omega
          · split <;> omega
        · obtain rfl : k = manyN n := by omega
          obtain ⟨a3, c3, rfl, I10⟩ := own_ints HS.out.row (by simp)
          have B10 : Hid (Below w.heap.size w wr) := B9.out.trans (HS.out.below.mono B9.out.size)
          have I10 := Lib.hid I10
          have kk : Hid (¬ ((manyN n : Int) < n) ∨ ¬ ((manyN n : Int) < 4097)) := by
            show ¬ ((manyN n : Int) < n) ∨ ¬ ((manyN n : Int) < 4097)
            unfold manyN
            split
            · left; omega
            · split
              · right; omega
              · left; omega
          clear HS hlt hk
          generalize manyN n = N at *
          have hgo : ∀ P : Prop, (decide ((N : Int) < n) = false → P) → (decide ((N : Int) < n) = true → decide ((N : Int) < 4097) = false → P) → P := fun P p1 p2 => by
            by_cases c1 : (N : Int) < n
            · exact p2 (decide_eq_true c1) (decide_eq_false (kk.out.resolve_left (fun h => h c1)))
            · exact p1 (decide_eq_false c1)
          refine hgo _ (fun x1 => ?_) (fun x1 x2 => ?_)
          all_goals
            clear hgo kk
            go_wp2_with fail
            refine (KE.out _).mono ?_
            rintro e w11 ⟨aE, cE, rfl, IE, b11⟩
            have B11 : Hid (Below w.heap.size w w11) := B10.out.trans (b11.mono B10.out.size)
            have I11 := Lib.hid (And.intro (I10.out.later b11) IE)
            clear b11 B10 I10 IE
            go_wp2_with fail
            refine (KQ.out _ _ _ I11.out.1).mono ?_
            rintro e w12 ⟨aQ, cQ, rfl, IQ, b12⟩
            have B12 : Hid (Below w.heap.size w w12) := B11.out.trans (b12.mono B11.out.size)
            have I12 := Lib.hid (And.intro (I11.out.2.later b12) IQ)
            clear b12 B11 I11 IQ
            go_wp2_with fail
            refine (KSame.out M hMl _ _ _ _ _ I12.out.1 I12.out.2).mono ?_
            rintro e w13 ⟨rfl, b13⟩
            have B13 : Hid (Below w.heap.size w w13) := B12.out.trans (b13.mono B12.out.size)
            clear b13 B12 I12
            have gg : (g == g) = true := by simp
            go_wp2_with fail
            refine (head_c _).mono ?_
            rintro e w14 ⟨rfl, b14⟩
            have B14 : Hid (Below w.heap.size w w14) := B13.out.trans (b14.mono B13.out.size)
            go_wp2_with fail
            go_ret
            exact ⟨rfl, B14.out⟩
  | some ad =>
    have A1 : Hid ((l.map (Value.int .i64)).length = m * 1) := by show (l.map (Value.int .i64)).length = m * 1; rw [List.length_map, ← HM.out, Nat.mul_one]
    have A2 : Hid (∀ (j : Nat) (u : Value), (l.map (Value.int .i64))[j]? = some u → (w.alloc (.cells #[] 2)).cell? (ad.add j) = some u) := fun j u hu => by
      have h := KA.out ad rfl j u hu
      rw [B0.out.cell (World.block_lt_of_cell? _ _ h)]; exact h
    have A3 : Hid (∀ u ∈ l.map (Value.int .i64), u.oneCell' = true) := fun u hu => by
      obtain ⟨x, _, rfl⟩ := List.mem_map.1 hu; rfl
    clear hnil KA
    rcases ql.out with ql1 | ⟨ql1, ql2⟩ <;> rcases qn.out with qn1 | ⟨qn1, qn2⟩
    · go_enter Try.func3, Try.ntmps3
      go_wp2_with (at_builtin; refine wpList_append_own _ rfl _ _ 22 rfl w.heap.size 2 i1 (.int .i64 0) 1 8 Try.underlying22 hj hy0 hy1 hy2 rfl (by decide) _ _ _ rfl O0.out ad m cap (l.map (Value.int .i64)) rfl A1.out A2.out A3.out (by unfold maxLen; omega) (by omega) (by simp) ?_)
      intro v' w5 hown hgrow hnil'
      clear hnil'
      have W5 : Hid (w5.ownsRow w.heap.size 2 1 v' m (l.map (Value.int .i64)) ∧ Below w.heap.size w w5) := ⟨by simpa using hown, B0.out.grown hgrow (by simp) (fun j ej => by simp [Value.ownBlock] at ej; omega)⟩
      clear hown hgrow
      obtain ⟨a', c', rfl, I5⟩ := own_ints W5.out.1 HM.out
      have B5 := Lib.hid W5.out.2
      have I5 := Lib.hid I5
      clear W5
      go_wp2_with fail
      refine (KS.out _ _ _ I5.out).mono ?_
      rintro e w6 ⟨aS, cS, rfl, IS, b6⟩
      have B6 : Hid (Below w.heap.size w w6) := B5.out.trans (b6.mono B5.out.size)
      have I6 := Lib.hid (And.intro (I5.out.later b6) IS)
      clear IS b6 B5 I5
      go_wp2_with fail
      refine (KR.out _ _ _ (HI.out.later B6.out)).mono ?_
      rintro e w7 ⟨aR, cR, rfl, IR, b7⟩
      have B7 : Hid (Below w.heap.size w w7) := B6.out.trans (b7.mono B6.out.size)
      have I7 := Lib.hid (And.intro (I6.out.1.later b7) (And.intro (I6.out.2.later b7) IR))
      clear IR b7 B6 I6
      go_wp2_with fail
      refine (KSame.out L hLl _ _ _ _ _ I7.out.2.1 I7.out.2.2).mono ?_
      rintro e w8 ⟨rfl, b8⟩
      have B8 : Hid (Below w.heap.size w w8) := B7.out.trans (b8.mono B7.out.size)
      have I8 := Lib.hid (I7.out.1.later b8)
      clear b8 B7 I7
      have ff : (f == f) = true := by simp
      have ff2 : (f != f) = false := by simp
      go_wp2_with fail
      refine (KOwn.out _ _ _ _ _ I8.out (HI.out.later B8.out)).mono ?_
      rintro e w9 ⟨rfl, b9⟩
      have B9 : Hid (Below w.heap.size w w9) := B8.out.trans (b9.mono B8.out.size)
      clear b9 B8 I8
      go_wp2_with fail
      have W0 : Hid (OS w9 0 (.slice none 0 0) w9) := ⟨World.ownsRow_nil _ _ _ _, Below.refl _ _⟩
      go_loopw [12, 13] (fun s12 s13 wr => ∃ (k : Nat) (v : Value), v = s12 ∧ s13 = .int .i64 (k : Int) ∧ k ≤ manyN n ∧ Hid (OS w9 k v wr)) (fun _ s13 _ => 4097 - (intOf s13).toNat)
      case atStart => exact ⟨0, _, rfl, rfl, Nat.zero_le _, W0⟩
      case round =>
        clear W0
        obtain ⟨k, v, rfl, rfl, hk, HS⟩ := hrel
        by_cases hlt : k < manyN n
        · have k1 : (k : Int) < n := by unfold manyN at hlt; split at hlt; · omega
                                        · split at hlt <;> omega
          have k2 : (k : Int) < 4097 := by have := HMN.out; omega
          have k3 : k < 4097 := by omega
          have s9 := HS.out.below.size
          clear hlt hk
          go_wp2_with (at_builtin; refine wpList_append_own _ rfl _ _ 22 rfl w9.heap.size 2 i1 (.int .i64 0) 1 8 Try.underlying22 hj hy0 hy1 hy2 rfl (by decide) _ _ _ rfl (HS.out.row.alloc _) ⟨wr.heap.size, 0, none⟩ 1 1 [.int .i64 1] rfl rfl ?qx00 ?qx01 ?qx02 ?qx03 ?qx04 ?_)
          case qx00 => exact one_at _ _ _
          case qx01 => simp [Value.oneCell']
          case qx02 => unfold maxLen; omega
          case qx03 => omega
          case qx04 => simp; omega
          intro v' w10 hown hgrow hnil'
          clear hnil'
          have W10 : Hid (OS w9 (k + 1) v' w10) := ⟨by rw [rep_snoc]; simpa using hown, HS.out.below.trans (grown_below HS.out.row s9 hgrow)⟩
          clear hown hgrow HS s9
          go_wp2_with fail
          refine ⟨⟨k + 1, v', rfl, by go_num, ?_, W10⟩, by simp [intOf]; omega⟩
          unfold manyN
          split
          · omega
          · split <;> omega
        · obtain rfl : k = manyN n := by omega
          obtain ⟨a3, c3, rfl, I10⟩ := own_ints HS.out.row (by simp)
          have B10 : Hid (Below w.heap.size w wr) := B9.out.trans (HS.out.below.mono B9.out.size)
          have I10 := Lib.hid I10
          have kk : Hid (¬ ((manyN n : Int) < n) ∨ ¬ ((manyN n : Int) < 4097)) := by
            show ¬ ((manyN n : Int) < n) ∨ ¬ ((manyN n : Int) < 4097)
            unfold manyN
            split
            · left; omega
            · split
              · right; omega
              · left; omega
          clear HS hlt hk
          generalize manyN n = N at *
          have hgo : ∀ P : Prop, (decide ((N : Int) < n) = false → P) → (decide ((N : Int) < n) = true → decide ((N : Int) < 4097) = false → P) → P := fun P p1 p2 => by
            by_cases c1 : (N : Int) < n
            · exact p2 (decide_eq_true c1) (decide_eq_false (kk.out.resolve_left (fun h => h c1)))
            · exact p1 (decide_eq_false c1)
          refine hgo _ (fun x1 => ?_) (fun x1 x2 => ?_)
          all_goals
            clear hgo kk
            go_wp2_with fail
            refine (KE.out _).mono ?_
            rintro e w11 ⟨aE, cE, rfl, IE, b11⟩
            have B11 : Hid (Below w.heap.size w w11) := B10.out.trans (b11.mono B10.out.size)
            have I11 := Lib.hid (And.intro (I10.out.later b11) IE)
            clear b11 B10 I10 IE
            go_wp2_with fail
            refine (KQ.out _ _ _ I11.out.1).mono ?_
            rintro e w12 ⟨aQ, cQ, rfl, IQ, b12⟩
            have B12 : Hid (Below w.heap.size w w12) := B11.out.trans (b12.mono B11.out.size)
            have I12 := Lib.hid (And.intro (I11.out.2.later b12) IQ)
            clear b12 B11 I11 IQ
            go_wp2_with fail
            refine (KSame.out M hMl _ _ _ _ _ I12.out.1 I12.out.2).mono ?_
            rintro e w13 ⟨rfl, b13⟩
            have B13 : Hid (Below w.heap.size w w13) := B12.out.trans (b13.mono B12.out.size)
            clear b13 B12 I12
            have gg : (g == g) = true := by simp
            go_wp2_with fail
            refine (head_c _).mono ?_
            rintro e w14 ⟨rfl, b14⟩
            have B14 : Hid (Below w.heap.size w w14) := B13.out.trans (b14.mono B13.out.size)
            go_wp2_with fail
            go_ret
            exact ⟨rfl, B14.out⟩
    · go_enter Try.func3, Try.ntmps3
      go_wp2_with (at_builtin; refine wpList_append_own _ rfl _ _ 22 rfl w.heap.size 2 i1 (.int .i64 0) 1 8 Try.underlying22 hj hy0 hy1 hy2 rfl (by decide) _ _ _ rfl O0.out ad m cap (l.map (Value.int .i64)) rfl A1.out A2.out A3.out (by unfold maxLen; omega) (by omega) (by simp) ?_)
      intro v' w5 hown hgrow hnil'
      clear hnil'
      have W5 : Hid (w5.ownsRow w.heap.size 2 1 v' m (l.map (Value.int .i64)) ∧ Below w.heap.size w w5) := ⟨by simpa using hown, B0.out.grown hgrow (by simp) (fun j ej => by simp [Value.ownBlock] at ej; omega)⟩
      clear hown hgrow
      obtain ⟨a', c', rfl, I5⟩ := own_ints W5.out.1 HM.out
      have B5 := Lib.hid W5.out.2
      have I5 := Lib.hid I5
      clear W5
      go_wp2_with fail
      refine (KS.out _ _ _ I5.out).mono ?_
      rintro e w6 ⟨aS, cS, rfl, IS, b6⟩
      have B6 : Hid (Below w.heap.size w w6) := B5.out.trans (b6.mono B5.out.size)
      have I6 := Lib.hid (And.intro (I5.out.later b6) IS)
      clear IS b6 B5 I5
      go_wp2_with fail
      refine (KR.out _ _ _ (HI.out.later B6.out)).mono ?_
      rintro e w7 ⟨aR, cR, rfl, IR, b7⟩
      have B7 : Hid (Below w.heap.size w w7) := B6.out.trans (b7.mono B6.out.size)
      have I7 := Lib.hid (And.intro (I6.out.1.later b7) (And.intro (I6.out.2.later b7) IR))
      clear IR b7 B6 I6
      go_wp2_with fail
      refine (KSame.out L hLl _ _ _ _ _ I7.out.2.1 I7.out.2.2).mono ?_
      rintro e w8 ⟨rfl, b8⟩
      have B8 : Hid (Below w.heap.size w w8) := B7.out.trans (b8.mono B7.out.size)
      have I8 := Lib.hid (I7.out.1.later b8)
      clear b8 B7 I7
      have ff : (f == f) = true := by simp
      have ff2 : (f != f) = false := by simp
      go_wp2_with fail
      refine (KOwn.out _ _ _ _ _ I8.out (HI.out.later B8.out)).mono ?_
      rintro e w9 ⟨rfl, b9⟩
      have B9 : Hid (Below w.heap.size w w9) := B8.out.trans (b9.mono B8.out.size)
      clear b9 B8 I8
      go_wp2_with fail
      have W0 : Hid (OS w9 0 (.slice none 0 0) w9) := ⟨World.ownsRow_nil _ _ _ _, Below.refl _ _⟩
      go_loopw [12, 13] (fun s12 s13 wr => ∃ (k : Nat) (v : Value), v = s12 ∧ s13 = .int .i64 (k : Int) ∧ k ≤ manyN n ∧ Hid (OS w9 k v wr)) (fun _ s13 _ => 4097 - (intOf s13).toNat)
      case atStart => exact ⟨0, _, rfl, rfl, Nat.zero_le _, W0⟩
      case round =>
        clear W0
        obtain ⟨k, v, rfl, rfl, hk, HS⟩ := hrel
        by_cases hlt : k < manyN n
        · have k1 : (k : Int) < n := by unfold manyN at hlt; split at hlt; · omega
                                        · split at hlt <;> omega
          have k2 : (k : Int) < 4097 := by have := HMN.out; omega
          have k3 : k < 4097 := by omega
          have s9 := HS.out.below.size
          clear hlt hk
          go_wp2_with (at_builtin; refine wpList_append_own _ rfl _ _ 22 rfl w9.heap.size 2 i1 (.int .i64 0) 1 8 Try.underlying22 hj hy0 hy1 hy2 rfl (by decide) _ _ _ rfl (HS.out.row.alloc _) ⟨wr.heap.size, 0, none⟩ 1 1 [.int .i64 1] rfl rfl ?qx10 ?qx11 ?qx12 ?qx13 ?qx14 ?_)
          case qx10 => exact one_at _ _ _
          case qx11 => simp [Value.oneCell']
          case qx12 => unfold maxLen; omega
          case qx13 => omega
          case qx14 => simp; omega
          intro v' w10 hown hgrow hnil'
          clear hnil'
          have W10 : Hid (OS w9 (k + 1) v' w10) := ⟨by rw [rep_snoc]; simpa using hown, HS.out.below.trans (grown_below HS.out.row s9 hgrow)⟩
          clear hown hgrow HS s9
          go_wp2_with fail
          refine ⟨⟨k + 1, v', rfl, by go_num, ?_, W10⟩, by simp [intOf]; omega⟩
          unfold manyN
          split
          · omega
          · split <;> omega
        · obtain rfl : k = manyN n := by omega
          obtain ⟨a3, c3, rfl, I10⟩ := own_ints HS.out.row (by simp)
          have B10 : Hid (Below w.heap.size w wr) := B9.out.trans (HS.out.below.mono B9.out.size)
          have I10 := Lib.hid I10
          have kk : Hid (¬ ((manyN n : Int) < n) ∨ ¬ ((manyN n : Int) < 4097)) := by
            show ¬ ((manyN n : Int) < n) ∨ ¬ ((manyN n : Int) < 4097)
            unfold manyN
            split
            · left; omega
            · split
              · right; omega
              · left; omega
          clear HS hlt hk
          generalize manyN n = N at *
          have hgo : ∀ P : Prop, (decide ((N : Int) < n) = false → P) → (decide ((N : Int) < n) = true → decide ((N : Int) < 4097) = false → P) → P := fun P p1 p2 => by
            by_cases c1 : (N : Int) < n
            · exact p2 (decide_eq_true c1) (decide_eq_false (kk.out.resolve_left (fun h => h c1)))
            · exact p1 (decide_eq_false c1)
          refine hgo _ (fun x1 => ?_) (fun x1 x2 => ?_)
          all_goals
            clear hgo kk
            go_wp2_with fail
            refine (KE.out _).mono ?_
            rintro e w11 ⟨aE, cE, rfl, IE, b11⟩
            have B11 : Hid (Below w.heap.size w w11) := B10.out.trans (b11.mono B10.out.size)
            have I11 := Lib.hid (And.intro (I10.out.later b11) IE)
            clear b11 B10 I10 IE
            go_wp2_with fail
            refine (KQ.out _ _ _ I11.out.1).mono ?_
            rintro e w12 ⟨aQ, cQ, rfl, IQ, b12⟩
            have B12 : Hid (Below w.heap.size w w12) := B11.out.trans (b12.mono B11.out.size)
            have I12 := Lib.hid (And.intro (I11.out.2.later b12) IQ)
            clear b12 B11 I11 IQ
            go_wp2_with fail
            refine (KSame.out M hMl _ _ _ _ _ I12.out.1 I12.out.2).mono ?_
            rintro e w13 ⟨rfl, b13⟩
            have B13 : Hid (Below w.heap.size w w13) := B12.out.trans (b13.mono B12.out.size)
            clear b13 B12 I12
            have gg : (g == g) = true := by simp
            go_wp2_with fail
            refine (head_c _).mono ?_
            rintro e w14 ⟨rfl, b14⟩
            have B14 : Hid (Below w.heap.size w w14) := B13.out.trans (b14.mono B13.out.size)
            go_wp2_with fail
            go_ret
            exact ⟨rfl, B14.out⟩
    · go_enter Try.func3, Try.ntmps3
      go_wp2_with (at_builtin; refine wpList_append_own _ rfl _ _ 22 rfl w.heap.size 2 i1 (.int .i64 0) 1 8 Try.underlying22 hj hy0 hy1 hy2 rfl (by decide) _ _ _ rfl O0.out ad m cap (l.map (Value.int .i64)) rfl A1.out A2.out A3.out (by unfold maxLen; omega) (by omega) (by simp) ?_)
      intro v' w5 hown hgrow hnil'
      clear hnil'
      have W5 : Hid (w5.ownsRow w.heap.size 2 1 v' m (l.map (Value.int .i64)) ∧ Below w.heap.size w w5) := ⟨by simpa using hown, B0.out.grown hgrow (by simp) (fun j ej => by simp [Value.ownBlock] at ej; omega)⟩
      clear hown hgrow
      obtain ⟨a', c', rfl, I5⟩ := own_ints W5.out.1 HM.out
      have B5 := Lib.hid W5.out.2
      have I5 := Lib.hid I5
      clear W5
      go_wp2_with fail
      refine (KS.out _ _ _ I5.out).mono ?_
      rintro e w6 ⟨aS, cS, rfl, IS, b6⟩
      have B6 : Hid (Below w.heap.size w w6) := B5.out.trans (b6.mono B5.out.size)
      have I6 := Lib.hid (And.intro (I5.out.later b6) IS)
      clear IS b6 B5 I5
      go_wp2_with fail
      refine (KR.out _ _ _ (HI.out.later B6.out)).mono ?_
      rintro e w7 ⟨aR, cR, rfl, IR, b7⟩
      have B7 : Hid (Below w.heap.size w w7) := B6.out.trans (b7.mono B6.out.size)
      have I7 := Lib.hid (And.intro (I6.out.1.later b7) (And.intro (I6.out.2.later b7) IR))
      clear IR b7 B6 I6
      go_wp2_with fail
      refine (KSame.out L hLl _ _ _ _ _ I7.out.2.1 I7.out.2.2).mono ?_
      rintro e w8 ⟨rfl, b8⟩
      have B8 : Hid (Below w.heap.size w w8) := B7.out.trans (b8.mono B7.out.size)
      have I8 := Lib.hid (I7.out.1.later b8)
      clear b8 B7 I7
      have ff : (f == f) = true := by simp
      have ff2 : (f != f) = false := by simp
      go_wp2_with fail
      refine (KOwn.out _ _ _ _ _ I8.out (HI.out.later B8.out)).mono ?_
      rintro e w9 ⟨rfl, b9⟩
      have B9 : Hid (Below w.heap.size w w9) := B8.out.trans (b9.mono B8.out.size)
      clear b9 B8 I8
      go_wp2_with fail
      have W0 : Hid (OS w9 0 (.slice none 0 0) w9) := ⟨World.ownsRow_nil _ _ _ _, Below.refl _ _⟩
      go_loopw [12, 13] (fun s12 s13 wr => ∃ (k : Nat) (v : Value), v = s12 ∧ s13 = .int .i64 (k : Int) ∧ k ≤ manyN n ∧ Hid (OS w9 k v wr)) (fun _ s13 _ => 4097 - (intOf s13).toNat)
      case atStart => exact ⟨0, _, rfl, rfl, Nat.zero_le _, W0⟩
      case round =>
        clear W0
        obtain ⟨k, v, rfl, rfl, hk, HS⟩ := hrel
        by_cases hlt : k < manyN n
        · have k1 : (k : Int) < n := by unfold manyN at hlt; split at hlt; · omega
                                        · split at hlt <;> omega
          have k2 : (k : Int) < 4097 := by have := HMN.out; omega
          have k3 : k < 4097 := by omega
          have s9 := HS.out.below.size
          clear hlt hk
          go_wp2_with (at_builtin; refine wpList_append_own _ rfl _ _ 22 rfl w9.heap.size 2 i1 (.int .i64 0) 1 8 Try.underlying22 hj hy0 hy1 hy2 rfl (by decide) _ _ _ rfl (HS.out.row.alloc _) ⟨wr.heap.size, 0, none⟩ 1 1 [.int .i64 1] rfl rfl ?qx20 ?qx21 ?qx22 ?qx23 ?qx24 ?_)
          case qx20 => exact one_at _ _ _
          case qx21 => simp [Value.oneCell']
          case qx22 => unfold maxLen; omega
          case qx23 => omega
          case qx24 => simp; omega
          intro v' w10 hown hgrow hnil'
          clear hnil'
          have W10 : Hid (OS w9 (k + 1) v' w10) := ⟨by rw [rep_snoc]; simpa using hown, HS.out.below.trans (grown_below HS.out.row s9 hgrow)⟩
          clear hown hgrow HS s9
          go_wp2_with fail
          refine ⟨⟨k + 1, v', rfl, by go_num, ?_, W10⟩, by simp [intOf]; omega⟩
          unfold manyN
          split
          · omega
          · split <;> omega
        · obtain rfl : k = manyN n := by omega
          obtain ⟨a3, c3, rfl, I10⟩ := own_ints HS.out.row (by simp)
          have B10 : Hid (Below w.heap.size w wr) := B9.out.trans (HS.out.below.mono B9.out.size)
          have I10 := Lib.hid I10
          have kk : Hid (¬ ((manyN n : Int) < n) ∨ ¬ ((manyN n : Int) < 4097)) := by
            show ¬ ((manyN n : Int) < n) ∨ ¬ ((manyN n : Int) < 4097)
            unfold manyN
            split
            · left; omega
            · split
              · right; omega
              · left; omega
          clear HS hlt hk
          generalize manyN n = N at *
          have hgo : ∀ P : Prop, (decide ((N : Int) < n) = false → P) → (decide ((N : Int) < n) = true → decide ((N : Int) < 4097) = false → P) → P := fun P p1 p2 => by
            by_cases c1 : (N : Int) < n
            · exact p2 (decide_eq_true c1) (decide_eq_false (kk.out.resolve_left (fun h => h c1)))
            · exact p1 (decide_eq_false c1)
          refine hgo _ (fun x1 => ?_) (fun x1 x2 => ?_)
          all_goals
            clear hgo kk
            go_wp2_with fail
            refine (KE.out _).mono ?_
            rintro e w11 ⟨aE, cE, rfl, IE, b11⟩
            have B11 : Hid (Below w.heap.size w w11) := B10.out.trans (b11.mono B10.out.size)
            have I11 := Lib.hid (And.intro (I10.out.later b11) IE)
            clear b11 B10 I10 IE
            go_wp2_with fail
            refine (KQ.out _ _ _ I11.out.1).mono ?_
            rintro e w12 ⟨aQ, cQ, rfl, IQ, b12⟩
            have B12 : Hid (Below w.heap.size w w12) := B11.out.trans (b12.mono B11.out.size)
            have I12 := Lib.hid (And.intro (I11.out.2.later b12) IQ)
            clear b12 B11 I11 IQ
            go_wp2_with fail
            refine (KSame.out M hMl _ _ _ _ _ I12.out.1 I12.out.2).mono ?_
            rintro e w13 ⟨rfl, b13⟩
            have B13 : Hid (Below w.heap.size w w13) := B12.out.trans (b13.mono B12.out.size)
            clear b13 B12 I12
            have gg : (g == g) = true := by simp
            go_wp2_with fail
            refine (head_c _).mono ?_
            rintro e w14 ⟨rfl, b14⟩
            have B14 : Hid (Below w.heap.size w w14) := B13.out.trans (b14.mono B13.out.size)
            go_wp2_with fail
            go_ret
            exact ⟨rfl, B14.out⟩
    · go_enter Try.func3, Try.ntmps3
      go_wp2_with (at_builtin; refine wpList_append_own _ rfl _ _ 22 rfl w.heap.size 2 i1 (.int .i64 0) 1 8 Try.underlying22 hj hy0 hy1 hy2 rfl (by decide) _ _ _ rfl O0.out ad m cap (l.map (Value.int .i64)) rfl A1.out A2.out A3.out (by unfold maxLen; omega) (by omega) (by simp) ?_)
      intro v' w5 hown hgrow hnil'
      clear hnil'
      have W5 : Hid (w5.ownsRow w.heap.size 2 1 v' m (l.map (Value.int .i64)) ∧ Below w.heap.size w w5) := ⟨by simpa using hown, B0.out.grown hgrow (by simp) (fun j ej => by simp [Value.ownBlock] at ej; omega)⟩
      clear hown hgrow
      obtain ⟨a', c', rfl, I5⟩ := own_ints W5.out.1 HM.out
      have B5 := Lib.hid W5.out.2
      have I5 := Lib.hid I5
      clear W5
      go_wp2_with fail
      refine (KS.out _ _ _ I5.out).mono ?_
      rintro e w6 ⟨aS, cS, rfl, IS, b6⟩
      have B6 : Hid (Below w.heap.size w w6) := B5.out.trans (b6.mono B5.out.size)
      have I6 := Lib.hid (And.intro (I5.out.later b6) IS)
      clear IS b6 B5 I5
      go_wp2_with fail
      refine (KR.out _ _ _ (HI.out.later B6.out)).mono ?_
      rintro e w7 ⟨aR, cR, rfl, IR, b7⟩
      have B7 : Hid (Below w.heap.size w w7) := B6.out.trans (b7.mono B6.out.size)
      have I7 := Lib.hid (And.intro (I6.out.1.later b7) (And.intro (I6.out.2.later b7) IR))
      clear IR b7 B6 I6
      go_wp2_with fail
      refine (KSame.out L hLl _ _ _ _ _ I7.out.2.1 I7.out.2.2).mono ?_
      rintro e w8 ⟨rfl, b8⟩
      have B8 : Hid (Below w.heap.size w w8) := B7.out.trans (b8.mono B7.out.size)
      have I8 := Lib.hid (I7.out.1.later b8)
      clear b8 B7 I7
      have ff : (f == f) = true := by simp
      have ff2 : (f != f) = false := by simp
      go_wp2_with fail
      refine (KOwn.out _ _ _ _ _ I8.out (HI.out.later B8.out)).mono ?_
      rintro e w9 ⟨rfl, b9⟩
      have B9 : Hid (Below w.heap.size w w9) := B8.out.trans (b9.mono B8.out.size)
      clear b9 B8 I8
      go_wp2_with fail
      have W0 : Hid (OS w9 0 (.slice none 0 0) w9) := ⟨World.ownsRow_nil _ _ _ _, Below.refl _ _⟩
      go_loopw [12, 13] (fun s12 s13 wr => ∃ (k : Nat) (v : Value), v = s12 ∧ s13 = .int .i64 (k : Int) ∧ k ≤ manyN n ∧ Hid (OS w9 k v wr)) (fun _ s13 _ => 4097 - (intOf s13).toNat)
      case atStart => exact ⟨0, _, rfl, rfl, Nat.zero_le _, W0⟩
      case round =>
        clear W0
        obtain ⟨k, v, rfl, rfl, hk, HS⟩ := hrel
        by_cases hlt : k < manyN n
        · have k1 : (k : Int) < n := by unfold manyN at hlt; split at hlt; · omega
                                        · split at hlt <;> omega
          have k2 : (k : Int) < 4097 := by have := HMN.out; omega
          have k3 : k < 4097 := by omega
          have s9 := HS.out.below.size
          clear hlt hk
          go_wp2_with (at_builtin; refine wpList_append_own _ rfl _ _ 22 rfl w9.heap.size 2 i1 (.int .i64 0) 1 8 Try.underlying22 hj hy0 hy1 hy2 rfl (by decide) _ _ _ rfl (HS.out.row.alloc _) ⟨wr.heap.size, 0, none⟩ 1 1 [.int .i64 1] rfl rfl ?qx30 ?qx31 ?qx32 ?qx33 ?qx34 ?_)
          case qx30 => exact one_at _ _ _
          case qx31 => simp [Value.oneCell']
          case qx32 => unfold maxLen; omega
          case qx33 => omega
          case qx34 => simp; omega
          intro v' w10 hown hgrow hnil'
          clear hnil'
          have W10 : Hid (OS w9 (k + 1) v' w10) := ⟨by rw [rep_snoc]; simpa using hown, HS.out.below.trans (grown_below HS.out.row s9 hgrow)⟩
          clear hown hgrow HS s9
          go_wp2_with fail
          refine ⟨⟨k + 1, v', rfl, by go_num, ?_, W10⟩, by simp [intOf]; omega⟩
          unfold manyN
          split
          · omega
          · split <;> omega
        · obtain rfl : k = manyN n := by omega
          obtain ⟨a3, c3, rfl, I10⟩ := own_ints HS.out.row (by simp)
          have B10 : Hid (Below w.heap.size w wr) := B9.out.trans (HS.out.below.mono B9.out.size)
          have I10 := Lib.hid I10
          have kk : Hid (¬ ((manyN n : Int) < n) ∨ ¬ ((manyN n : Int) < 4097)) := by
            show ¬ ((manyN n : Int) < n) ∨ ¬ ((manyN n : Int) < 4097)
            unfold manyN
            split
            · left; omega
            · split
              · right; omega
              · left; omega
          clear HS hlt hk
          generalize manyN n = N at *
          have hgo : ∀ P : Prop, (decide ((N : Int) < n) = false → P) → (decide ((N : Int) < n) = true → decide ((N : Int) < 4097) = false → P) → P := fun P p1 p2 => by
            by_cases c1 : (N : Int) < n
            · exact p2 (decide_eq_true c1) (decide_eq_false (kk.out.resolve_left (fun h => h c1)))
            · exact p1 (decide_eq_false c1)
          refine hgo _ (fun x1 => ?_) (fun x1 x2 => ?_)
          all_goals
            clear hgo kk
            go_wp2_with fail
            refine (KE.out _).mono ?_
            rintro e w11 ⟨aE, cE, rfl, IE, b11⟩
            have B11 : Hid (Below w.heap.size w w11) := B10.out.trans (b11.mono B10.out.size)
            have I11 := Lib.hid (And.intro (I10.out.later b11) IE)
            clear b11 B10 I10 IE
            go_wp2_with fail
            refine (KQ.out _ _ _ I11.out.1).mono ?_
            rintro e w12 ⟨aQ, cQ, rfl, IQ, b12⟩
            have B12 : Hid (Below w.heap.size w w12) := B11.out.trans (b12.mono B11.out.size)
            have I12 := Lib.hid (And.intro (I11.out.2.later b12) IQ)
            clear b12 B11 I11 IQ
            go_wp2_with fail
            refine (KSame.out M hMl _ _ _ _ _ I12.out.1 I12.out.2).mono ?_
            rintro e w13 ⟨rfl, b13⟩
            have B13 : Hid (Below w.heap.size w w13) := B12.out.trans (b13.mono B12.out.size)
            clear b13 B12 I12
            have gg : (g == g) = true := by simp
            go_wp2_with fail
            refine (head_c _).mono ?_
            rintro e w14 ⟨rfl, b14⟩
            have B14 : Hid (Below w.heap.size w w14) := B13.out.trans (b14.mono B13.out.size)
            go_wp2_with fail
            go_ret
            exact ⟨rfl, B14.out⟩
theorem tells_r (T : Int) (a : Option Addr) (len cap : Nat) (zs : List Int) (n : Int) (w : World) (_hT : -9223372036854775808 ≤ T ∧ T ≤ 9223372036854775807) (h : IsRow .i64 w a len cap zs) (hn : -9223372036854775808 ≤ n ∧ n ≤ 9223372036854775807) :
    Calls Try.prog 3 #[.int .i64 T, .slice a len cap, .int .i64 n] w fun e w' => e = .returned (.bool true) ∧ Below w.heap.size w w' := by
  have hnil : a = none → cap = 0 := fun e => by
    rcases h with ⟨_, _, h, _⟩ | ⟨x, h, _⟩
    · exact h
    · rw [e] at h; cases h
  obtain ⟨l, rfl, h1, h2, h3⟩ := row_in h
  clear h
  by_cases hl : l.length ≤ 100 ∨ 4096 < l.length ∧ l.length ≤ 4200
  · by_cases hk : n ≤ 100 ∨ 4096 < n
    · exact tells_walk T n a cap l w h1 h2 hl hk hn.2 hn.1 hnil
    · have q1 : decide (100 < n) = true := decide_eq_true (by omega)
      have q2 : decide (n ≤ 4096) = true := decide_eq_true (by omega)
      have q3 : decide ((4200 : Int) < (l.length : Int)) = false := decide_eq_false (by omega)
      have ql : Hid (decide ((100 : Int) < (l.length : Int)) = false ∨ decide ((100 : Int) < (l.length : Int)) = true ∧ decide ((l.length : Int) ≤ 4096) = false) := by
        rcases hl with h | h
        · exact Or.inl (decide_eq_false (by omega))
        · exact Or.inr ⟨decide_eq_true (by omega), decide_eq_false (by omega)⟩
      clear h1 h2 hl hk hnil
      rcases ql.out with ql1 | ⟨ql1, ql2⟩
      all_goals
        go_enter Try.func3, Try.ntmps3
        go_wp2_with fail
        refine (head_c _).mono ?_
        rintro e w1 ⟨rfl, b1⟩
        go_wp2_with fail
        go_ret
        exact ⟨rfl, b1⟩
  · by_cases h4 : l.length ≤ 4096
    · have q1 : decide ((100 : Int) < (l.length : Int)) = true := decide_eq_true (by omega)
      have q2 : decide ((l.length : Int) ≤ 4096) = true := decide_eq_true (by omega)
      clear h1 h2 hl hnil
      go_enter Try.func3, Try.ntmps3
      go_wp2_with fail
      refine (head_c _).mono ?_
      rintro e w1 ⟨rfl, b1⟩
      go_wp2_with fail
      go_ret
      exact ⟨rfl, b1⟩
    · have q1 : decide ((100 : Int) < (l.length : Int)) = true := decide_eq_true (by omega)
      have q2 : decide ((l.length : Int) ≤ 4096) = false := decide_eq_false (by omega)
      have q3 : decide ((4200 : Int) < (l.length : Int)) = true := decide_eq_true (by omega)
      clear h1 h2 hl hnil
      go_enter Try.func3, Try.ntmps3
      go_wp2_with fail
      refine (head_c _).mono ?_
      rintro e w1 ⟨rfl, b1⟩
      go_wp2_with fail
      go_ret
      exact ⟨rfl, b1⟩
end Go.Proofs.Ytinfjfjheimceaa.Sp
