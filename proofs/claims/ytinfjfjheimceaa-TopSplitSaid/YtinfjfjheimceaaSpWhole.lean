/- Package split: the law of the whole. -/
import Derived.Test.YtinfjfjheimceaaSpOrder
namespace Go.Proofs.Ytinfjfjheimceaa.Sp
open Go Go.RowKit Go.Lib Go.Proofs.Ytinfjfjheimceaa.So Rf Cm
theorem outl_sum {T A : Int} {l : List Int} {d : Array Sh} (S : Sorted T A l d) (F : Fine T A l) : (outl T A l).sum = T := by
  have := S.sum F
  rw [sm_range] at this
  exact this
theorem outl_i64 {T A : Int} {l : List Int} (F : Fine T A l) : ∀ x ∈ outl T A l, -9223372036854775808 ≤ x ∧ x ≤ 9223372036854775807 := fun x hx => by
  obtain ⟨i, hi, rfl⟩ := List.mem_map.1 hx
  have := F.slice_bd (List.mem_range.1 hi)
  omega
/-- The sum of a row. -/
theorem sum_ints (a : Option Addr) (cap : Nat) (l : List Int) (w : World) (hI : Ints w a l) (hr : ∀ x ∈ l, -9223372036854775808 ≤ x ∧ x ≤ 9223372036854775807) (hl : l.length ≤ 17592186044416) (s : Int) (hs : l.sum = s) (h1 : -9223372036854775808 ≤ s) (h2 : s ≤ 9223372036854775807) :
    Calls Try.prog 13 #[.slice a l.length cap] w fun e w' => e = .returned (.tuple #[.int .i64 s, .bool true]) ∧ Below w.heap.size w w' := by
  rcases hI with h | ⟨b, off, rfl, hb, hc⟩
  · subst h
    simp at hs; subst hs
    exact sum_0 a cap w
  · have K := sum_c b off l.length cap l w hb (Nat.le_refl _) hl hr hc
    rw [List.take_length, hs] at K
    have E := ok_in (n := s) h1 h2
    refine K.mono fun e w' ⟨he, hb⟩ => ⟨?_, hb⟩
    rw [he, E.1, E.2]
theorem own_apart {w : World} {base e1 e2 s1 s2 n1 n2 : Nat} {v1 v2 : Value} {x1 x2 : List Value} (h1 : w.ownsRow base e1 s1 v1 n1 x1) (h2 : w.ownsRow base e2 s2 v2 n2 x2) (hne : e1 ≠ e2) : v1.ownBlock = none ∨ v1.ownBlock ≠ v2.ownBlock := by
  rcases h1.2 with ⟨rfl, _⟩ | ⟨g, cap, cur, rfl, _, hh, _⟩
  · exact Or.inl rfl
  · right
    rcases h2.2 with ⟨rfl, _⟩ | ⟨g', cap', cur', rfl, _, hh', _⟩
    · simp [Value.ownBlock]
    · intro e
      have e : g = g' := by simpa [Value.ownBlock] using e
      subst e
      rw [hh] at hh'
      simp at hh'
      exact hne hh'.2
def moreB (T A : Int) (l : List Int) (i : Nat) : Bool := decide ((cnt T A l i : Int) < Sp.left T A l)
def mores (T A : Int) (l : List Int) (k : Nat) : List Value := (List.range k).map fun i => .bool (moreB T A l i)
def rests (T A : Int) (l : List Int) (k : Nat) : List Value := (List.range k).map fun i => .int .i64 (T * l.getD i 0 % A)
theorem mores_snoc (T A : Int) (l : List Int) (k : Nat) : mores T A l (k + 1) = mores T A l k ++ [.bool (moreB T A l k)] := by unfold mores; rw [List.range_succ, List.map_append]; rfl
theorem rests_snoc (T A : Int) (l : List Int) (k : Nat) : rests T A l (k + 1) = rests T A l k ++ [.int .i64 (T * l.getD k 0 % A)] := by unfold rests; rw [List.range_succ, List.map_append]; rfl
theorem infoBool : (Try.prog.info? 4).map (fun i => (i.zero, i.size, i.bytes)) = some (some (.bool false), 1, 1) := by kernel_rfl
structure WS (T A : Int) (l : List Int) (w : World) (k : Nat) (v1 v2 : Value) (wr : World) : Prop where
  r1 : wr.ownsRow w.heap.size 4 1 v1 k (mores T A l k)
  r2 : wr.ownsRow w.heap.size 2 1 v2 k (rests T A l k)
  below : Below w.heap.size w wr
theorem row_at {w w' : World} {g : Nat} {xs : List Value} (h : RowAt w g xs) (hb : Below w.heap.size w w') {i : Nat} {v : Value} (hv : xs[i]? = some v) : w'.cell? ⟨g, i, none⟩ = some v := by
  obtain ⟨hi, rfl⟩ := List.getElem?_eq_some_iff.1 hv
  exact (h.later hb).cell i hi
theorem mores_at (T A : Int) (l : List Int) (n i : Nat) (h : i < n) : (mores T A l n)[i]? = some (.bool (moreB T A l i)) := by unfold mores; simp [h]
theorem rests_at (T A : Int) (l : List Int) (n i : Nat) (h : i < n) : (rests T A l n)[i]? = some (.int .i64 (T * l.getD i 0 % A)) := by unfold rests; simp [h]
theorem more_first {T A : Int} {l : List Int} {i k : Nat} (_hi : i < l.length) (hk : k < l.length) (h1 : moreB T A l i = true) (h2 : moreB T A l k = false) : ¬ T * l.getD i 0 % A < T * l.getD k 0 % A ∧ (T * l.getD i 0 % A = T * l.getD k 0 % A → ¬ k < i) := by
  have h1 : (cnt T A l i : Int) < Sp.left T A l := of_decide_eq_true h1
  have h2 : ¬ (cnt T A l k : Int) < Sp.left T A l := of_decide_eq_false h2
  have hne : i ≠ k := fun e => by subst e; omega
  have hb : T * l.getD k 0 % A < T * l.getD i 0 % A ∨ T * l.getD i 0 % A = T * l.getD k 0 % A ∧ i < k := cnt_inv hk hne (by omega)
  omega
set_option maxRecDepth 100000 in
set_option maxHeartbeats 4000000 in
theorem whole_law (T : Int) (a : Option Addr) (cap : Nat) (l : List Int) (w : World) (hI : Ints w a l) (hr : ∀ x ∈ l, -9223372036854775808 ≤ x ∧ x ≤ 9223372036854775807) (hlen : l.length ≤ 9223372036854775807) :
    Calls Try.prog 4 #[.int .i64 T, .slice a l.length cap] w fun e w' => e = .returned (.bool true) ∧ Below w.heap.size w w' := by
  by_cases hbad : good l = false ∨ T < 0 ∨ 4611686018427387904 ≤ T
  · have K := Lib.hid (split_no T a cap l w hI hr hlen hbad)
    clear hI hr hbad
    go_enter Try.func4, Try.ntmps4
    go_wp2_with fail
    refine K.out.mono ?_
    rintro e w1 ⟨rfl, b1⟩
    go_wp2_with fail
    refine (head_c _).mono ?_
    rintro e w2 ⟨rfl, b2⟩
    go_wp2_with fail
    go_ret
    exact ⟨rfl, b1.trans (b2.mono b1.size)⟩
  · have hg : good l = true := by cases h : good l with | true => rfl | false => exact absurd (Or.inl h) hbad
    have h0 : 0 ≤ T := by omega
    have h1 : T < 4611686018427387904 := by omega
    have K := Lib.hid (split_ok T a cap l w hI hr hg h0 h1)
    have FI := Lib.hid (fine_of hg h0 h1)
    have HI := Lib.hid hI
    have HRL := Lib.hid hr
    have hn1 : l ≠ [] := fun e => by have := FI.out.a0; rw [e] at this; simp at this
    have hn1 : 1 ≤ l.length := by
      rcases Nat.eq_zero_or_pos l.length with e | e
      · exact absurd (List.length_eq_zero_iff.1 e) hn1
      · exact e
    obtain ⟨n, hn⟩ : ∃ n, n = l.length := ⟨_, rfl⟩
    rw [← hn] at hlen K hn1 ⊢
    have HN := Lib.hid hn
    obtain ⟨A, hA⟩ : ∃ A, A = l.sum := ⟨_, rfl⟩
    rw [← hA] at K FI
    have ha0 := FI.out.a0
    have ha1 := FI.out.a1
    have HA := Lib.hid hA
    clear hI hr hbad hg hn hA
    by_cases hbig : 300 < n
    · have hz : (300 : Int) < (n : Int) := by omega
      go_enter Try.func4, Try.ntmps4
      go_wp2_with fail
      refine K.out.mono ?_
      rintro e w1 ⟨g, rfl, O1, b1, -⟩
      clear O1
      go_wp2_with fail
      refine (head_c _).mono ?_
      rintro e w2 ⟨rfl, b2⟩
      go_wp2_with fail
      go_ret
      exact ⟨rfl, b1.trans (b2.mono b1.size)⟩
    · have hz : ¬ (300 : Int) < (n : Int) := by omega
      have hzd : decide ((300 : Int) < (n : Int)) = false := decide_eq_false hz
      obtain ⟨i0, hi, hz0, hz1, hz2⟩ := info_parts infoBool
      obtain ⟨i1, hj, hy0, hy1, hy2⟩ := info_parts infoI64
      go_enter Try.func4, Try.ntmps4
      go_wp2_with fail
      refine K.out.mono ?_
      rintro e w1 ⟨g, rfl, O1, b1, d, SD⟩
      have B1 := Lib.hid b1
      have J1 := Lib.hid (And.intro (HI.out.later b1) O1)
      have HS := Lib.hid (outl_sum SD FI.out)
      clear O1 b1 K HI SD
      go_wp2_with fail
      have KS := sum_ints a cap l w1 J1.out.1 HRL.out (by have := HN.out; omega) A HA.out.symm (by omega) (by omega)
      rw [← HN.out] at KS
      refine KS.mono ?_
      rintro e w2 ⟨rfl, b2⟩
      have J2 := Lib.hid (And.intro (J1.out.1.later b2) (J1.out.2.later b2))
      have B2 : Hid (Below w.heap.size w w2) := B1.out.trans (b2.mono B1.out.size)
      clear KS b2 J1 B1
      go_wp2_with fail
      have KS := sum_ints (some ⟨g, 0, none⟩) n (outl T A l) w2 J2.out.2 (outl_i64 FI.out) (by rw [outl_len]; have := HN.out; omega) T HS.out (by omega) (by omega)
      rw [outl_len, ← HN.out] at KS
      refine KS.mono ?_
      rintro e w3 ⟨rfl, b3⟩
      have J3 := Lib.hid (And.intro (J2.out.1.later b3) (J2.out.2.later b3))
      have B3 : Hid (Below w.heap.size w w3) := B2.out.trans (b3.mono B2.out.size)
      clear KS b3 J2 B2 HS
      go_wp2_with fail
      have W0 : Hid (WS T A l w3 0 (.slice none 0 0) (.slice none 0 0) w3) := ⟨World.ownsRow_nil _ _ _ _, World.ownsRow_nil _ _ _ _, Below.refl _ _⟩
      go_loopw [11, 12, 13] (fun s11 s12 s13 wr => ∃ (k : Nat) (v1 v2 : Value), v1 = s11 ∧ v2 = s12 ∧ s13 = .int .i64 (k : Int) ∧ k ≤ n ∧ Hid (WS T A l w3 k v1 v2 wr)) (fun _ _ s13 _ => n - (intOf s13).toNat)
      case atStart => exact ⟨0, _, _, rfl, rfl, rfl, Nat.zero_le _, W0⟩
      case round =>
        clear W0
        obtain ⟨k, v1, v2, rfl, rfl, rfl, hk, HW⟩ := hrel
        by_cases hlt : k < n
        · have hkz : (k : Int) < (n : Int) := by omega
          have hkl : k < l.length := by rw [← HN.out]; exact hlt
          obtain ⟨b, off, rfl, ck, ok⟩ := both_at J3.out.1 J3.out.2 HW.out.below hkl
          obtain ⟨q0, q1, r0, r1⟩ := FI.out.q k hkl
          have x0 := FI.out.pos k hkl
          have x1 := FI.out.le k hkl
          have HM := Lib.hid (mores_snoc T A l k)
          have HR := Lib.hid (rests_snoc T A l k)
          have hsl : slice T A l k = T * l.getD k 0 / A + if moreB T A l k = true then 1 else 0 := by unfold slice moreB; simp
          have hmr : moreB T A l k = true → 0 < T * l.getD k 0 % A := fun h => FI.out.more (of_decide_eq_true h) hkl
          have KM := Lib.hid (fun w => muldiv_in T (l.getD k 0) A _ _ w ⟨by omega, by omega⟩ ⟨by omega, by omega⟩ (by omega) (by omega) rfl rfl (by omega) (by omega))
          rw [hsl] at ok
          clear hsl
          generalize l.getD k 0 = x at *
          generalize T * x / A = q at *
          generalize T * x % A = r at *
          cases hm : moreB T A l k with
          | true =>
            rw [hm] at ok HM
            rw [if_pos rfl] at ok
            have hr0 := hmr hm
            have e1 : (r == 0) = false := by simp; omega
            have e2 : (q + 1 == q) = false := by simp; omega
            have e2' : (q + 1 != q) = true := by simp; omega
            have e3 : q < q + 1 := by omega
            have e4 : decide (q < q + 1) = true := decide_eq_true e3
            have wq : IntKind.i64.wrap (q + 1) = q + 1 := by rw [IntKind.wrap_i64]; omega
            clear hmr hm
            go_wp2_with fail
            refine (KM.out _).mono ?_
            rintro e w4 ⟨rfl, b4⟩
            have ok4 : w4.cell? ⟨g, k, none⟩ = some (.int .i64 (q + 1)) := by rw [b4.cell (World.block_lt_of_cell? _ _ ok)]; exact ok
            have W4 : Hid (WS T A l w3 k v1 v2 w4) := ⟨own_later HW.out.r1 b4, own_later HW.out.r2 b4, HW.out.below.trans (b4.mono HW.out.below.size)⟩
            have s4 := W4.out.below.size
            clear HW b4 ck ok
            go_wp2_with (at_builtin; refine wpList_append_own _ rfl _ _ 34 rfl w3.heap.size 4 i0 (.bool false) 1 1 Try.underlying34 hi hz0 hz1 hz2 rfl (by decide) _ _ _ rfl (W4.out.r1.alloc _) ⟨w4.heap.size, 0, none⟩ 1 1 [.bool true] rfl rfl ?c0 ?c1 ?c2 ?c3 ?c4 ?_)
            case c0 => exact one_new _ _ _
            case c1 => simp [Value.oneCell']
            case c2 => unfold maxLen; omega
            case c3 => omega
            case c4 => simp; omega
            intro v1' w5 hown hgrow hnil
            clear hnil
            have R1 : Hid (w5.ownsRow w3.heap.size 4 1 v1' (k + 1) (mores T A l (k + 1))) := by show w5.ownsRow _ _ _ _ _ _; rw [HM.out]; exact hown
            have R2 : Hid (w5.ownsRow w3.heap.size 2 1 v2 k (rests T A l k)) := (W4.out.r2.alloc _).kept hgrow (own_apart W4.out.r2 W4.out.r1 (by decide))
            have B5 : Hid (Below w3.heap.size w3 w5) := W4.out.below.trans (grown_below W4.out.r1 s4 hgrow)
            have s5 := B5.out.size
            clear W4 hown hgrow ok4 s4
            go_wp2_with (at_builtin; refine wpList_append_own _ rfl _ _ 22 rfl w3.heap.size 2 i1 (.int .i64 0) 1 8 Try.underlying22 hj hy0 hy1 hy2 rfl (by decide) _ _ _ rfl (R2.out.alloc _) ⟨w5.heap.size, 0, none⟩ 1 1 [.int .i64 r] rfl rfl ?d0 ?d1 ?d2 ?d3 ?d4 ?_)
            case d0 => exact one_new _ _ _
            case d1 => simp [Value.oneCell']
            case d2 => unfold maxLen; omega
            case d3 => omega
            case d4 => simp; omega
            intro v2' w6 hown hgrow hnil
            clear hnil
            have W6 : Hid (WS T A l w3 (k + 1) v1' v2' w6) := ⟨(R1.out.alloc _).kept hgrow (own_apart R1.out R2.out (by decide)), by rw [HR.out]; exact hown, B5.out.trans (grown_below R2.out s5 hgrow)⟩
            clear R1 R2 B5 hown hgrow
            go_wp2_with fail
            exact ⟨⟨k + 1, v1', v2', rfl, rfl, by go_num, by omega, W6⟩, by simp [intOf]; omega⟩
          | false =>
            rw [hm] at ok HM
            rw [if_neg (by decide), Int.add_zero] at ok
            have e3 : ¬ q < q := by omega
            have e4 : decide (q < q) = false := decide_eq_false e3
            clear hmr hm
            go_wp2_with fail
            refine (KM.out _).mono ?_
            rintro e w4 ⟨rfl, b4⟩
            have ok4 : w4.cell? ⟨g, k, none⟩ = some (.int .i64 q) := by rw [b4.cell (World.block_lt_of_cell? _ _ ok)]; exact ok
            have W4 : Hid (WS T A l w3 k v1 v2 w4) := ⟨own_later HW.out.r1 b4, own_later HW.out.r2 b4, HW.out.below.trans (b4.mono HW.out.below.size)⟩
            have s4 := W4.out.below.size
            clear HW b4 ck ok
            go_wp2_with (at_builtin; refine wpList_append_own _ rfl _ _ 34 rfl w3.heap.size 4 i0 (.bool false) 1 1 Try.underlying34 hi hz0 hz1 hz2 rfl (by decide) _ _ _ rfl (W4.out.r1.alloc _) ⟨w4.heap.size, 0, none⟩ 1 1 [.bool false] rfl rfl ?c0 ?c1 ?c2 ?c3 ?c4 ?_)
            case c0 => exact one_new _ _ _
            case c1 => simp [Value.oneCell']
            case c2 => unfold maxLen; omega
            case c3 => omega
            case c4 => simp; omega
            intro v1' w5 hown hgrow hnil
            clear hnil
            have R1 : Hid (w5.ownsRow w3.heap.size 4 1 v1' (k + 1) (mores T A l (k + 1))) := by show w5.ownsRow _ _ _ _ _ _; rw [HM.out]; exact hown
            have R2 : Hid (w5.ownsRow w3.heap.size 2 1 v2 k (rests T A l k)) := (W4.out.r2.alloc _).kept hgrow (own_apart W4.out.r2 W4.out.r1 (by decide))
            have B5 : Hid (Below w3.heap.size w3 w5) := W4.out.below.trans (grown_below W4.out.r1 s4 hgrow)
            have s5 := B5.out.size
            clear W4 hown hgrow ok4 s4
            go_wp2_with (at_builtin; refine wpList_append_own _ rfl _ _ 22 rfl w3.heap.size 2 i1 (.int .i64 0) 1 8 Try.underlying22 hj hy0 hy1 hy2 rfl (by decide) _ _ _ rfl (R2.out.alloc _) ⟨w5.heap.size, 0, none⟩ 1 1 [.int .i64 r] rfl rfl ?d0 ?d1 ?d2 ?d3 ?d4 ?_)
            case d0 => exact one_new _ _ _
            case d1 => simp [Value.oneCell']
            case d2 => unfold maxLen; omega
            case d3 => omega
            case d4 => simp; omega
            intro v2' w6 hown hgrow hnil
            clear hnil
            have W6 : Hid (WS T A l w3 (k + 1) v1' v2' w6) := ⟨(R1.out.alloc _).kept hgrow (own_apart R1.out R2.out (by decide)), by rw [HR.out]; exact hown, B5.out.trans (grown_below R2.out s5 hgrow)⟩
            clear R1 R2 B5 hown hgrow
            go_wp2_with fail
            exact ⟨⟨k + 1, v1', v2', rfl, rfl, by go_num, by omega, W6⟩, by simp [intOf]; omega⟩
        · obtain rfl : n = k := by omega
          have hkz : ¬ (n : Int) < (n : Int) := by omega
          obtain ⟨g1, c1, rfl⟩ := own_form HW.out.r1 hn1
          obtain ⟨g2, c2, rfl⟩ := own_form HW.out.r2 hn1
          have RR : Hid (RowAt wr g1 (mores T A l n) ∧ RowAt wr g2 (rests T A l n)) := ⟨row_own HW.out.r1, row_own HW.out.r2⟩
          have B4 : Hid (Below w.heap.size w wr) := B3.out.trans (HW.out.below.mono B3.out.size)
          obtain ⟨w4, hw4⟩ : ∃ u : World, u = wr := ⟨_, rfl⟩
          rw [← hw4] at RR B4 ⊢
          clear HW J3 B3 HRL hw4
          go_wp2_with fail
          go_loopw [17] (fun s wr => ∃ i : Nat, s = .int .i64 (i : Int) ∧ i ≤ n ∧ Hid (Below w4.heap.size w4 wr)) (fun s _ => n - (intOf s).toNat)
          case atStart => exact ⟨0, rfl, Nat.zero_le _, Lib.hid (Below.refl _ _)⟩
          case round =>
            obtain ⟨i, rfl, hin, HB⟩ := hrel
            by_cases hlt : i < n
            · have hiz : (i : Int) < (n : Int) := by omega
              have hil : i < l.length := by rw [← HN.out]; exact hlt
              obtain ⟨wo, hwo⟩ : ∃ u : World, u = wr := ⟨_, rfl⟩
              rw [← hwo] at HB ⊢
              clear hwo
              go_wp2_with fail
              go_loopw [18] (fun s wr => ∃ k : Nat, s = .int .i64 (k : Int) ∧ k ≤ n ∧ Hid (Below w4.heap.size w4 wr)) (fun s _ => n - (intOf s).toNat)
              case atStart => exact ⟨0, rfl, Nat.zero_le _, HB⟩
              case round =>
                obtain ⟨k, rfl, hkn, HBi⟩ := hrel
                by_cases hkt : k < n
                · have hkz2 : (k : Int) < (n : Int) := by omega
                  have hkl : k < l.length := by rw [← HN.out]; exact hkt
                  have m1 := row_at RR.out.1 HBi.out (mores_at T A l n i hlt)
                  have m2 := row_at RR.out.1 HBi.out (mores_at T A l n k hkt)
                  have r1 := row_at RR.out.2 HBi.out (rests_at T A l n i hlt)
                  have r2 := row_at RR.out.2 HBi.out (rests_at T A l n k hkt)
                  have hf := Lib.hid (more_first (T := T) (A := A) hil hkl)
                  generalize T * l.getD i 0 % A = x at *
                  generalize T * l.getD k 0 % A = y at *
                  generalize moreB T A l i = p at *
                  generalize moreB T A l k = q at *
                  cases p with
                  | false =>
                    clear hf
                    go_wp2_with fail
                    go_quiet (fail)
                    go_wp2_with fail
                    exact ⟨⟨k + 1, by go_num, by omega, Lib.hid (drew_below HBi.out)⟩, by simp [intOf]; omega⟩
                  | true =>
                  cases q with
                  | true =>
                    clear hf
                    go_wp2_with fail
                    go_quiet (fail)
                    go_wp2_with fail
                    exact ⟨⟨k + 1, by go_num, by omega, Lib.hid (drew_below HBi.out)⟩, by simp [intOf]; omega⟩
                  | false =>
                    have hf2 := hf.out rfl rfl
                    clear hf
                    obtain ⟨f1, f2⟩ := hf2
                    have f3 : decide (x < y) = false := decide_eq_false f1
                    by_cases e : x = y
                    · have e1 : (x == y) = true := by simpa using e
                      have f4 := f2 e
                      have f5 : ¬ (k : Int) < (i : Int) := by omega
                      have f6 : decide ((k : Int) < (i : Int)) = false := decide_eq_false f5
                      have f7 : decide (k < i) = false := decide_eq_false f4
                      clear e f2
                      go_wp2_with fail
                      go_quiet (fail)
                      go_wp2_with fail
                      exact ⟨⟨k + 1, by go_num, by omega, Lib.hid (drew_below HBi.out)⟩, by simp [intOf]; omega⟩
                    · have e1 : (x == y) = false := by simpa using e
                      clear e f2
                      go_wp2_with fail
                      go_quiet (fail)
                      go_wp2_with fail
                      exact ⟨⟨k + 1, by go_num, by omega, Lib.hid (drew_below HBi.out)⟩, by simp [intOf]; omega⟩
                · have hkz2 : ¬ (k : Int) < (n : Int) := by omega
                  go_wp2_with fail
                  exact ⟨⟨i + 1, by go_num, by omega, HBi⟩, by simp [intOf]; omega⟩
            · have hiz : ¬ (i : Int) < (n : Int) := by omega
              go_wp2_with fail
              refine (head_c _).mono ?_
              rintro e w5 ⟨rfl, b5⟩
              go_wp2_with fail
              go_ret
              exact ⟨rfl, B4.out.trans ((HB.out.trans (b5.mono HB.out.size)).mono B4.out.size)⟩
end Go.Proofs.Ytinfjfjheimceaa.Sp
