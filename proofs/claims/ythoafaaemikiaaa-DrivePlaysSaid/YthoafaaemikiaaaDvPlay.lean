/- Package drive: a drive is the document's, whatever is done to it. -/
import Derived.Test.YthoafaaemikiaaaDvTwo
import Derived.OwnWalk
namespace Go.Proofs.Ythoafaaemikiaaa.Dv
open Go Go.RowKit Rf
theorem infoA1 : (Try.prog.info? TA).map (·.size) = some 6 := by kernel_rfl
theorem zeroA (u : World) : (zeroValue TA).run Try.prog u = .ok (.agg (Ac.cs ⟨0, 0, ⟨#[]⟩, ⟨0, 0, 0⟩⟩).toArray) u := by kernel_rfl
theorem write_len (x : Dr) (n : Int) (s : Sec) : (x.write n s).1.P.length ≤ x.P.length + 1 ∧ (x.write n s).1.D.length = x.D.length := by
  unfold Dr.write
  split
  · exact ⟨Nat.le_succ _, rfl⟩
  · split
    · exact ⟨Nat.le_succ _, rfl⟩
    · split
      · exact ⟨Nat.le_succ _, rfl⟩
      · exact ⟨by simp, rfl⟩
theorem sync_len (x : Dr) : x.sync.1.P.length ≤ x.P.length + 1 ∧ x.sync.1.D.length = x.D.length := by
  unfold Dr.sync
  split
  · exact ⟨Nat.le_succ _, rfl⟩
  · exact ⟨Nat.zero_le _, Dr.vlen x⟩
theorem crash_len (x : Dr) (c : Cr) : (x.crash c).P.length ≤ x.P.length + 1 ∧ (x.crash c).D.length = x.D.length := ⟨Nat.zero_le _, crashTo_len _ _ _ _⟩
theorem fuse_len (x : Dr) (n : Int) : (x.fuse n).P.length ≤ x.P.length + 1 ∧ (x.fuse n).D.length = x.D.length := ⟨Nat.le_succ _, rfl⟩
set_option maxRecDepth 100000 in
set_option maxHeartbeats 8000000 in
theorem plays_law (n : Int) (a : Option Addr) (cap : Nat) (l : List Ac) (w : World) (bn : -9223372036854775808 ≤ n ∧ n ≤ 9223372036854775807) (h1 : Acs w a l) (_l1 : l.length ≤ maxLen) (f1 : ∀ x ∈ l, x.Fits) :
    Calls Try.prog 3 #[.int .i64 n, .slice a l.length cap] w fun e w' => e = .returned (.bool true) ∧ Below w.heap.size w w' := by
  unfold maxLen at _l1
  have HA := Lib.hid h1
  have HF := Lib.hid f1
  clear h1 f1
  by_cases hbig : 40 < n
  · by_cases h4 : n ≤ 4096
    · obtain ⟨k, rfl⟩ := Int.eq_ofNat_of_zero_le (show 0 ≤ n by omega)
      have KN := Lib.hid (os_new k (by omega) (by omega) w)
      go_enter Try.func3, Try.ntmps3
      go_wp2_with fail
      refine KN.out.mono ?_
      rintro e w1 ⟨g, rfl, h1, b1⟩
      go_wp2_with fail
      refine (head_c _).mono ?_
      rintro e w2 ⟨rfl, b2⟩
      go_wp2_with fail
      go_ret
      exact ⟨rfl, b1.trans (b2.mono b1.size)⟩
    · have KN := Lib.hid (new_no n w (.inr (by omega)))
      have d4 : decide (n ≤ 4096) = false := decide_eq_false h4
      go_enter Try.func3, Try.ntmps3
      go_wp2_with fail
      refine KN.out.mono ?_
      rintro e w1 ⟨rfl, rfl⟩
      go_wp2_with fail
      refine (head_c _).mono ?_
      rintro e w2 ⟨rfl, b2⟩
      go_wp2_with fail
      go_ret
      exact ⟨rfl, b2⟩
  by_cases hlow : n < 8
  · have KN := Lib.hid (new_no n w (.inl hlow))
    have KR := Lib.hid (fun u => rnew_no n (.inl hlow) u)
    go_enter Try.func3, Try.ntmps3
    go_wp2_with fail
    refine KN.out.mono ?_
    rintro e w1 ⟨rfl, rfl⟩
    go_wp2_with fail
    refine (KR.out _).mono ?_
    rintro e w1 ⟨rfl, rfl⟩
    go_wp2_with fail
    refine (head_c _).mono ?_
    rintro e w2 ⟨rfl, b2⟩
    go_wp2_with fail
    go_ret
    exact ⟨rfl, b2⟩
  obtain ⟨m, rfl⟩ := Int.eq_ofNat_of_zero_le (show 0 ≤ n by omega)
  have KN := Lib.hid (os_new m (by omega) (by omega) w)
  have KR := Lib.hid (fun u => rnew_c m (by omega) (by omega) u)
  have ok0 := Dr.new_ok m (by omega) (by omega)
  have hd0 : (Dr.new m).D.length = m := by unfold Dr.new; simp
  have HO := Lib.hid (And.intro ok0 hd0)
  clear ok0 hd0
  go_enter Try.func3, Try.ntmps3
  go_wp2_with fail
  refine KN.out.mono ?_
  rintro e w1 ⟨g0, rfl, h1, b1⟩
  have D1 := Lib.hid h1
  have B1 := Lib.hid b1
  clear h1 b1
  go_wp2_with fail
  refine (KR.out _).mono ?_
  rintro e w2 ⟨gq, rfl, h2, b2⟩
  have B2 := Lib.hid (B1.out.trans (b2.mono B1.out.size))
  have T2 : Hid (Two w.heap.size w2 g0 gq (Dr.new m) (Dr.new m)) := ⟨_, _, D1.out.lt.later b2, h2, fun k h h' => by have := h.2; omega, fun k h => h.1, fun k h => Nat.le_trans B1.out.size h⟩
  clear h2 b2 D1 B1 KN KR
  go_wp2_with fail
  go_loopw [5, 9] (fun dv i wr => ∃ (j gd : Nat) (x : Dr), dv = .pointer (some ⟨gd, 0, none⟩) ∧ i = .int .i64 (j : Int) ∧ j ≤ l.length ∧ j ≤ 60 ∧ x.Ok ∧ x.P.length ≤ j ∧ x.D.length = m ∧ Two w.heap.size wr gd gq x x ∧ Below w.heap.size w wr) (fun _ i _ => l.length - (intOf i).toNat)
  case atStart => exact ⟨0, g0, _, rfl, rfl, Nat.zero_le _, Nat.zero_le _, HO.out.1, Nat.zero_le _, HO.out.2, T2.out, B2.out⟩
  case round =>
    obtain ⟨j, gd, x, rfl, rfl, hj, hj60, hok, hpl, hdl, hT, hB⟩ := hrel
    have HX := Lib.hid hok
    have HXP := Lib.hid hpl
    have HXD := Lib.hid hdl
    have T3 := Lib.hid hT
    have B3 := Lib.hid hB
    clear hok hpl hdl hT hB T2 B2
    by_cases hlt : j < l.length ∧ j < 60
    · have hj60' : (j : Int) < 60 := by omega
      obtain ⟨hlt, hlt60⟩ := hlt
      obtain ⟨y, hy⟩ : ∃ y, l[j] = y := ⟨_, rfl⟩
      obtain ⟨ab, ao, rfl, hab, hcs⟩ := HA.out j hlt
      have hyf := HF.out l[j] (List.getElem_mem hlt)
      rw [hy] at hcs hyf
      have HR := Lib.hid (show ∀ i v, y.cs[i]? = some v → wr.cell? ⟨ab, ao + j * 6 + i, none⟩ = some v from fun i v hv => by rw [B3.out.cell (by simpa using hab)]; exact hcs i v hv)
      have e0 : wr.cell? ⟨ab, ao + j * 6, none⟩ = some (.int .u8 y.what) := HR.out 0 _ rfl
      have e1 : wr.cell? ⟨ab, ao + j * 6 + 1, none⟩ = some (.int .i64 y.n) := HR.out 1 _ rfl
      have e2 : wr.cell? ⟨ab, ao + j * 6 + 2, none⟩ = some (.string y.s) := HR.out 2 _ rfl
      have e3 : wr.cell? ⟨ab, ao + j * 6 + 3, none⟩ = some (.int .u64 (y.c.keep : Int)) := HR.out 3 _ rfl
      have e4 : wr.cell? ⟨ab, ao + j * 6 + 4, none⟩ = some (.int .i64 y.c.torn) := HR.out 4 _ rfl
      have e5 : wr.cell? ⟨ab, ao + j * 6 + 5, none⟩ = some (.int .i64 y.c.at') := HR.out 5 _ rfl
      have hju : (j : Int) < (l.length : Int) := by omega
      have hj0 : (0 : Int) ≤ (j : Int) := by omega
      have hys := hyf.s
      have hyw := hyf.what
      have HYF := Lib.hid hyf
      clear hcs hyf hy
      go_upto_region 11 with (fail)
      have hB0 : Rw (wr.alloc (.cells #[.int .u8 y.what, .int .i64 y.n, .string y.s, .int .u64 (y.c.keep : Int), .int .i64 y.c.torn, .int .i64 y.c.at'] TA)) wr.heap.size TA y.cs := Rw.new wr y.cs TA
      have hkk : Below wr.heap.size wr (wr.alloc (.cells #[.int .u8 y.what, .int .i64 y.n, .string y.s, .int .u64 (y.c.keep : Int), .int .i64 y.c.torn, .int .i64 y.c.at'] TA)) := (Below.refl _ wr).alloc (Nat.le_refl _) _
      clear e0 e1 e2 e3 e4 e5
      generalize wr.alloc (.cells #[.int .u8 y.what, .int .i64 y.n, .string y.s, .int .u64 (y.c.keep : Int), .int .i64 y.c.torn, .int .i64 y.c.at'] TA) = W5 at hB0 hkk ⊢
      have T5 := Lib.hid (T3.out.boxed hkk hB0)
      have B5 := Lib.hid (B3.out.trans (hkk.mono B3.out.size))
      obtain ⟨kb, hkb⟩ : ∃ kb, wr.heap.size = kb := ⟨_, rfl⟩
      rw [hkb] at T5 ⊢
      clear hkb hkk hB0 T3 B3 HR
      have c0 : W5.cell? ⟨kb, 0, none⟩ = some (.int .u8 y.what) := T5.out.cell 0
      have c1 : W5.cell? ⟨kb, 1, none⟩ = some (.int .i64 y.n) := T5.out.cell 1
      have c2 : W5.cell? ⟨kb, 2, none⟩ = some (.string y.s) := T5.out.cell 2
      have c3 : W5.cell? ⟨kb, 3, none⟩ = some (.int .u64 (y.c.keep : Int)) := T5.out.cell 3
      have c4 : W5.cell? ⟨kb, 4, none⟩ = some (.int .i64 y.c.torn) := T5.out.cell 4
      have c5 : W5.cell? ⟨kb, 5, none⟩ = some (.int .i64 y.c.at') := T5.out.cell 5
      by_cases hlong : (200 : Int) < (y.s.size : Int)
      · go_wp2_with fail
        refine (head_c _).mono ?_
        rintro e w6 ⟨rfl, b6⟩
        go_wp2_with fail
        go_ret
        exact ⟨rfl, B5.out.trans (b6.mono B5.out.size)⟩
      have hr5 : y.what.tmod 5 = 0 ∨ y.what.tmod 5 = 1 ∨ y.what.tmod 5 = 2 ∨ y.what.tmod 5 = 3 ∨ y.what.tmod 5 = 4 := by
        rw [Int.tmod_eq_emod_of_nonneg hyw.1]; omega
      have HL := Lib.hid (And.intro hyw.1 hyw.2)
      clear hyw
      rcases hr5 with hr5 | hr5 | hr5 | hr5 | hr5
      · obtain ⟨⟨y1, z⟩, hz⟩ : ∃ p, x.write y.n y.s.data.toList = p := ⟨_, rfl⟩
        have HW := Lib.hid hz
        have ok1 := HX.out.write y.n y.s.data.toList
        have len1 := write_len x y.n y.s.data.toList
        rw [hz] at ok1 len1
        have OK1 := Lib.hid ok1
        have PL1 := Lib.hid (show y1.P.length ≤ j + 1 by have := HXP.out; have h := len1.1; simp only at h; omega)
        have DL1 := Lib.hid (show y1.D.length = m from len1.2.trans HXD.out)
        clear hz ok1 len1
        go_upto_region 15 with (fail)
        clear c0 c1 c2 c3 c4 c5
        refine wp_region_inv (I := (fun A0 L a u => ∃ (x0 x1 x2 x3 x4 x5 x6 x7 x8 x9 x10 x11 x12 : Value), a = putAll A0 [(77, x0), (78, x1), (79, x2), (80, x3), (81, x4), (82, x5), (83, x6), (84, x7), (85, x8), (86, x9), (87, x10), (88, x11), (89, x12)] ∧ (L 0 = true → x0 = (.pointer (some ⟨gd, 0, Option.none⟩))) ∧ (L 1 = true → x1 = (.pointer (some ⟨kb, 1, Option.none⟩))) ∧ (L 2 = true → x2 = (.int .i64 y.n)) ∧ (L 3 = true → x3 = (.pointer (some ⟨kb, 2, Option.none⟩))) ∧ (L 4 = true → x4 = (.string y.s)) ∧ (L 5 = true → x5 = (.int .i64 z)) ∧ (L 6 = true → x6 = (.pointer (some ⟨gq, 0, Option.none⟩))) ∧ (L 7 = true → x7 = (.pointer (some ⟨kb, 1, Option.none⟩))) ∧ (L 8 = true → x8 = (.int .i64 y.n)) ∧ (L 9 = true → x9 = (.pointer (some ⟨kb, 2, Option.none⟩))) ∧ (L 10 = true → x10 = (.string y.s)) ∧ (L 11 = true → x11 = (.int .i64 z)) ∧ (L 12 = true → x12 = (.bool false)) ∧ (Tb w.heap.size u gd gq (cond (L 5) y1 x) (cond (L 11) y1 x) kb y.cs ∧ Below w.heap.size w u))) (by kernel_rfl) (by kernel_rfl) ?_ ?_ ?_
        · intro L hL
          exact ⟨_, _, _, _, _, _, _, _, _, _, _, _, _, by (simp only [putAll, Act.put, List.setIfInBounds_toArray, List.set_cons_zero, List.set_cons_succ]; rfl), (fun h => absurd h (by rw [hL 0 (by decide)]; decide)), (fun h => absurd h (by rw [hL 1 (by decide)]; decide)), (fun h => absurd h (by rw [hL 2 (by decide)]; decide)), (fun h => absurd h (by rw [hL 3 (by decide)]; decide)), (fun h => absurd h (by rw [hL 4 (by decide)]; decide)), (fun h => absurd h (by rw [hL 5 (by decide)]; decide)), (fun h => absurd h (by rw [hL 6 (by decide)]; decide)), (fun h => absurd h (by rw [hL 7 (by decide)]; decide)), (fun h => absurd h (by rw [hL 8 (by decide)]; decide)), (fun h => absurd h (by rw [hL 9 (by decide)]; decide)), (fun h => absurd h (by rw [hL 10 (by decide)]; decide)), (fun h => absurd h (by rw [hL 11 (by decide)]; decide)), (fun h => absurd h (by rw [hL 12 (by decide)]; decide)), ⟨by rw [hL 5 (by decide), hL 11 (by decide)]; exact T5.out.drew, B5.out.trans ((Below.refl _ _).drew)⟩⟩
        refine Steps.cons (i := 0) rfl ?_ ?_
        · rintro L a u ⟨x0, x1, x2, x3, x4, x5, x6, x7, x8, x9, x10, x11, x12, rfl, h0, h1, h2, h3, h4, h5, h6, h7, h8, h9, h10, h11, h12, hm⟩ hi hd K hK
          simp only [putAll, Act.put, List.setIfInBounds_toArray, List.set_cons_zero, List.set_cons_succ]
          (try simp [Region.binds] at hd)
          replace h0 := Lib.hid h0
          replace h1 := Lib.hid h1
          replace h2 := Lib.hid h2
          replace h3 := Lib.hid h3
          replace h4 := Lib.hid h4
          replace h5 := Lib.hid h5
          replace h6 := Lib.hid h6
          replace h7 := Lib.hid h7
          replace h8 := Lib.hid h8
          replace h9 := Lib.hid h9
          replace h10 := Lib.hid h10
          replace h11 := Lib.hid h11
          replace h12 := Lib.hid h12
          go_simp
          exact hK.out _ _ ⟨_, _, _, _, _, _, _, _, _, _, _, _, _, by ((simp only [putAll, Act.put, List.setIfInBounds_toArray, List.set_cons_zero, List.set_cons_succ]) <;> rfl), (fun _ => rfl), h1.out, h2.out, h3.out, h4.out, h5.out, h6.out, h7.out, h8.out, h9.out, h10.out, h11.out, h12.out, hm⟩
        refine Steps.cons (i := 1) rfl ?_ ?_
        · rintro L a u ⟨x0, x1, x2, x3, x4, x5, x6, x7, x8, x9, x10, x11, x12, rfl, h0, h1, h2, h3, h4, h5, h6, h7, h8, h9, h10, h11, h12, hm⟩ hi hd K hK
          simp only [putAll, Act.put, List.setIfInBounds_toArray, List.set_cons_zero, List.set_cons_succ]
          (try simp [Region.binds] at hd)
          replace h0 := Lib.hid h0
          replace h1 := Lib.hid h1
          replace h2 := Lib.hid h2
          replace h3 := Lib.hid h3
          replace h4 := Lib.hid h4
          replace h5 := Lib.hid h5
          replace h6 := Lib.hid h6
          replace h7 := Lib.hid h7
          replace h8 := Lib.hid h8
          replace h9 := Lib.hid h9
          replace h10 := Lib.hid h10
          replace h11 := Lib.hid h11
          replace h12 := Lib.hid h12
          go_simp
          exact hK.out _ _ ⟨_, _, _, _, _, _, _, _, _, _, _, _, _, by ((simp only [putAll, Act.put, List.setIfInBounds_toArray, List.set_cons_zero, List.set_cons_succ]) <;> rfl), h0.out, (fun _ => rfl), h2.out, h3.out, h4.out, h5.out, h6.out, h7.out, h8.out, h9.out, h10.out, h11.out, h12.out, hm⟩
        refine Steps.cons (i := 2) rfl ?_ ?_
        · rintro L a u ⟨x0, x1, x2, x3, x4, x5, x6, x7, x8, x9, x10, x11, x12, rfl, h0, h1, h2, h3, h4, h5, h6, h7, h8, h9, h10, h11, h12, hm⟩ hi hd K hK
          simp only [putAll, Act.put, List.setIfInBounds_toArray, List.set_cons_zero, List.set_cons_succ]
          (try simp [Region.binds] at hd)
          replace h0 := Lib.hid h0
          replace h1 := Lib.hid h1
          replace h2 := Lib.hid h2
          replace h3 := Lib.hid h3
          replace h4 := Lib.hid h4
          replace h5 := Lib.hid h5
          replace h6 := Lib.hid h6
          replace h7 := Lib.hid h7
          replace h8 := Lib.hid h8
          replace h9 := Lib.hid h9
          replace h10 := Lib.hid h10
          replace h11 := Lib.hid h11
          replace h12 := Lib.hid h12
          obtain rfl := (h1.out (by simp [hd])).symm
          have c1 : u.cell? ⟨kb, 1, none⟩ = some (.int .i64 y.n) := hm.1.cell 1
          go_simp
          exact hK.out _ _ ⟨_, _, _, _, _, _, _, _, _, _, _, _, _, by ((simp only [putAll, Act.put, List.setIfInBounds_toArray, List.set_cons_zero, List.set_cons_succ]) <;> rfl), h0.out, h1.out, (fun _ => rfl), h3.out, h4.out, h5.out, h6.out, h7.out, h8.out, h9.out, h10.out, h11.out, h12.out, hm⟩
        refine Steps.cons (i := 3) rfl ?_ ?_
        · rintro L a u ⟨x0, x1, x2, x3, x4, x5, x6, x7, x8, x9, x10, x11, x12, rfl, h0, h1, h2, h3, h4, h5, h6, h7, h8, h9, h10, h11, h12, hm⟩ hi hd K hK
          simp only [putAll, Act.put, List.setIfInBounds_toArray, List.set_cons_zero, List.set_cons_succ]
          (try simp [Region.binds] at hd)
          replace h0 := Lib.hid h0
          replace h1 := Lib.hid h1
          replace h2 := Lib.hid h2
          replace h3 := Lib.hid h3
          replace h4 := Lib.hid h4
          replace h5 := Lib.hid h5
          replace h6 := Lib.hid h6
          replace h7 := Lib.hid h7
          replace h8 := Lib.hid h8
          replace h9 := Lib.hid h9
          replace h10 := Lib.hid h10
          replace h11 := Lib.hid h11
          replace h12 := Lib.hid h12
          go_simp
          exact hK.out _ _ ⟨_, _, _, _, _, _, _, _, _, _, _, _, _, by ((simp only [putAll, Act.put, List.setIfInBounds_toArray, List.set_cons_zero, List.set_cons_succ]) <;> rfl), h0.out, h1.out, h2.out, (fun _ => rfl), h4.out, h5.out, h6.out, h7.out, h8.out, h9.out, h10.out, h11.out, h12.out, hm⟩
        refine Steps.cons (i := 4) rfl ?_ ?_
        · rintro L a u ⟨x0, x1, x2, x3, x4, x5, x6, x7, x8, x9, x10, x11, x12, rfl, h0, h1, h2, h3, h4, h5, h6, h7, h8, h9, h10, h11, h12, hm⟩ hi hd K hK
          simp only [putAll, Act.put, List.setIfInBounds_toArray, List.set_cons_zero, List.set_cons_succ]
          (try simp [Region.binds] at hd)
          replace h0 := Lib.hid h0
          replace h1 := Lib.hid h1
          replace h2 := Lib.hid h2
          replace h3 := Lib.hid h3
          replace h4 := Lib.hid h4
          replace h5 := Lib.hid h5
          replace h6 := Lib.hid h6
          replace h7 := Lib.hid h7
          replace h8 := Lib.hid h8
          replace h9 := Lib.hid h9
          replace h10 := Lib.hid h10
          replace h11 := Lib.hid h11
          replace h12 := Lib.hid h12
          obtain rfl := (h3.out (by simp [hd])).symm
          have c2 : u.cell? ⟨kb, 2, none⟩ = some (.string y.s) := hm.1.cell 2
          go_simp
          exact hK.out _ _ ⟨_, _, _, _, _, _, _, _, _, _, _, _, _, by ((simp only [putAll, Act.put, List.setIfInBounds_toArray, List.set_cons_zero, List.set_cons_succ]) <;> rfl), h0.out, h1.out, h2.out, h3.out, (fun _ => rfl), h5.out, h6.out, h7.out, h8.out, h9.out, h10.out, h11.out, h12.out, hm⟩
        refine Steps.cons (i := 5) rfl ?_ ?_
        · rintro L a u ⟨x0, x1, x2, x3, x4, x5, x6, x7, x8, x9, x10, x11, x12, rfl, h0, h1, h2, h3, h4, h5, h6, h7, h8, h9, h10, h11, h12, hm⟩ hi hd K hK
          simp only [putAll, Act.put, List.setIfInBounds_toArray, List.set_cons_zero, List.set_cons_succ]
          (try simp [Region.binds] at hd)
          replace h0 := Lib.hid h0
          replace h1 := Lib.hid h1
          replace h2 := Lib.hid h2
          replace h3 := Lib.hid h3
          replace h4 := Lib.hid h4
          replace h5 := Lib.hid h5
          replace h6 := Lib.hid h6
          replace h7 := Lib.hid h7
          replace h8 := Lib.hid h8
          replace h9 := Lib.hid h9
          replace h10 := Lib.hid h10
          replace h11 := Lib.hid h11
          replace h12 := Lib.hid h12
          obtain rfl := (h0.out (by simp [hd])).symm
          obtain rfl := (h2.out (by simp [hd])).symm
          obtain rfl := (h4.out (by simp [hd])).symm
          have hm1 := hm.1
          simp only [hi, cond_false] at hm1
          go_simp
          refine (hm1.callD hm.2.size fun S h => os_write h HX.out (by have := HXP.out; omega) y.n y.s hys z HW.out).mono ?_
          rintro e u5 ⟨rfl, hA5, hb5⟩
          go_wp2_with fail
          exact hK.out _ _ ⟨_, _, _, _, _, _, _, _, _, _, _, _, _, by ((simp only [putAll, Act.put, List.setIfInBounds_toArray, List.set_cons_zero, List.set_cons_succ]) <;> rfl), (fun _ => rfl), h1.out, (fun _ => rfl), h3.out, (fun _ => rfl), (fun _ => rfl), h6.out, h7.out, h8.out, h9.out, h10.out, h11.out, h12.out, ⟨hA5, hm.2.trans hb5⟩⟩
        refine Steps.cons (i := 6) rfl ?_ ?_
        · rintro L a u ⟨x0, x1, x2, x3, x4, x5, x6, x7, x8, x9, x10, x11, x12, rfl, h0, h1, h2, h3, h4, h5, h6, h7, h8, h9, h10, h11, h12, hm⟩ hi hd K hK
          simp only [putAll, Act.put, List.setIfInBounds_toArray, List.set_cons_zero, List.set_cons_succ]
          (try simp [Region.binds] at hd)
          replace h0 := Lib.hid h0
          replace h1 := Lib.hid h1
          replace h2 := Lib.hid h2
          replace h3 := Lib.hid h3
          replace h4 := Lib.hid h4
          replace h5 := Lib.hid h5
          replace h6 := Lib.hid h6
          replace h7 := Lib.hid h7
          replace h8 := Lib.hid h8
          replace h9 := Lib.hid h9
          replace h10 := Lib.hid h10
          replace h11 := Lib.hid h11
          replace h12 := Lib.hid h12
          go_simp
          exact hK.out _ _ ⟨_, _, _, _, _, _, _, _, _, _, _, _, _, by ((simp only [putAll, Act.put, List.setIfInBounds_toArray, List.set_cons_zero, List.set_cons_succ]) <;> rfl), h0.out, h1.out, h2.out, h3.out, h4.out, h5.out, (fun _ => rfl), h7.out, h8.out, h9.out, h10.out, h11.out, h12.out, hm⟩
        refine Steps.cons (i := 7) rfl ?_ ?_
        · rintro L a u ⟨x0, x1, x2, x3, x4, x5, x6, x7, x8, x9, x10, x11, x12, rfl, h0, h1, h2, h3, h4, h5, h6, h7, h8, h9, h10, h11, h12, hm⟩ hi hd K hK
          simp only [putAll, Act.put, List.setIfInBounds_toArray, List.set_cons_zero, List.set_cons_succ]
          (try simp [Region.binds] at hd)
          replace h0 := Lib.hid h0
          replace h1 := Lib.hid h1
          replace h2 := Lib.hid h2
          replace h3 := Lib.hid h3
          replace h4 := Lib.hid h4
          replace h5 := Lib.hid h5
          replace h6 := Lib.hid h6
          replace h7 := Lib.hid h7
          replace h8 := Lib.hid h8
          replace h9 := Lib.hid h9
          replace h10 := Lib.hid h10
          replace h11 := Lib.hid h11
          replace h12 := Lib.hid h12
          go_simp
          exact hK.out _ _ ⟨_, _, _, _, _, _, _, _, _, _, _, _, _, by ((simp only [putAll, Act.put, List.setIfInBounds_toArray, List.set_cons_zero, List.set_cons_succ]) <;> rfl), h0.out, h1.out, h2.out, h3.out, h4.out, h5.out, h6.out, (fun _ => rfl), h8.out, h9.out, h10.out, h11.out, h12.out, hm⟩
        refine Steps.cons (i := 8) rfl ?_ ?_
        · rintro L a u ⟨x0, x1, x2, x3, x4, x5, x6, x7, x8, x9, x10, x11, x12, rfl, h0, h1, h2, h3, h4, h5, h6, h7, h8, h9, h10, h11, h12, hm⟩ hi hd K hK
          simp only [putAll, Act.put, List.setIfInBounds_toArray, List.set_cons_zero, List.set_cons_succ]
          (try simp [Region.binds] at hd)
          replace h0 := Lib.hid h0
          replace h1 := Lib.hid h1
          replace h2 := Lib.hid h2
          replace h3 := Lib.hid h3
          replace h4 := Lib.hid h4
          replace h5 := Lib.hid h5
          replace h6 := Lib.hid h6
          replace h7 := Lib.hid h7
          replace h8 := Lib.hid h8
          replace h9 := Lib.hid h9
          replace h10 := Lib.hid h10
          replace h11 := Lib.hid h11
          replace h12 := Lib.hid h12
          obtain rfl := (h7.out (by simp [hd])).symm
          have c1 : u.cell? ⟨kb, 1, none⟩ = some (.int .i64 y.n) := hm.1.cell 1
          go_simp
          exact hK.out _ _ ⟨_, _, _, _, _, _, _, _, _, _, _, _, _, by ((simp only [putAll, Act.put, List.setIfInBounds_toArray, List.set_cons_zero, List.set_cons_succ]) <;> rfl), h0.out, h1.out, h2.out, h3.out, h4.out, h5.out, h6.out, h7.out, (fun _ => rfl), h9.out, h10.out, h11.out, h12.out, hm⟩
        refine Steps.cons (i := 9) rfl ?_ ?_
        · rintro L a u ⟨x0, x1, x2, x3, x4, x5, x6, x7, x8, x9, x10, x11, x12, rfl, h0, h1, h2, h3, h4, h5, h6, h7, h8, h9, h10, h11, h12, hm⟩ hi hd K hK
          simp only [putAll, Act.put, List.setIfInBounds_toArray, List.set_cons_zero, List.set_cons_succ]
          (try simp [Region.binds] at hd)
          replace h0 := Lib.hid h0
          replace h1 := Lib.hid h1
          replace h2 := Lib.hid h2
          replace h3 := Lib.hid h3
          replace h4 := Lib.hid h4
          replace h5 := Lib.hid h5
          replace h6 := Lib.hid h6
          replace h7 := Lib.hid h7
          replace h8 := Lib.hid h8
          replace h9 := Lib.hid h9
          replace h10 := Lib.hid h10
          replace h11 := Lib.hid h11
          replace h12 := Lib.hid h12
          go_simp
          exact hK.out _ _ ⟨_, _, _, _, _, _, _, _, _, _, _, _, _, by ((simp only [putAll, Act.put, List.setIfInBounds_toArray, List.set_cons_zero, List.set_cons_succ]) <;> rfl), h0.out, h1.out, h2.out, h3.out, h4.out, h5.out, h6.out, h7.out, h8.out, (fun _ => rfl), h10.out, h11.out, h12.out, hm⟩
        refine Steps.cons (i := 10) rfl ?_ ?_
        · rintro L a u ⟨x0, x1, x2, x3, x4, x5, x6, x7, x8, x9, x10, x11, x12, rfl, h0, h1, h2, h3, h4, h5, h6, h7, h8, h9, h10, h11, h12, hm⟩ hi hd K hK
          simp only [putAll, Act.put, List.setIfInBounds_toArray, List.set_cons_zero, List.set_cons_succ]
          (try simp [Region.binds] at hd)
          replace h0 := Lib.hid h0
          replace h1 := Lib.hid h1
          replace h2 := Lib.hid h2
          replace h3 := Lib.hid h3
          replace h4 := Lib.hid h4
          replace h5 := Lib.hid h5
          replace h6 := Lib.hid h6
          replace h7 := Lib.hid h7
          replace h8 := Lib.hid h8
          replace h9 := Lib.hid h9
          replace h10 := Lib.hid h10
          replace h11 := Lib.hid h11
          replace h12 := Lib.hid h12
          obtain rfl := (h9.out (by simp [hd])).symm
          have c2 : u.cell? ⟨kb, 2, none⟩ = some (.string y.s) := hm.1.cell 2
          go_simp
          exact hK.out _ _ ⟨_, _, _, _, _, _, _, _, _, _, _, _, _, by ((simp only [putAll, Act.put, List.setIfInBounds_toArray, List.set_cons_zero, List.set_cons_succ]) <;> rfl), h0.out, h1.out, h2.out, h3.out, h4.out, h5.out, h6.out, h7.out, h8.out, h9.out, (fun _ => rfl), h11.out, h12.out, hm⟩
        refine Steps.cons (i := 11) rfl ?_ ?_
        · rintro L a u ⟨x0, x1, x2, x3, x4, x5, x6, x7, x8, x9, x10, x11, x12, rfl, h0, h1, h2, h3, h4, h5, h6, h7, h8, h9, h10, h11, h12, hm⟩ hi hd K hK
          simp only [putAll, Act.put, List.setIfInBounds_toArray, List.set_cons_zero, List.set_cons_succ]
          (try simp [Region.binds] at hd)
          replace h0 := Lib.hid h0
          replace h1 := Lib.hid h1
          replace h2 := Lib.hid h2
          replace h3 := Lib.hid h3
          replace h4 := Lib.hid h4
          replace h5 := Lib.hid h5
          replace h6 := Lib.hid h6
          replace h7 := Lib.hid h7
          replace h8 := Lib.hid h8
          replace h9 := Lib.hid h9
          replace h10 := Lib.hid h10
          replace h11 := Lib.hid h11
          replace h12 := Lib.hid h12
          obtain rfl := (h6.out (by simp [hd])).symm
          obtain rfl := (h8.out (by simp [hd])).symm
          obtain rfl := (h10.out (by simp [hd])).symm
          have hm1 := hm.1
          simp only [hi, cond_false] at hm1
          go_simp
          refine (hm1.callQ hm.2.size fun S h => rwrite_c S gq x y1 y.n y.s z _ h HX.out (by have := HXP.out; omega) hys HW.out).mono ?_
          rintro e u5 ⟨rfl, hA5, hb5⟩
          go_wp2_with fail
          exact hK.out _ _ ⟨_, _, _, _, _, _, _, _, _, _, _, _, _, by ((simp only [putAll, Act.put, List.setIfInBounds_toArray, List.set_cons_zero, List.set_cons_succ]) <;> rfl), h0.out, h1.out, h2.out, h3.out, h4.out, h5.out, (fun _ => rfl), h7.out, (fun _ => rfl), h9.out, (fun _ => rfl), (fun _ => rfl), h12.out, ⟨hA5, hm.2.trans hb5⟩⟩
        refine Steps.cons (i := 12) rfl ?_ ?_
        · rintro L a u ⟨x0, x1, x2, x3, x4, x5, x6, x7, x8, x9, x10, x11, x12, rfl, h0, h1, h2, h3, h4, h5, h6, h7, h8, h9, h10, h11, h12, hm⟩ hi hd K hK
          simp only [putAll, Act.put, List.setIfInBounds_toArray, List.set_cons_zero, List.set_cons_succ]
          (try simp [Region.binds] at hd)
          replace h0 := Lib.hid h0
          replace h1 := Lib.hid h1
          replace h2 := Lib.hid h2
          replace h3 := Lib.hid h3
          replace h4 := Lib.hid h4
          replace h5 := Lib.hid h5
          replace h6 := Lib.hid h6
          replace h7 := Lib.hid h7
          replace h8 := Lib.hid h8
          replace h9 := Lib.hid h9
          replace h10 := Lib.hid h10
          replace h11 := Lib.hid h11
          replace h12 := Lib.hid h12
          obtain rfl := (h5.out (by simp [hd])).symm
          obtain rfl := (h11.out (by simp [hd])).symm
          go_simp
          exact hK.out _ _ ⟨_, _, _, _, _, _, _, _, _, _, _, _, _, by ((simp only [putAll, Act.put, List.setIfInBounds_toArray, List.set_cons_zero, List.set_cons_succ]) <;> rfl), h0.out, h1.out, h2.out, h3.out, h4.out, h5.out, h6.out, h7.out, h8.out, h9.out, h10.out, h11.out, (fun _ => rfl), hm⟩
        · exact Steps.nil
        · rintro L a u ⟨x0, x1, x2, x3, x4, x5, x6, x7, x8, x9, x10, x11, x12, rfl, h0, h1, h2, h3, h4, h5, h6, h7, h8, h9, h10, h11, h12, hm⟩ hall
          simp only [putAll, Act.put, List.setIfInBounds_toArray, List.set_cons_zero, List.set_cons_succ]
          have T6 := Lib.hid hm.1
          simp only [hall 5 (by decide), hall 11 (by decide), cond_true] at T6
          have B6 := Lib.hid hm.2
          obtain rfl := h12 (hall 12 (by decide))
          clear hm hall h0 h1 h2 h3 h4 h5 h6 h7 h8 h9 h10 h11 T5 B5
          go_wp2_with fail
          refine (T6.out.two.same B6.out.size OK1.out (by have := PL1.out; omega)).mono ?_
          rintro e wz ⟨rfl, hT9, hB9⟩
          have B9 := Lib.hid (B6.out.trans hB9)
          have T9 := Lib.hid hT9
          clear hT9 hB9
          go_wp2_with fail
          exact ⟨⟨j + 1, gd, y1, rfl, by go_num, by omega, by omega, OK1.out, PL1.out, DL1.out, T9.out, B9.out⟩, by simp [intOf]; omega⟩

      · obtain ⟨⟨y1, z⟩, hz⟩ : ∃ p, x.sync = p := ⟨_, rfl⟩
        have HW := Lib.hid hz
        have ok1 := HX.out.sync
        have len1 := sync_len x
        rw [hz] at ok1 len1
        have OK1 := Lib.hid ok1
        have PL1 := Lib.hid (show y1.P.length ≤ j + 1 by have := HXP.out; have h := len1.1; simp only at h; omega)
        have DL1 := Lib.hid (show y1.D.length = m from len1.2.trans HXD.out)
        clear hz ok1 len1
        go_wp2_with fail
        refine (T5.out.callD B5.out.size fun S h => os_sync h HX.out (by have := HXP.out; omega) z HW.out).mono ?_
        rintro e w6 ⟨rfl, hT6, hB6⟩
        have T6 := Lib.hid hT6
        have B6 := Lib.hid (B5.out.trans hB6)
        clear hT6 hB6 T5 B5 c0 c1 c2 c3 c4 c5
        go_wp2_with fail
        refine (T6.out.callQ B6.out.size fun S h => rsync_c S gq x y1 z _ h HX.out HW.out).mono ?_
        rintro e w7 ⟨rfl, hT7, hB7⟩
        have T7 := Lib.hid hT7
        have B7 := Lib.hid (B6.out.trans hB7)
        clear hT7 hB7 T6 B6
        go_wp2_with fail
        refine (T7.out.two.same B7.out.size OK1.out (by have := PL1.out; omega)).mono ?_
        rintro e wz ⟨rfl, hT9, hB9⟩
        have B9 := Lib.hid (B7.out.trans hB9)
        have T9 := Lib.hid hT9
        clear hT9 hB9
        go_wp2_with fail
        exact ⟨⟨j + 1, gd, y1, rfl, by go_num, by omega, by omega, OK1.out, PL1.out, DL1.out, T9.out, B9.out⟩, by simp [intOf]; omega⟩

      · obtain ⟨y1, hz⟩ : ∃ p, x.crash y.c = p := ⟨_, rfl⟩
        have HW := Lib.hid hz
        have ok1 := HX.out.crash y.c
        have len1 := crash_len x y.c
        rw [hz] at ok1 len1
        have OK1 := Lib.hid ok1
        have PL1 := Lib.hid (show y1.P.length ≤ j + 1 by have := HXP.out; have h := len1.1; omega)
        have DL1 := Lib.hid (show y1.D.length = m from len1.2.trans HXD.out)
        clear hz ok1 len1
        go_wp2_with fail
        refine (T5.out.callD (x' := y1) B5.out.size fun S h => HW.out ▸ os_crash h HX.out (by have := HXP.out; omega) y.c HYF.out.c).mono ?_
        rintro e w6 ⟨rfl, hT6, hB6⟩
        have T6 := Lib.hid hT6
        have B6 := Lib.hid (B5.out.trans hB6)
        clear hT6 hB6 T5 B5 c0 c1 c2 c3 c4 c5
        have c3 : w6.cell? ⟨kb, 3, none⟩ = some (.int .u64 (y.c.keep : Int)) := T6.out.cell 3
        have c4 : w6.cell? ⟨kb, 4, none⟩ = some (.int .i64 y.c.torn) := T6.out.cell 4
        have c5 : w6.cell? ⟨kb, 5, none⟩ = some (.int .i64 y.c.at') := T6.out.cell 5
        go_wp2_with fail
        refine (T6.out.callQ (x' := y1) B6.out.size fun S h => HW.out ▸ rcrash_c S gq x y.c _ h HX.out (by have := HXP.out; omega) HYF.out.c).mono ?_
        rintro e w7 ⟨rfl, hT7, hB7⟩
        have T7 := Lib.hid hT7
        have B7 := Lib.hid (B6.out.trans hB7)
        clear hT7 hB7 T6 B6 c3 c4 c5
        go_wp2_with fail
        refine (T7.out.two.same B7.out.size OK1.out (by have := PL1.out; omega)).mono ?_
        rintro e wz ⟨rfl, hT9, hB9⟩
        have B9 := Lib.hid (B7.out.trans hB9)
        have T9 := Lib.hid hT9
        clear hT9 hB9
        go_wp2_with fail
        exact ⟨⟨j + 1, gd, y1, rfl, by go_num, by omega, by omega, OK1.out, PL1.out, DL1.out, T9.out, B9.out⟩, by simp [intOf]; omega⟩

      · have OK1 := Lib.hid (HX.out.fuse y.n HYF.out.n.2)
        have len1 := fuse_len x y.n
        have PL1 := Lib.hid (show (x.fuse y.n).P.length ≤ j + 1 by have := HXP.out; have h := len1.1; omega)
        have DL1 := Lib.hid (show (x.fuse y.n).D.length = m from len1.2.trans HXD.out)
        clear len1
        go_wp2_with fail
        refine (T5.out.callD B5.out.size fun S h => os_fuse h HX.out y.n).mono ?_
        rintro e w6 ⟨rfl, hT6, hB6⟩
        have T6 := Lib.hid hT6
        have B6 := Lib.hid (B5.out.trans hB6)
        clear hT6 hB6 T5 B5 c0 c1 c2 c3 c4 c5
        have c1 : w6.cell? ⟨kb, 1, none⟩ = some (.int .i64 y.n) := T6.out.cell 1
        obtain ⟨⟨v4, c4⟩, f4⟩ := T6.out.f4
        by_cases hmx : -1 ≤ y.n
        · have hmx4 : ¬ (y.n < -1) := by omega
          obtain ⟨hT7, hB7⟩ := T6.out.fuseQ B6.out.size y.n
          rw [show max y.n (-1) = y.n by omega] at hT7 hB7
          go_upto_region 28 with (fail)
          have T7 := Lib.hid hT7
          have B7 := Lib.hid (B6.out.trans hB7)
          clear hT7 hB7 T6 B6 c1 c4 f4
          generalize w6.setCell ⟨gq, 4, none⟩ (.int .i64 y.n) = w7 at T7 B7 ⊢
          go_wp2_with fail
          refine (T7.out.two.same B7.out.size OK1.out (by have := PL1.out; omega)).mono ?_
          rintro e wz ⟨rfl, hT9, hB9⟩
          have B9 := Lib.hid (B7.out.trans hB9)
          have T9 := Lib.hid hT9
          clear hT9 hB9
          go_wp2_with fail
          exact ⟨⟨j + 1, gd, _, rfl, by go_num, by omega, by omega, OK1.out, PL1.out, DL1.out, T9.out, B9.out⟩, by simp [intOf]; omega⟩

        · have hmx2 : y.n < -1 := by omega
          have hmx3 : y.n ≤ -1 := by omega
          obtain ⟨hT7, hB7⟩ := T6.out.fuseQ B6.out.size y.n
          rw [show max y.n (-1) = (-1) by omega] at hT7 hB7
          go_upto_region 28 with (fail)
          have T7 := Lib.hid hT7
          have B7 := Lib.hid (B6.out.trans hB7)
          clear hT7 hB7 T6 B6 c1 c4 f4
          go_wp2_with fail
          refine (T7.out.two.same B7.out.size OK1.out (by have := PL1.out; omega)).mono ?_
          rintro e wz ⟨rfl, hT9, hB9⟩
          have B9 := Lib.hid (B7.out.trans hB9)
          have T9 := Lib.hid hT9
          clear hT9 hB9
          go_wp2_with fail
          exact ⟨⟨j + 1, gd, _, rfl, by go_num, by omega, by omega, OK1.out, PL1.out, DL1.out, T9.out, B9.out⟩, by simp [intOf]; omega⟩

      · go_wp2_with fail
        refine (T5.out.two.copy B5.out.size HX.out (by have := HXP.out; omega)).mono ?_
        rintro e w6 ⟨gc, rfl, hT6, hB6⟩
        have T6 := Lib.hid hT6
        have B6 := Lib.hid (B5.out.trans hB6)
        clear hT6 hB6 T5 B5 c0 c1 c2 c3 c4 c5
        go_wp2_with fail
        refine (T6.out.same B6.out.size HX.out (by have := (Nat.le_succ_of_le HXP.out); omega)).mono ?_
        rintro e wz ⟨rfl, hT9, hB9⟩
        have B9 := Lib.hid (B6.out.trans hB9)
        have T9 := Lib.hid hT9
        clear hT9 hB9
        go_wp2_with fail
        exact ⟨⟨j + 1, gc, x, rfl, by go_num, by omega, by omega, HX.out, (Nat.le_succ_of_le HXP.out), HXD.out, T9.out, B9.out⟩, by simp [intOf]; omega⟩

    · have hend : (j : Int) < (l.length : Int) → ¬ ((j : Int) < 60) := by omega
      obtain ⟨qa, qc, cq⟩ := T3.out.c0 m HXD.out
      by_cases hlt1 : (j : Int) < (l.length : Int)
      · have hlt2 : ¬ ((j : Int) < 60) := hend hlt1
        clear hend hlt
        go_wp2_with fail
        refine (T3.out.far B3.out.size HX.out m HXD.out).mono ?_
        rintro e w6 ⟨rfl, b6⟩
        go_wp2_with fail
        refine (head_c _).mono ?_
        rintro e w7 ⟨rfl, b7⟩
        have B6 := B3.out.trans b6
        go_wp2_with fail
        go_ret
        exact ⟨rfl, B6.trans (b7.mono B6.size)⟩
      · clear hend hlt
        go_wp2_with fail
        refine (T3.out.far B3.out.size HX.out m HXD.out).mono ?_
        rintro e w6 ⟨rfl, b6⟩
        go_wp2_with fail
        refine (head_c _).mono ?_
        rintro e w7 ⟨rfl, b7⟩
        have B6 := B3.out.trans b6
        go_wp2_with fail
        go_ret
        exact ⟨rfl, B6.trans (b7.mono B6.size)⟩
end Go.Proofs.Ythoafaaemikiaaa.Dv
