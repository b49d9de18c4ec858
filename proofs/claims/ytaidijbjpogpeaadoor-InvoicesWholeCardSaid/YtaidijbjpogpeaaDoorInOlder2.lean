/- Package invoices: InvoicesOlder, where Ages tells both. (gen_inolder.py writes this.) -/
import Derived.Test.YtaidijbjpogpeaaDoorInOlder1
namespace Go.Proofs.YtaidijbjpogpeaaDoor.Inv
open Go.RowKit Cm
def lefts (L : List Iv) (k : Nat) : List Int := (L.take k).map Iv.left
theorem lefts_step (L : List Iv) (k : Nat) (x : Iv) (h : k < L.length) (hx : L[k] = x) : lefts L (k + 1) = lefts L k ++ [x.left] := by
  unfold lefts; rw [List.take_succ_eq_append_getElem h, List.map_append, hx]; rfl
theorem lefts_len (L : List Iv) (k : Nat) : (lefts L k).length ≤ k := by unfold lefts; simp; omega
theorem lefts_all (L : List Iv) (day : Int) : (lefts L L.length).sum = T (pairs L day) := by
  unfold lefts T pairs; rw [List.take_length, List.map_map]; rfl
theorem pairs_bd (L : List Iv) (day : Int) : ∀ p ∈ pairs L day, 0 ≤ p.1 ∧ p.1 ≤ 4 := by
  intro p hp
  obtain ⟨x, _, rfl⟩ := List.mem_map.1 hp
  exact ageOf_bd _
theorem late_mono (x : Iv) {p q : Int} (h : p ≤ q) : x.late p ≤ x.late q := by unfold Iv.late; split <;> split <;> omega
theorem fr_mono (L : List Iv) {p q : Int} (h : p ≤ q) (hk : ∀ x ∈ L, x.Ok) (k : Int) : Fr (pairs L p) k ≤ Fr (pairs L q) k :=
  Fr_later L (fun x => ageOf (x.late p)) (fun x => ageOf (x.late q)) Iv.left (fun x hx => ⟨ageOf_mono (late_mono x h), (hk x hx).left0⟩) k
theorem pk_fr (L : List Iv) (day : Int) (k : Nat) (hk : k < 5) : Pk [S (pairs L day) 0, S (pairs L day) 1, S (pairs L day) 2, S (pairs L day) 3, S (pairs L day) 4] k 5 = Fr (pairs L day) k := by
  obtain ⟨f4, f3, f2, f1, f0⟩ := Fr_is (pairs L day) (pairs_bd L day)
  have : k = 0 ∨ k = 1 ∨ k = 2 ∨ k = 3 ∨ k = 4 := by omega
  rcases this with rfl | rfl | rfl | rfl | rfl <;> simp [Pk, f0, f1, f2, f3, f4] <;> omega
theorem s_nonneg (L : List Iv) (day : Int) (hk : ∀ x ∈ L, x.Ok) (j : Int) : 0 ≤ S (pairs L day) j := S_nonneg _ (fun p hp => by obtain ⟨x, hx, rfl⟩ := List.mem_map.1 hp; exact (hk x hx).left0) j
theorem open_ok (x : Iv) (w : World) (hx : x.Fits) (hk : x.Ok) : Calls Tryd.prog 16 #[x.val] w fun e w' => e = .returned (.int .i64 x.left) ∧ Below w.heap.size w w' := by
  have h := open_c x w hx
  rwa [show x.opn = x.left by unfold Iv.opn; rw [if_pos ((okB_iff x).2 hk)]] at h
set_option maxRecDepth 100000 in
set_option maxHeartbeats 6400000 in
theorem older_ok (a : Option Addr) (cap : Nat) (L : List Iv) (d1 d2 p q : Int) (w : World) (hL : Ivs w a L) (hf : ∀ x ∈ L, x.Fits) (hpq : p ≤ q) (hl : L.length ≤ 100) (ht : Tab w)
    (hd : (d1 < d2 ∧ p = d1 ∧ q = d2) ∨ (d2 < d1 ∧ p = d2 ∧ q = d1) ∨ (d1 = d2 ∧ p = d1 ∧ q = d1))
    (s0 s1 s2 s3 s4 t0 t1 t2 t3 t4 z y : Int) (hs : AgesOf L p [s0, s1, s2, s3, s4] z) (hy : AgesOf L q [t0, t1, t2, t3, t4] y)
    (ka : ∀ w, Ivs w a L → Tab w → Calls Tryd.prog 22 #[.slice a L.length cap, .int .i64 p] w fun e w' => e = .returned (.tuple #[(.agg #[.int .i64 s0, .int .i64 s1, .int .i64 s2, .int .i64 s3, .int .i64 s4]), .int .i64 z]) ∧ Below w.heap.size w w')
    (kb : ∀ w, Ivs w a L → Tab w → Calls Tryd.prog 22 #[.slice a L.length cap, .int .i64 q] w fun e w' => e = .returned (.tuple #[(.agg #[.int .i64 t0, .int .i64 t1, .int .i64 t2, .int .i64 t3, .int .i64 t4]), .int .i64 y]) ∧ Below w.heap.size w w') (hz : z = 0) (hyz : y = 0) :
    Calls Tryd.prog 6 #[.slice a L.length cap, .int .i64 d1, .int .i64 d2] w fun e w' => e = .returned (.bool true) ∧ Below w.heap.size w w' := by
  have KH := Lib.hid head_c
  have HT := Lib.hid ht
  have HL := Lib.hid hL
  have K1 := Lib.hid ka
  have K2 := Lib.hid kb
  have hle : ¬ (100 : Int) < (L.length : Int) := by omega
  subst hz hyz
  obtain ⟨hok, hse, hsb⟩ := hs.yes rfl
  obtain ⟨-, hte, htb⟩ := hy.yes rfl
  have HF := Lib.hid hf
  have HK := Lib.hid hok
  have HD := Lib.hid hl
  have hp0 := s_nonneg L p hok
  have hq0 := s_nonneg L q hok
  have hTp := T_is (pairs L p) (pairs_bd L p)
  have hTq := T_is (pairs L q) (pairs_bd L q)
  rw [← lefts_all] at hTp hTq
  simp only [List.cons.injEq, and_true] at hse hte
  have hM := M_is
  have HSB := Lib.hid (show I64 s0 ∧ I64 s1 ∧ I64 s2 ∧ I64 s3 ∧ I64 s4 ∧ 0 ≤ s0 ∧ 0 ≤ s1 ∧ 0 ≤ s2 ∧ 0 ≤ s3 ∧ 0 ≤ s4 ∧ s0 + s1 + s2 + s3 + s4 = (lefts L L.length).sum by
    obtain ⟨e0, e1, e2, e3, e4⟩ := hse
    have a0 := hp0 0; have a1 := hp0 1; have a2 := hp0 2; have a3 := hp0 3; have a4 := hp0 4
    have b0 := hsb s0 (by simp); have b1 := hsb s1 (by simp); have b2 := hsb s2 (by simp); have b3 := hsb s3 (by simp); have b4 := hsb s4 (by simp)
    unfold I64
    omega)
  have HTB := Lib.hid (show I64 t0 ∧ I64 t1 ∧ I64 t2 ∧ I64 t3 ∧ I64 t4 ∧ 0 ≤ t0 ∧ 0 ≤ t1 ∧ 0 ≤ t2 ∧ 0 ≤ t3 ∧ 0 ≤ t4 ∧ t0 + t1 + t2 + t3 + t4 = (lefts L L.length).sum by
    obtain ⟨e0, e1, e2, e3, e4⟩ := hte
    have a0 := hq0 0; have a1 := hq0 1; have a2 := hq0 2; have a3 := hq0 3; have a4 := hq0 4
    have b0 := htb t0 (by simp); have b1 := htb t1 (by simp); have b2 := htb t2 (by simp); have b3 := htb t3 (by simp); have b4 := htb t4 (by simp)
    unfold I64
    omega)
  have HFR := Lib.hid (show ∀ k : Nat, k < 5 → Pk [s0, s1, s2, s3, s4] k 5 ≤ Pk [t0, t1, t2, t3, t4] k 5 by
    intro k hk
    obtain ⟨rfl, rfl, rfl, rfl, rfl⟩ := hse
    obtain ⟨rfl, rfl, rfl, rfl, rfl⟩ := hte
    rw [pk_fr L p k hk, pk_fr L q k hk]
    exact fr_mono L hpq hok k)
  have HLB := Lib.hid (show ∀ v ∈ lefts L L.length, I64 v by
    intro v hv
    obtain ⟨x, hx, rfl⟩ := List.mem_map.1 hv
    have h := hok x (List.mem_of_mem_take hx)
    have := h.left0; have := h.left; have := h.amt; have := h.cred; have := h.paid; have := h.lost
    constructor <;> omega)
  clear hs hy hL ht ka kb hse hte hf hok hpq hl hsb htb hp0 hq0 hTp hTq hM
  rcases hd with ⟨hd, rfl, rfl⟩ | ⟨hd, rfl, rfl⟩ | ⟨rfl, rfl, rfl⟩
  all_goals
    try (have hd1 := Int.le_of_lt hd; have hd2 := Int.not_lt.2 hd1; have hd3 := Int.not_le.2 hd)
    go_enter Tryd.func6, Tryd.ntmps6
    go_wp2_with fail
    refine (K1.out _ HL.out HT.out).mono ?_
    rintro e w1 ⟨rfl, b1⟩
    have D1 := Lib.hid (below_alloc b1 (.cells #[.int .i64 s0, .int .i64 s1, .int .i64 s2, .int .i64 s3, .int .i64 s4] 48))
    have X1 := Lib.hid (row_new w1 (vals [s0, s1, s2, s3, s4]) 48)
    clear b1
    go_wp2_with fail
    refine (K2.out _ (HL.out.later D1.out) (HT.out.later D1.out)).mono ?_
    rintro e w2 ⟨rfl, b2⟩
    have D2 := Lib.hid (below_alloc (then_below D1.out b2) (.cells #[.int .i64 t0, .int .i64 t1, .int .i64 t2, .int .i64 t3, .int .i64 t4] 48))
    have X2 := Lib.hid ((X1.out.later b2).alloc (.cells #[.int .i64 t0, .int .i64 t1, .int .i64 t2, .int .i64 t3, .int .i64 t4] 48))
    have Y2 := Lib.hid (show RowAt (w2.alloc (.cells #[.int .i64 t0, .int .i64 t1, .int .i64 t2, .int .i64 t3, .int .i64 t4] 48)) w2.heap.size (vals [t0, t1, t2, t3, t4]) from row_new w2 (vals [t0, t1, t2, t3, t4]) 48)
    have hlt := (X1.out.later b2).lt
    clear b2 X1 D1
    go_wp2_with fail
    generalize w2.alloc (.cells #[.int .i64 t0, .int .i64 t1, .int .i64 t2, .int .i64 t3, .int .i64 t4] 48) = W0 at *
    have HW := Lib.hid hlt
    clear hlt
    try clear hd hd1 hd2 hd3
    generalize w1.heap.size = gx at *
    generalize w2.heap.size = gy at *
    go_loopw [11, 12] (fun v i wr => ∃ k : Nat, k ≤ L.length ∧ i = .int .i64 k ∧ wr.ownsRow W0.heap.size 2 1 v (lefts L k).length (vals (lefts L k)) ∧ Below W0.heap.size W0 wr) (fun _ i _ => L.length - (intOf i).toNat)
    case atStart => exact ⟨0, by omega, rfl, World.ownsRow_nil _ _ _ _, Below.refl _ _⟩
    case round =>
      obtain ⟨k, hk, rfl, hown, hb⟩ := hrel
      have HW := Lib.hid hown
      have HV := Lib.hid hb
      have HU := Lib.hid (D2.out.trans (hb.mono D2.out.size))
      clear hown hb
      by_cases hlt : k < L.length
      · obtain ⟨x, hx⟩ : ∃ x, L[k] = x := ⟨_, rfl⟩
        obtain ⟨ab, ao, rfl, hab, c0, c1, c2, c3, c4, c5, c6, c7, c8, c9, c10⟩ := (HL.out.later HU.out).get k x hlt hx
        have hxk : x.Ok := hx ▸ HK.out L[k] (List.getElem_mem hlt)
        have hxf : x.Fits := hx ▸ HF.out L[k] (List.getElem_mem hlt)
        have ko := Lib.hid (fun w => open_ok x w hxf hxk)
        have HN := Lib.hid (lefts_step L k x hlt hx)
        have HC := Lib.hid (lefts_len L k)
        clear hxk hxf hx
        go_wp2_with fail
        refine (ko.out _).mono ?_
        rintro e w3 ⟨rfl, b3⟩
        have W2 := Lib.hid (own_later HW.out b3)
        have V2 := Lib.hid (HV.out.trans (b3.mono HV.out.size))
        clear b3 c0 c1 c2 c3 c4 c5 c6 c7 c8 c9 c10
        obtain ⟨i0, hi, hz0, hz1, hz2⟩ := info_parts infoI
        go_wp2_with (at_builtin; refine wpList_append_own _ rfl _ _ 59 rfl W0.heap.size 2 i0 (.int .i64 0) 1 8 Tryd.underlying59 hi hz0 hz1 hz2 rfl (by decide) _ _ _ rfl (W2.out.alloc _) ⟨w3.heap.size, 0, none⟩ 1 1 [.int .i64 x.left] rfl ?c0 ?c1 ?c2 ?c3 ?c4 ?c5 ?_)
        case c0 => rfl
        case c1 =>
          intro i u hi
          cases i with
          | zero => simp at hi; subst hi; rw [Go.WideShapes.add_plain, World.cell?_alloc_at _ _ _ _ rfl]; rfl
          | succ i => simp at hi
        case c2 => intro u hu; simp at hu; subst hu; rfl
        case c3 => have h1 := HC.out; have h2 := HD.out; unfold maxLen; omega
        case c4 => have h1 := HC.out; have h2 := HD.out; omega
        case c5 => have h1 := V2.out.size; simp; omega
        intro v' w' hown' hgrow _
        go_wp2_with fail
        exact ⟨⟨k + 1, by omega, by go_num, by rw [HN.out]; simpa [vals] using hown', (V2.out.alloc V2.out.size _).grown hgrow (by have := V2.out.size; simp; omega) (fun k hk => own_ge W2.out hk)⟩, by simp [intOf]; omega⟩
      · obtain rfl : k = L.length := by omega
        have X3 := Lib.hid (X2.out.later HV.out)
        have Y3 := Lib.hid (Y2.out.later HV.out)
        have ks := Lib.hid (asum_own W0.heap.size _ (lefts L L.length) wr HW.out (by have := lefts_len L L.length; have := HD.out; omega) HLB.out)
        have k5 := Lib.hid (fun w => HSB.out.2.2.2.2.2.2.2.2.2.2 ▸ sum5 s0 s1 s2 s3 s4 w HSB.out.1 HSB.out.2.1 HSB.out.2.2.1 HSB.out.2.2.2.1 HSB.out.2.2.2.2.1)
        have k6 := Lib.hid (fun w => HTB.out.2.2.2.2.2.2.2.2.2.2 ▸ sum5 t0 t1 t2 t3 t4 w HTB.out.1 HTB.out.2.1 HTB.out.2.2.1 HTB.out.2.2.2.1 HTB.out.2.2.2.2.1)
        have HSE := Lib.hid HSB.out.2.2.2.2.2.2.2.2.2.2
        have HTE := Lib.hid HTB.out.2.2.2.2.2.2.2.2.2.2
        generalize (lefts L L.length).sum = tt at *
        have HOK := Lib.hid (show Ar.ok tt = true → tt ≤ 9223372036854775807 from fun h => (of_decide_eq_true h).2)
        go_wp2_with fail
        refine ks.out.mono ?_
        rintro e w3 ⟨rfl, b3⟩
        have X4 := Lib.hid (X3.out.later b3)
        have Y4 := Lib.hid (Y3.out.later b3)
        have U4 := Lib.hid (HU.out.trans (b3.mono HU.out.size))
        clear b3 X3 Y3 ks
        have e0 := X4.out.cell 0 (by simp [vals])
        have e1 := X4.out.cell 1 (by simp [vals])
        have e2 := X4.out.cell 2 (by simp [vals])
        have e3 := X4.out.cell 3 (by simp [vals])
        have e4 := X4.out.cell 4 (by simp [vals])
        simp only [vals, List.map_cons, List.map_nil, List.getElem_cons_zero, List.getElem_cons_succ] at e0 e1 e2 e3 e4
        go_wp2_with fail
        refine (k5.out _).mono ?_
        rintro e w4 ⟨rfl, b4⟩
        have X5 := Lib.hid ((X4.out.alloc _).later b4)
        have Y5 := Lib.hid ((Y4.out.alloc _).later b4)
        have U5 := Lib.hid ((U4.out.alloc U4.out.size _).trans (b4.mono (U4.out.alloc U4.out.size _).size))
        clear b4 X4 Y4 U4 k5 e0 e1 e2 e3 e4
        have e0 := Y5.out.cell 0 (by simp [vals])
        have e1 := Y5.out.cell 1 (by simp [vals])
        have e2 := Y5.out.cell 2 (by simp [vals])
        have e3 := Y5.out.cell 3 (by simp [vals])
        have e4 := Y5.out.cell 4 (by simp [vals])
        simp only [vals, List.map_cons, List.map_nil, List.getElem_cons_zero, List.getElem_cons_succ] at e0 e1 e2 e3 e4
        go_wp2_with fail
        refine (k6.out _).mono ?_
        rintro e w5 ⟨rfl, b5⟩
        have X6 := Lib.hid ((X5.out.alloc _).later b5)
        have Y6 := Lib.hid ((Y5.out.alloc _).later b5)
        have U6 := Lib.hid ((U5.out.alloc U5.out.size _).trans (b5.mono (U5.out.alloc U5.out.size _).size))
        clear b5 X5 Y5 U5 k6 e0 e1 e2 e3 e4
        generalize Ar.val tt = vv at *
        generalize Ar.ok tt = ob at *
        cases ob with
        | false =>
          go_wp2_with fail
          refine wp_loop_rounds 1 ?_
          rw [rounds_succ]
          go_wp2_with fail
          refine (KH.out _ (HT.out.later U6.out)).mono ?_
          rintro e w6 ⟨rfl, b6⟩
          have D6 := Lib.hid (then_below U6.out b6)
          clear b6
          go_wp2_with fail
          go_ret
          exact ⟨rfl, D6.out⟩
        | true =>
          have hft := HOK.out rfl
          obtain ⟨xs, hxs⟩ : ∃ xs, [s0, s1, s2, s3, s4] = xs := ⟨_, rfl⟩
          obtain ⟨ys, hys⟩ : ∃ ys, [t0, t1, t2, t3, t4] = ys := ⟨_, rfl⟩
          have PX := Lib.hid (show xs.length = 5 ∧ (∀ x ∈ xs, 0 ≤ x) ∧ xs.sum = tt by
            have h := HSB.out
            subst hxs
            refine ⟨rfl, ?_, by simp; omega⟩
            intro x hx
            simp at hx
            rcases hx with rfl | rfl | rfl | rfl | rfl <;> omega)
          have PY := Lib.hid (show ys.length = 5 ∧ (∀ x ∈ ys, 0 ≤ x) ∧ ys.sum = tt by
            have h := HTB.out
            subst hys
            refine ⟨rfl, ?_, by simp; omega⟩
            intro x hx
            simp at hx
            rcases hx with rfl | rfl | rfl | rfl | rfl <;> omega)
          have X7 := Lib.hid (hxs ▸ X6.out)
          have Y7 := Lib.hid (hys ▸ Y6.out)
          have HG := Lib.hid (hys ▸ hxs ▸ HFR.out)
          have XB := Lib.hid (fun k i => Pk_bd xs k i PX.out.2.1)
          have YB := Lib.hid (fun k i => Pk_bd ys k i PY.out.2.1)
          clear hxs hys X6 Y6 HFR
          go_wp2_with fail
          go_loop [19] (fun i => ∃ k : Nat, k ≤ 5 ∧ i = .int .i64 k) (fun i => 5 - (intOf i).toNat)
          case atStart => exact ⟨0, by omega, rfl⟩
          case round =>
            obtain ⟨k, hk, rfl⟩ := hrel
            by_cases hk5 : k < 5
            · have hkd : decide ((k : Int) < 5) = true := by simp; omega
              go_wp2_with fail
              go_loop [20, 21, 22] (fun u v i => ∃ j : Nat, k ≤ j ∧ j ≤ 5 ∧ i = .int .i64 j ∧ u = .int .i64 (Pk xs k j) ∧ v = .int .i64 (Pk ys k j)) (fun _ _ i => 5 - (intOf i).toNat)
              case atStart => exact ⟨k, by omega, by omega, rfl, by rw [Pk_start], by rw [Pk_start]⟩
              case round =>
                obtain ⟨j, hj1, hj2, rfl, hu, hv⟩ := hrel
                by_cases hj5 : j < 5
                · have hjx : j < xs.length := by rw [PX.out.1]; exact hj5
                  have hjy : j < ys.length := by rw [PY.out.1]; exact hj5
                  have e1 := X7.out.cell j (by simpa [vals] using hjx)
                  have e2 := Y7.out.cell j (by simpa [vals] using hjy)
                  rw [get_vals xs j hjx] at e1
                  rw [get_vals ys j hjy] at e2
                  have S1 := Pk_step xs k j hj1 hjx
                  have S2 := Pk_step ys k j hj1 hjy
                  have b1 := XB.out k j
                  have b2 := XB.out k (j + 1)
                  have b3 := YB.out k j
                  have b4 := YB.out k (j + 1)
                  rw [S1, PX.out.2.2] at b2
                  rw [S2, PY.out.2.2] at b4
                  have q1 : 0 ≤ xs[j] := PX.out.2.1 _ (List.getElem_mem hjx)
                  have q2 : 0 ≤ ys[j] := PY.out.2.1 _ (List.getElem_mem hjy)
                  have T1 := Lib.hid S1
                  have T2 := Lib.hid S2
                  generalize xs[j] = xj at *
                  generalize ys[j] = yj at *
                  generalize Pk xs k j = u at *
                  generalize Pk ys k j = v at *
                  obtain ⟨b1, -⟩ := b1
                  obtain ⟨b2, b2'⟩ := b2
                  obtain ⟨b3, -⟩ := b3
                  obtain ⟨b4, b4'⟩ := b4
                  have r1 : u + xj ≤ 9223372036854775807 := by omega
                  have r2 : v + yj ≤ 9223372036854775807 := by omega
                  clear S1 S2 hjx hjy b2' b4'
                  subst hu hv
                  go_wp2_with fail
                  exact ⟨⟨j + 1, by omega, by omega, by go_num, by rw [T1.out], by rw [T2.out]⟩, by simp [intOf]; omega⟩
                · obtain rfl : j = 5 := by omega
                  have hle2 := HG.out k hk5
                  have hkx : k < xs.length := by rw [PX.out.1]; exact hk5
                  have hky : k < ys.length := by rw [PY.out.1]; exact hk5
                  have e1 := X7.out.cell k (by simpa [vals] using hkx)
                  have e2 := Y7.out.cell k (by simpa [vals] using hky)
                  rw [get_vals xs k hkx] at e1
                  rw [get_vals ys k hky] at e2
                  have q1 : ¬ xs[k] < 0 := by have := PX.out.2.1 _ (List.getElem_mem hkx); omega
                  have q2 : ¬ ys[k] < 0 := by have := PY.out.2.1 _ (List.getElem_mem hky); omega
                  generalize xs[k] = xj at *
                  generalize ys[k] = yj at *
                  generalize Pk xs k 5 = u at *
                  generalize Pk ys k 5 = v at *
                  have hle3 : ¬ v < u := by omega
                  have hj5d : decide (((5 : Nat) : Int) < 5) = false := by decide
                  clear hkx hky hle2
                  subst hu hv
                  go_wp2_with fail
                  exact ⟨⟨k + 1, by omega, by go_num⟩, by simp [intOf]; omega⟩
            · obtain rfl : k = 5 := by omega
              have hkd : decide (((5 : Nat) : Int) < 5) = false := by decide
              go_wp2_with fail
              refine (KH.out _ (HT.out.later U6.out)).mono ?_
              rintro e w6 ⟨rfl, b6⟩
              have D6 := Lib.hid (then_below U6.out b6)
              clear b6
              go_wp2_with fail
              go_ret
              exact ⟨rfl, D6.out⟩
end Go.Proofs.YtaidijbjpogpeaaDoor.Inv
