/- The document's ages. -/
import Derived.Test.YtaidijbjpogpeaaDoorInAges
import Derived.Test.YtaidijbjpogpeaaDoorInSum
import Derived.Laws.AppendOwn
namespace Go.Proofs.YtaidijbjpogpeaaDoor.Inv
open Go.RowKit Cm
theorem own_later {w w' : World} {base e size n : Nat} {v : Value} {xs : List Value} (h : w.ownsRow base e size v n xs) (hb : Below w.heap.size w w') : w'.ownsRow base e size v n xs := by
  refine h.kept (row := none) ⟨hb.os, hb.tape, hb.output, hb.size, fun k hk _ => hb.block k hk⟩ ?_
  cases hv : v.ownBlock with
  | none => exact .inl rfl
  | some k => exact .inr (by simp)
theorem own_ge {w : World} {base e size n k : Nat} {v : Value} {xs : List Value} (h : w.ownsRow base e size v n xs) (hk : v.ownBlock = some k) : base ≤ k := by
  rcases h.2 with ⟨rfl, _⟩ | ⟨g, cap, cur, rfl, hg, _⟩
  · simp [Value.ownBlock] at hk
  · simp [Value.ownBlock] at hk; omega
/-- What is open of those of an age, of the first k. -/
def own (L : List Iv) (day : Int) (j : Int) (k : Nat) : List Int := ((L.take k).filter fun x => decide (ageOf (x.late day) = j)).map Iv.left
theorem own_step (L : List Iv) (day j : Int) (k : Nat) (h : k < L.length) : own L day j (k + 1) = own L day j k ++ (if ageOf (L[k].late day) = j then [L[k].left] else []) := by
  unfold own
  rw [List.take_succ_eq_append_getElem h, List.filter_append, List.map_append]
  by_cases e : ageOf (L[k].late day) = j <;> simp [e]
theorem own_step' (L : List Iv) (day j : Int) (k : Nat) (x : Iv) (h : k < L.length) (hx : L[k] = x) : own L day j (k + 1) = own L day j k ++ (if ageOf (x.late day) = j then [x.left] else []) := by
  subst hx; exact own_step L day j k h
theorem Ivs.get {w : World} {a : Option Addr} {L : List Iv} (h : Ivs w a L) (j : Nat) (x : Iv) (hj : j < L.length) (hx : L[j] = x) :
    ∃ b off, a = some ⟨b, off, none⟩ ∧ b < w.heap.size ∧ w.cell? ⟨b, off + j * 11, none⟩ = some (.int .u64 x.id) ∧ w.cell? ⟨b, off + j * 11 + 1, none⟩ = some (.int .u64 x.cust) ∧ w.cell? ⟨b, off + j * 11 + 2, none⟩ = some (.int .u64 x.con) ∧ w.cell? ⟨b, off + j * 11 + 3, none⟩ = some (.int .i64 x.day) ∧ w.cell? ⟨b, off + j * 11 + 4, none⟩ = some (.int .i64 x.due) ∧ w.cell? ⟨b, off + j * 11 + 5, none⟩ = some (.int .i64 x.frm) ∧ w.cell? ⟨b, off + j * 11 + 6, none⟩ = some (.int .i64 x.next) ∧ w.cell? ⟨b, off + j * 11 + 7, none⟩ = some (.int .i64 x.amt) ∧ w.cell? ⟨b, off + j * 11 + 8, none⟩ = some (.int .i64 x.cred) ∧ w.cell? ⟨b, off + j * 11 + 9, none⟩ = some (.int .i64 x.paid) ∧ w.cell? ⟨b, off + j * 11 + 10, none⟩ = some (.int .i64 x.lost) := by
  subst hx; exact h j hj
theorem own_len (L : List Iv) (day j : Int) (k : Nat) : (own L day j k).length ≤ k := by
  unfold own
  rw [List.length_map]
  exact Nat.le_trans (List.length_filter_le _ _) (by simp; omega)
theorem own_sum (L : List Iv) (day j : Int) : (own L day j L.length).sum = S (pairs L day) j := by
  unfold own S pairs
  rw [List.take_length, List.filter_map, List.map_map]
  congr 1
theorem own_mem (L : List Iv) (day j : Int) (k : Nat) (P : Int → Prop) (h : ∀ x ∈ L, P x.left) : ∀ v ∈ own L day j k, P v := by
  intro v hv
  unfold own at hv
  obtain ⟨x, hx, rfl⟩ := List.mem_map.1 hv
  exact h x (List.mem_of_mem_take (List.mem_filter.1 hx).1)
set_option maxRecDepth 100000 in
theorem rsum_nil (w : World) :
    Calls Tryd.prog 34 #[.slice none 0 0] w fun e w' => e = .returned (.tuple #[.int .i64 0, .bool true]) ∧ w = w' := by
  have hand := i64_half 0
  simp only [Int.zero_emod] at hand
  go_enter Tryd.func34, Tryd.ntmps34
  go_wp2_with fail
  go_rounds 2
  go_ret2
  exact ⟨rfl, rfl⟩
theorem rsum_own (base : Nat) (v : Value) (xs : List Int) (w : World) (h : w.ownsRow base 2 1 v xs.length (vals xs)) (hl : xs.length ≤ 100000) (hx : ∀ x ∈ xs, 0 ≤ x ∧ x ≤ 9223372036854775807) :
    Calls Tryd.prog 34 #[v] w fun e w' => e = .returned (.tuple #[.int .i64 (sumV xs.sum), .bool (sumB xs.sum)]) ∧ w = w' := by
  rcases id h.2 with ⟨rfl, h0⟩ | ⟨g, cap, cur, rfl, hg, hrest⟩
  · have hl : xs = [] := List.length_eq_zero_iff.1 h0
    subst hl
    exact rsum_nil w
  · refine rsum_c g 0 cap xs w hl hx ?_
    intro j hj
    have := h.cells rfl j (.int .i64 xs[j]) (by simp [vals, hj])
    rw [Go.WideShapes.add_plain] at this
    simpa using this
theorem infoI : (Tryd.prog.info? 2).map (fun i => (i.zero, i.size, i.bytes)) = some (some (.int .i64 0), 1, 8) := by kernel_rfl
/-- The document's ages, as far as they have been reckoned. -/
structure AgR (L : List Iv) (day : Int) (j : Nat) (s : List Int) : Prop where
  len : s.length = 5
  yes : ∀ i, (h : i < s.length) → i < j → s[i] = S (pairs L day) i ∧ S (pairs L day) i ≤ M
theorem AgR.step {L : List Iv} {day : Int} {s : List Int} (j : Nat) (h : AgR L day j s) (_hj : j < s.length) (hf : S (pairs L day) j ≤ M) : AgR L day (j + 1) (s.set j (S (pairs L day) j)) := by
  refine ⟨by simpa using h.len, fun i hi hij => ?_⟩
  rw [List.getElem_set]
  split
  · rename_i e; subst e; exact ⟨rfl, hf⟩
  · exact h.yes i (by simpa using hi) (by omega)
theorem agesT_no (ps : List (Int × Int)) (j : Nat) (hj : j < 5) (h : ¬ S ps j ≤ M) : agesT ps = ([0, 0, 0, 0, 0], 211) := by
  have hf : agesFit ps = false := by
    refine decide_eq_false fun ⟨h0, h1, h2, h3, h4⟩ => ?_
    have : j = 0 ∨ j = 1 ∨ j = 2 ∨ j = 3 ∨ j = 4 := by omega
    rcases this with rfl | rfl | rfl | rfl | rfl <;> simp at h <;> omega
  unfold agesT
  rw [hf]
  rfl
theorem AgR.done {L : List Iv} {day : Int} {s : List Int} (h : AgR L day 5 s) : agesT (pairs L day) = (s, 0) := by
  have hl := h.len
  match s, hl with
  | [s0, s1, s2, s3, s4], _ =>
    obtain ⟨y0, b0⟩ := h.yes 0 (by simp) (by omega)
    obtain ⟨y1, b1⟩ := h.yes 1 (by simp) (by omega)
    obtain ⟨y2, b2⟩ := h.yes 2 (by simp) (by omega)
    obtain ⟨y3, b3⟩ := h.yes 3 (by simp) (by omega)
    obtain ⟨y4, b4⟩ := h.yes 4 (by simp) (by omega)
    simp at y0 y1 y2 y3 y4 b0 b1 b2 b3 b4
    have hf : agesFit (pairs L day) = true := decide_eq_true ⟨b0, b1, b2, b3, b4⟩
    unfold agesT
    rw [if_pos hf, y0, y1, y2, y3, y4]
set_option maxRecDepth 100000 in
set_option maxHeartbeats 3200000 in
theorem rages_m (a : Option Addr) (cap m : Nat) (L : List Iv) (day : Int) (w : World) (hL : Ivs w a L) (hl : L.length ≤ 100000) (hf : ∀ x ∈ L, x.Fits) (hm : m ≤ L.length) (hk : ∀ j, (h : j < L.length) → j < m → L[j].Ok) (hbad : ∀ h : m < L.length, L[m].okB = false) (h1 : 1 ≤ day) (h2 : day ≤ 3652059) :
    Calls Tryd.prog 23 #[.slice a L.length cap, .int .i64 day] w fun e w' => e = .returned (.tuple #[.agg (vals (agesM L day m).1).toArray, .int .i64 (agesM L day m).2]) ∧ Below w.heap.size w w' := by
  have kd := Lib.hid (fun w => rday_k day true w (by simp; omega))
  have HL := Lib.hid hL
  have HF := Lib.hid hf
  have HK := Lib.hid hk
  have HX := Lib.hid hbad
  have HD := Lib.hid (And.intro h1 h2)
  clear hL hf hk hbad h1 h2
  go_enter Tryd.func23, Tryd.ntmps23
  go_wp2_with fail
  refine (kd.out _).mono ?_
  rintro e w1 ⟨rfl, rfl⟩
  go_wp2_with fail
  go_loopw [7] (fun i wr => ∃ k : Nat, k ≤ m ∧ i = .int .i64 k ∧ RowAt wr (w.heap.size + 1) (vals [0, 0, 0, 0, 0]) ∧ RowAt wr w.heap.size (vals [0, 0, 0, 0, 0]) ∧ Below w.heap.size w wr) (fun i _ => L.length - (intOf i).toNat)
  case atStart =>
    refine ⟨0, by omega, rfl, ?_, ?_, ?_⟩
    · have h := row_new (w.alloc (.cells (vals [0, 0, 0, 0, 0]).toArray 48)) (vals [0, 0, 0, 0, 0]) 48
      rw [World.size_alloc] at h
      exact h
    · exact (row_new w (vals [0, 0, 0, 0, 0]) 48).alloc _
    · exact ((Below.refl _ _).alloc (Nat.le_refl _) _).alloc (by simp) _
  case round =>
    obtain ⟨k, hkm, rfl, ho, hz, hB⟩ := hrel
    have HO := Lib.hid ho
    have HZ := Lib.hid hz
    have HB := Lib.hid hB
    clear ho hz hB
    by_cases hlt : k < L.length
    · obtain ⟨ab, ao, rfl, hab, c0, c1, c2, c3, c4, c5, c6, c7, c8, c9, c10⟩ := (HL.out.later HB.out) k hlt
      by_cases hkk : k < m
      · have kc := Lib.hid (fun w => rcheck_yes L[k] w (HK.out k hlt hkk))
        generalize L[k] = x at *
        go_wp2_with fail
        refine (kc.out _).mono ?_
        rintro e w1 ⟨rfl, b1⟩
        have O1 := Lib.hid (HO.out.later b1)
        have Z1 := Lib.hid (HZ.out.later b1)
        have B1 := Lib.hid (HB.out.trans (b1.mono HB.out.size))
        clear b1 c0 c1 c2 c3 c4 c5 c6 c7 c8 c9 c10
        go_wp2_with fail
        exact ⟨⟨k + 1, by omega, by go_num, O1.out, Z1.out, B1.out⟩, by simp [intOf]; omega⟩
      · obtain rfl : k = m := by omega
        have kc := Lib.hid (fun w => rcheck_no L[k] w (HF.out L[k] (List.getElem_mem hlt)) (HX.out hlt))
        have HM := Lib.hid (show agesM L day k = ([0, 0, 0, 0, 0], 2) from if_neg (by omega))
        generalize L[k] = x at *
        go_wp2_with fail
        refine (kc.out _).mono ?_
        rintro e w1 ⟨rfl, b1⟩
        have O1 := Lib.hid (HO.out.later b1)
        have Z1 := Lib.hid (HZ.out.later b1)
        have B1 := Lib.hid (HB.out.trans (b1.mono HB.out.size))
        clear b1 c0 c1 c2 c3 c4 c5 c6 c7 c8 c9 c10
        have z0 := Z1.out.cell 0 (by simp [vals])
        have z1 := Z1.out.cell 1 (by simp [vals])
        have z2 := Z1.out.cell 2 (by simp [vals])
        have z3 := Z1.out.cell 3 (by simp [vals])
        have z4 := Z1.out.cell 4 (by simp [vals])
        have f0 := Z1.out.free 0 (by simp [vals])
        have f1 := Z1.out.free 1 (by simp [vals])
        have f2 := Z1.out.free 2 (by simp [vals])
        have f3 := Z1.out.free 3 (by simp [vals])
        have f4 := Z1.out.free 4 (by simp [vals])
        have o0 := O1.out.cell 0 (by simp [vals])
        have o1 := O1.out.cell 1 (by simp [vals])
        have o2 := O1.out.cell 2 (by simp [vals])
        have o3 := O1.out.cell 3 (by simp [vals])
        have o4 := O1.out.cell 4 (by simp [vals])
        simp only [vals, List.map_cons, List.map_nil, List.getElem_cons_zero, List.getElem_cons_succ] at z0 z1 z2 z3 z4 o0 o1 o2 o3 o4
        go_wp2_with fail
        refine bodyPost_ret (by simp [results, Tryd.results23, go_sem, z0, z1, z2, z3, z4]; try rfl) rfl ?_
        rw [HM.out]
        exact ⟨rfl, by repeat (first | exact B1.out | refine Below.setCell ?_ (by simp) _)⟩
    · obtain rfl : m = L.length := by omega
      obtain rfl : k = L.length := by omega
      have HM := Lib.hid (show agesM L day L.length = agesT (pairs L day) from if_pos rfl)
      clear HX
      go_wp2_with fail
      obtain ⟨wo, rfl⟩ : ∃ wo : World, wo = wr := ⟨_, rfl⟩
      have HSZ2 := Lib.hid HO.out.lt
      go_loopw [9] (fun i wr => ∃ (j : Nat) (s : List Int), j ≤ 5 ∧ i = .int .i64 j ∧ AgR L day j s ∧ RowAt wr wo.heap.size (vals s) ∧ RowAt wr (w.heap.size + 1) (vals [0, 0, 0, 0, 0]) ∧ RowAt wr w.heap.size (vals [0, 0, 0, 0, 0]) ∧ Below w.heap.size w wr) (fun i _ => 5 - (intOf i).toNat)
      case atStart => exact ⟨0, [0, 0, 0, 0, 0], by omega, rfl, ⟨rfl, fun i _ h => by omega⟩, row_new wo (vals [0, 0, 0, 0, 0]) 48, HO.out.alloc _, HZ.out.alloc _, HB.out.alloc HB.out.size _⟩
      case round =>
        obtain ⟨j, s, hj5, rfl, hag, hs, ho, hz, hB⟩ := hrel
        obtain ⟨wq, rfl⟩ : ∃ wq : World, wq = wr := ⟨_, rfl⟩
        have HA := Lib.hid hag
        have HS := Lib.hid hs
        have HO := Lib.hid ho
        have HZ := Lib.hid hz
        have HQ := Lib.hid hB
        clear hag hs ho hz hB
        by_cases hj : j < 5
        · have hjd : decide ((j : Int) < 5) = true := by simp; omega
          go_wp2_with fail
          go_loopw [10, 11] (fun v i wr => ∃ k : Nat, k ≤ L.length ∧ i = .int .i64 k ∧ wr.ownsRow wq.heap.size 2 1 v (own L day j k).length (vals (own L day j k)) ∧ Below wq.heap.size wq wr) (fun _ i _ => L.length - (intOf i).toNat)
          case atStart => exact ⟨0, by omega, rfl, World.ownsRow_nil _ _ _ _, Below.refl _ _⟩
          case round =>
            obtain ⟨k, hk, rfl, hown, hb⟩ := hrel
            have HW := Lib.hid hown
            have HV := Lib.hid hb
            have HU := Lib.hid (HQ.out.trans (hb.mono HQ.out.size))
            clear hown hb
            by_cases hlt : k < L.length
            · obtain ⟨x, hx⟩ : ∃ x, L[k] = x := ⟨_, rfl⟩
              obtain ⟨ab, ao, rfl, hab, c0, c1, c2, c3, c4, c5, c6, c7, c8, c9, c10⟩ := (HL.out.later HU.out).get k x hlt hx
              have hxk : x.Ok := hx ▸ HK.out k hlt hlt
              have kt := Lib.hid (fun w => rlate_yes x day w hxk HD.out.1 HD.out.2)
              have ko := Lib.hid (fun w => ropen_yes x w hxk)
              have HN := Lib.hid (own_step' L day j k x hlt hx)
              have HC := Lib.hid (own_len L day j k)
              have HXE := Lib.hid hx
              clear hxk hx
              go_wp2_with fail
              refine (kt.out _).mono ?_
              rintro e w1 ⟨rfl, b1⟩
              have W1 := Lib.hid (own_later HW.out b1)
              have V1 := Lib.hid (HV.out.trans (b1.mono HV.out.size))
              have U1 := Lib.hid (HU.out.trans (b1.mono HU.out.size))
              clear b1 c0 c1 c2 c3 c4 c5 c6 c7 c8 c9 c10
              obtain ⟨ab', ao', hae, hab', c0, c1, c2, c3, c4, c5, c6, c7, c8, c9, c10⟩ := (HL.out.later U1.out).get k x hlt HXE.out
              simp only [Option.some.injEq, Addr.mk.injEq] at hae
              obtain ⟨rfl, rfl, -⟩ := hae
              generalize ageOf (x.late day) = ag at *
              by_cases ha : ag = (j : Int)
              · have hb1 : (ag == (j : Int)) = true := by simp [ha]
                rw [if_pos ha] at HN
                clear ha
                go_wp2_with fail
                refine (ko.out _).mono ?_
                rintro e w2 ⟨rfl, b2⟩
                have W2 := Lib.hid (own_later W1.out b2)
                have V2 := Lib.hid (V1.out.trans (b2.mono V1.out.size))
                clear b2 c0 c1 c2 c3 c4 c5 c6 c7 c8 c9 c10
                obtain ⟨i0, hi, hz0, hz1, hz2⟩ := info_parts infoI
                go_wp2_with (at_builtin; refine wpList_append_own _ rfl _ _ 59 rfl wq.heap.size 2 i0 (.int .i64 0) 1 8 Tryd.underlying59 hi hz0 hz1 hz2 rfl (by decide) _ _ _ rfl (W2.out.alloc _) ⟨w2.heap.size, 0, none⟩ 1 1 [.int .i64 x.left] rfl ?c0 ?c1 ?c2 ?c3 ?c4 ?c5 ?_)
                case c0 => rfl
                case c1 =>
                  intro i u hi
                  cases i with
                  | zero => simp at hi; subst hi; rw [Go.WideShapes.add_plain, World.cell?_alloc_at _ _ _ _ rfl]; rfl
                  | succ i => simp at hi
                case c2 => intro u hu; simp at hu; subst hu; rfl
                case c3 => have h1 := HC.out; unfold maxLen; omega
                case c4 => have h1 := HC.out; omega
                case c5 => have h1 := V2.out.size; simp; omega
                intro v' w' hown' hgrow _
                go_wp2_with fail
                exact ⟨⟨k + 1, by omega, by go_num, by rw [HN.out]; simpa [vals] using hown', (V2.out.alloc V2.out.size _).grown hgrow (by have := V2.out.size; simp; omega) (fun k hk => own_ge W2.out hk)⟩, by simp [intOf]; omega⟩
              · have hb1 : (ag == (j : Int)) = false := by simp [ha]
                rw [if_neg ha, List.append_nil] at HN
                clear ha
                go_wp2_with fail
                refine (ko.out _).mono ?_
                rintro e w2 ⟨rfl, b2⟩
                have W2 := Lib.hid (own_later W1.out b2)
                have V2 := Lib.hid (V1.out.trans (b2.mono V1.out.size))
                clear b2 c0 c1 c2 c3 c4 c5 c6 c7 c8 c9 c10
                go_wp2_with fail
                exact ⟨⟨k + 1, by omega, by go_num, by rw [HN.out]; exact W2.out, V2.out⟩, by simp [intOf]; omega⟩
            · obtain rfl : k = L.length := by omega
              have ks := Lib.hid (rsum_own _ _ _ wr HW.out (by have := own_len L day j L.length; omega) (own_mem L day j L.length (fun v => 0 ≤ v ∧ v ≤ 9223372036854775807) (fun x hx => by
                obtain ⟨i, hi, rfl⟩ := List.getElem_of_mem hx
                have h := HK.out i hi hi
                have := h.left0; have := h.left; have := h.amt; have := h.cred; have := h.paid; have := h.lost; omega)))
              rw [own_sum L day j] at ks
              have S1 := Lib.hid (HS.out.later HV.out)
              have O1 := Lib.hid (HO.out.later HV.out)
              have Z1 := Lib.hid (HZ.out.later HV.out)
              have hjs : j < s.length := by rw [HA.out.len]; exact hj
              by_cases hfit : S (pairs L day) j ≤ M
              · rw [show sumV (S (pairs L day) j) = S (pairs L day) j from if_pos hfit, show sumB (S (pairs L day) j) = true from decide_eq_true hfit] at ks
                have HG := Lib.hid (HA.out.step j hjs hfit)
                have HE := Lib.hid (vals_set s j (S (pairs L day) j))
                have hc := S1.out.cell j (by simpa [vals] using hjs)
                have hfr := S1.out.free j (by simpa [vals] using hjs)
                clear hfit
                generalize S (pairs L day) j = z at *
                go_wp2_with fail
                refine ks.out.mono ?_
                rintro e w1 ⟨rfl, rfl⟩
                go_wp2_with fail
                have hne : wo.heap.size ≠ w.heap.size + 1 := Nat.ne_of_gt HSZ2.out
                have hne2 : wo.heap.size ≠ w.heap.size := by have := HSZ2.out; omega
                exact ⟨⟨j + 1, s.set j z, by omega, by go_num, HG.out, by rw [HE.out]; exact S1.out.set j _, O1.out.other _ _ hne, Z1.out.other _ _ hne2, HU.out.setCell (by have := HSZ2.out; simp; omega) _⟩, by simp [intOf]; omega⟩
              · rw [show sumV (S (pairs L day) j) = 0 from if_neg hfit, show sumB (S (pairs L day) j) = false from decide_eq_false hfit] at ks
                have HT := Lib.hid (agesT_no (pairs L day) j hj hfit)
                have z0 := Z1.out.cell 0 (by simp [vals])
                have z1 := Z1.out.cell 1 (by simp [vals])
                have z2 := Z1.out.cell 2 (by simp [vals])
                have z3 := Z1.out.cell 3 (by simp [vals])
                have z4 := Z1.out.cell 4 (by simp [vals])
                have f0 := Z1.out.free 0 (by simp [vals])
                have f1 := Z1.out.free 1 (by simp [vals])
                have f2 := Z1.out.free 2 (by simp [vals])
                have f3 := Z1.out.free 3 (by simp [vals])
                have f4 := Z1.out.free 4 (by simp [vals])
                have o0 := O1.out.cell 0 (by simp [vals])
                have o1 := O1.out.cell 1 (by simp [vals])
                have o2 := O1.out.cell 2 (by simp [vals])
                have o3 := O1.out.cell 3 (by simp [vals])
                have o4 := O1.out.cell 4 (by simp [vals])
                simp only [vals, List.map_cons, List.map_nil, List.getElem_cons_zero, List.getElem_cons_succ] at z0 z1 z2 z3 z4 o0 o1 o2 o3 o4
                clear hfit
                go_wp2_with fail
                refine ks.out.mono ?_
                rintro e w1 ⟨rfl, rfl⟩
                go_wp2_with fail
                refine bodyPost_ret (by simp [results, Tryd.results23, go_sem, z0, z1, z2, z3, z4]; try rfl) rfl ?_
                rw [HM.out, HT.out]
                exact ⟨rfl, by repeat (first | exact HU.out | refine Below.setCell ?_ (by simp) _)⟩
        · obtain rfl : j = 5 := by omega
          have hjd : decide (((5 : Nat) : Int) < 5) = false := by decide
          have HT := Lib.hid HA.out.done
          have hlen := HA.out.len
          match s, hlen with
          | [s0, s1, s2, s3, s4], _ =>
          have e0 := HS.out.cell 0 (by simp [vals])
          have e1 := HS.out.cell 1 (by simp [vals])
          have e2 := HS.out.cell 2 (by simp [vals])
          have e3 := HS.out.cell 3 (by simp [vals])
          have e4 := HS.out.cell 4 (by simp [vals])
          have z0 := HZ.out.cell 0 (by simp [vals])
          have z1 := HZ.out.cell 1 (by simp [vals])
          have z2 := HZ.out.cell 2 (by simp [vals])
          have z3 := HZ.out.cell 3 (by simp [vals])
          have z4 := HZ.out.cell 4 (by simp [vals])
          have f0 := HZ.out.free 0 (by simp [vals])
          have f1 := HZ.out.free 1 (by simp [vals])
          have f2 := HZ.out.free 2 (by simp [vals])
          have f3 := HZ.out.free 3 (by simp [vals])
          have f4 := HZ.out.free 4 (by simp [vals])
          simp only [vals, List.map_cons, List.map_nil, List.getElem_cons_zero, List.getElem_cons_succ] at z0 z1 z2 z3 z4 e0 e1 e2 e3 e4
          go_wp2_with fail
          refine bodyPost_ret (by simp [results, Tryd.results23, go_sem, z0, z1, z2, z3, z4]; try rfl) rfl ?_
          rw [HM.out, HT.out]
          exact ⟨rfl, by repeat (first | exact HQ.out | refine Below.setCell ?_ (by simp) _)⟩
theorem rages_day (a : Option Addr) (n cap : Nat) (day : Int) (w : World) (hd : decide (1 ≤ day ∧ day ≤ 3652059) = false) :
    Calls Tryd.prog 23 #[.slice a n cap, .int .i64 day] w fun e w' => e = .returned (.tuple #[.agg (vals [0, 0, 0, 0, 0]).toArray, .int .i64 2]) ∧ Below w.heap.size w w' := by
  have kd := Lib.hid (fun w => rday_k day false w hd)
  clear hd
  go_enter Tryd.func23, Tryd.ntmps23
  go_wp2_with fail
  refine (kd.out _).mono ?_
  rintro e w1 ⟨rfl, rfl⟩
  go_wp2_with fail
  refine bodyPost_ret (by simp [results, Tryd.results23, go_sem]; try rfl) rfl ?_
  exact ⟨rfl, by repeat (first | exact Below.refl _ _ | refine Below.setCell ?_ (by simp) _ | refine Below.alloc ?_ (by simp) _)⟩
end Go.Proofs.YtaidijbjpogpeaaDoor.Inv
