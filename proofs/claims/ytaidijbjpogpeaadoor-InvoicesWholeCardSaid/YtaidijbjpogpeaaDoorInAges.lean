/- Package invoices: Ages. -/
import Derived.Test.YtaidijbjpogpeaaDoorInLate2
import Derived.Test.YtaidijbjpogpeaaDoorInOpen
import Derived.Test.YtaidijbjpogpeaaDoorInPost
import Derived.Test.YtaidijbjpogpeaaDoorAsAdd
import Derived.Deep.RegionHeld3
namespace Go.Proofs.YtaidijbjpogpeaaDoor.Inv
open Go.RowKit Cm
/-- Each invoice's age, and what of it is open. -/
def pairs (L : List Iv) (day : Int) : List (Int × Int) := L.map fun x => (ageOf (x.late day), x.left)
def M : Int := 9223372036854775807
theorem M_is : M = 9223372036854775807 := rfl
/-- What the loop holds. -/
structure Held (ps : List (Int × Int)) (s : List Int) (fits : Bool) : Prop where
  len : s.length = 5
  bd : ∀ j, (h : j < s.length) → 0 ≤ s[j] ∧ s[j] ≤ M
  yes : fits = true → ∀ j, (h : j < s.length) → s[j] = S ps j
  no : fits = false → ∃ j : Nat, j < 5 ∧ M < S ps j
theorem Held.start : Held [] [0, 0, 0, 0, 0] true := by
  refine ⟨rfl, ?_, ?_, fun h => by cases h⟩
  · intro j hj
    match j, hj with
    | 0, _ | 1, _ | 2, _ | 3, _ | 4, _ => exact ⟨Int.le_refl 0, by show (0 : Int) ≤ M; rw [M_is]; omega⟩
  · intro _ j hj
    match j, hj with
    | 0, _ | 1, _ | 2, _ | 3, _ | 4, _ => rfl
theorem Held.step {ps : List (Int × Int)} {s : List Int} {fits : Bool} (h : Held ps s fits) (a : Nat) (v : Int) (ha : a < s.length) (hv : 0 ≤ v) :
    Held (ps ++ [((a : Int), v)]) (s.set a (Ar.val (s[a] + v))) (fits && Ar.ok (s[a] + v)) := by
  have hl := h.len
  have hs := h.bd a ha
  have hM := M_is
  have hval : 0 ≤ Ar.val (s[a] + v) ∧ Ar.val (s[a] + v) ≤ M := by
    unfold Ar.val
    by_cases h : Ar.Fits (s[a] + v)
    · rw [if_pos h]; unfold Ar.Fits at h; omega
    · rw [if_neg h]; omega
  refine ⟨by simp [hl], ?_, ?_, ?_⟩
  · intro j hj
    rw [List.getElem_set]
    split
    · exact hval
    · exact h.bd j (by simpa using hj)
  · intro hf j hj
    simp only [Bool.and_eq_true] at hf
    have hok : Ar.Fits (s[a] + v) := of_decide_eq_true hf.2
    rw [List.getElem_set, S_snoc]
    split
    · rename_i e; subst e
      rw [if_pos rfl, Ar.val, if_pos hok, h.yes hf.1 a ha]
    · rename_i e
      rw [if_neg (by omega), h.yes hf.1 j (by simpa using hj)]; omega
  · intro hf
    cases hfi : fits with
    | false =>
      obtain ⟨j, hj, hjj⟩ := h.no hfi
      refine ⟨j, hj, ?_⟩
      rw [S_snoc]
      split <;> omega
    | true =>
      rw [hfi] at hf
      have hok : ¬ Ar.Fits (s[a] + v) := by simpa [Ar.ok] using hf
      refine ⟨a, by omega, ?_⟩
      rw [S_snoc, if_pos rfl, ← h.yes hfi a ha]
      unfold Ar.Fits at hok
      omega
def vals (s : List Int) : List Value := s.map (Value.int .i64)
theorem get_vals (s : List Int) (j : Nat) (h : j < s.length) : (vals s)[j]'(by simpa [vals] using h) = .int .i64 s[j] := by simp [vals]
theorem vals_set (s : List Int) (j : Nat) (v : Int) : vals (s.set j v) = (vals s).set j (.int .i64 v) := by simp [vals, List.map_set]
/-- The ages: of all, where they fit. -/
def agesFit (ps : List (Int × Int)) : Bool := decide (S ps 0 ≤ M ∧ S ps 1 ≤ M ∧ S ps 2 ≤ M ∧ S ps 3 ≤ M ∧ S ps 4 ≤ M)
def agesT (ps : List (Int × Int)) : List Int × Int := if agesFit ps then ([S ps 0, S ps 1, S ps 2, S ps 3, S ps 4], 0) else ([0, 0, 0, 0, 0], 211)
theorem Held.all_yes {ps : List (Int × Int)} {s0 s1 s2 s3 s4 : Int} (h : Held ps [s0, s1, s2, s3, s4] true) : agesT ps = ([s0, s1, s2, s3, s4], 0) := by
  have y := h.yes rfl
  have b := h.bd
  have y0 : s0 = S ps 0 := y 0 (by simp)
  have y1 : s1 = S ps 1 := y 1 (by simp)
  have y2 : s2 = S ps 2 := y 2 (by simp)
  have y3 : s3 = S ps 3 := y 3 (by simp)
  have y4 : s4 = S ps 4 := y 4 (by simp)
  have b0 : s0 ≤ M := (b 0 (by simp)).2
  have b1 : s1 ≤ M := (b 1 (by simp)).2
  have b2 : s2 ≤ M := (b 2 (by simp)).2
  have b3 : s3 ≤ M := (b 3 (by simp)).2
  have b4 : s4 ≤ M := (b 4 (by simp)).2
  have hf : agesFit ps = true := decide_eq_true ⟨by omega, by omega, by omega, by omega, by omega⟩
  unfold agesT
  rw [if_pos hf, y0, y1, y2, y3, y4]
theorem Held.all_no {ps : List (Int × Int)} {s : List Int} (h : Held ps s false) : agesT ps = ([0, 0, 0, 0, 0], 211) := by
  obtain ⟨j, hj, hb⟩ := h.no rfl
  have hf : agesFit ps = false := by
    refine decide_eq_false fun ⟨h0, h1, h2, h3, h4⟩ => ?_
    have : j = 0 ∨ j = 1 ∨ j = 2 ∨ j = 3 ∨ j = 4 := by omega
    rcases this with rfl | rfl | rfl | rfl | rfl <;> simp at hb <;> omega
  unfold agesT
  rw [hf]
  rfl
/-- What a round holds of memory. -/
structure AgS (w : World) (g : Nat) (x : Iv) (s : List Int) (u : World) : Prop where
  iv : IvAt g x u
  r1 : RowAt u (w.heap.size + 1) (vals s)
  r0 : RowAt u w.heap.size (vals [0, 0, 0, 0, 0])
  b : Below w.heap.size w u
theorem AgS.later {w u u' : World} {g : Nat} {x : Iv} {s : List Int} (h : AgS w g x s u) (hb : Below u.heap.size u u') : AgS w g x s u' :=
  ⟨h.iv.later hb, h.r1.later hb, h.r0.later hb, h.b.trans (hb.mono h.b.size)⟩
theorem AgS.drew {w u : World} {g : Nat} {x : Iv} {s : List Int} (h : AgS w g x s u) : AgS w g x s u.drew := ⟨h.iv.drew, h.r1.drew, h.r0.drew, h.b.drew⟩
theorem AgS.pack {w u : World} {g : Nat} {x : Iv} {s : List Int} (ag : Nat) (z : Int) (hag : ag < s.length) (hz : s[ag] = z) (h : AgS w g x s u) :
    u.cell? ⟨g, 0, none⟩ = some (.int .u64 x.id) ∧ u.cell? ⟨g, 1, none⟩ = some (.int .u64 x.cust) ∧ u.cell? ⟨g, 2, none⟩ = some (.int .u64 x.con) ∧ u.cell? ⟨g, 3, none⟩ = some (.int .i64 x.day) ∧ u.cell? ⟨g, 4, none⟩ = some (.int .i64 x.due) ∧ u.cell? ⟨g, 5, none⟩ = some (.int .i64 x.frm) ∧ u.cell? ⟨g, 6, none⟩ = some (.int .i64 x.next) ∧ u.cell? ⟨g, 7, none⟩ = some (.int .i64 x.amt) ∧ u.cell? ⟨g, 8, none⟩ = some (.int .i64 x.cred) ∧ u.cell? ⟨g, 9, none⟩ = some (.int .i64 x.paid) ∧ u.cell? ⟨g, 10, none⟩ = some (.int .i64 x.lost) ∧ u.cell? ⟨w.heap.size + 1, ag, none⟩ = some (.int .i64 z) ∧ AgS w g x s u :=
  ⟨h.iv.c0, h.iv.c1, h.iv.c2, h.iv.c3, h.iv.c4, h.iv.c5, h.iv.c6, h.iv.c7, h.iv.c8, h.iv.c9, h.iv.c10, by rw [h.r1.cell ag (by simpa [vals] using hag), get_vals s ag hag, hz], h⟩
/-- What Ages answers: m is where the first invoice lies that may not be. -/
def agesM (L : List Iv) (day : Int) (m : Nat) : List Int × Int := if m = L.length then agesT (pairs L day) else ([0, 0, 0, 0, 0], 2)
theorem first_bad (L : List Iv) : ∃ m, m ≤ L.length ∧ (∀ j, (h : j < L.length) → j < m → L[j].Ok) ∧ ∀ h : m < L.length, L[m].okB = false := by
  induction L with
  | nil => exact ⟨0, by simp, fun j h => by simp at h, fun h => by simp at h⟩
  | cons x L ih =>
    cases hx : x.okB with
    | false => exact ⟨0, by simp, fun j h h' => by omega, fun _ => hx⟩
    | true =>
      obtain ⟨m, h1, h2, h3⟩ := ih
      refine ⟨m + 1, by simpa using h1, fun j h h' => ?_, fun h => by simpa using h3 (by simpa using h)⟩
      match j, h with
      | 0, _ => exact (okB_iff x).1 hx
      | j + 1, h => exact h2 j (by simpa using h) (by omega)
set_option maxRecDepth 100000 in
set_option maxHeartbeats 3200000 in
theorem ages_m (a : Option Addr) (cap m : Nat) (L : List Iv) (day : Int) (w : World) (hL : Ivs w a L) (hl : L.length ≤ 1000000) (hf : ∀ x ∈ L, x.Fits) (hm : m ≤ L.length) (hk : ∀ j, (h : j < L.length) → j < m → L[j].Ok) (hbad : ∀ h : m < L.length, L[m].okB = false) (h1 : 1 ≤ day) (h2 : day ≤ 3652059) (ht : Tab w) :
    Calls Tryd.prog 22 #[.slice a L.length cap, .int .i64 day] w fun e w' => e = .returned (.tuple #[.agg (vals (agesM L day m).1).toArray, .int .i64 (agesM L day m).2]) ∧ Below w.heap.size w w' := by
  have kd := Lib.hid (fun w => isDay_k day true w (by simp; omega))
  have HL := Lib.hid hL
  have HF := Lib.hid hf
  have HK := Lib.hid hk
  have HT := Lib.hid ht
  have HX := Lib.hid hbad
  clear hL hf hk ht hbad
  go_enter Tryd.func22, Tryd.ntmps22
  go_wp2_with fail
  refine (kd.out _).mono ?_
  rintro e w1 ⟨rfl, rfl⟩
  go_wp2_with fail
  go_loopw [7, 21] (fun f i wr => ∃ (k : Nat) (s : List Int) (b : Bool), k ≤ m ∧ i = .int .i64 k ∧ f = .bool b ∧ RowAt wr (w.heap.size + 1) (vals s) ∧ RowAt wr w.heap.size (vals [0, 0, 0, 0, 0]) ∧ Below w.heap.size w wr ∧ Held (pairs (L.take k) day) s b) (fun _ i _ => L.length - (intOf i).toNat)
  case atStart =>
    refine ⟨0, [0, 0, 0, 0, 0], true, by omega, rfl, rfl, ?_, ?_, ?_, Held.start⟩
    · have h := row_new (w.alloc (.cells (vals [0, 0, 0, 0, 0]).toArray 48)) (vals [0, 0, 0, 0, 0]) 48
      rw [World.size_alloc] at h
      exact h
    · exact (row_new w (vals [0, 0, 0, 0, 0]) 48).alloc _
    · exact ((Below.refl _ _).alloc (Nat.le_refl _) _).alloc (by simp) _
  case round =>
    obtain ⟨k, s, b, hk, rfl, rfl, hs, hz, hB, hH⟩ := hrel
    have HS := Lib.hid hs
    have HZ := Lib.hid hz
    have HB := Lib.hid hB
    have HH := Lib.hid hH
    clear hs hz hB hH
    by_cases hkm : k < m
    · have hlt : k < L.length := by omega
      obtain ⟨ab, ao, rfl, hab, c0, c1, c2, c3, c4, c5, c6, c7, c8, c9, c10⟩ := (HL.out.later HB.out) k hlt
      have hxf := HF.out L[k] (List.getElem_mem hlt)
      have hxk := HK.out k hlt hkm
      have HP := Lib.hid (show pairs (L.take (k + 1)) day = pairs (L.take k) day ++ [(ageOf (L[k].late day), L[k].left)] by rw [List.take_succ_eq_append_getElem hlt]; unfold pairs; rw [List.map_append]; rfl)
      generalize L[k] = x at *
      obtain ⟨ag, hag⟩ : ∃ n : Nat, ageOf (x.late day) = n := ⟨(ageOf (x.late day)).toNat, by have := ageOf_bd (x.late day); omega⟩
      have hag5 : ag < 5 := by have := ageOf_bd (x.late day); omega
      have hags : ag < s.length := by rw [HH.out.len]; exact hag5
      have kt := Lib.hid (fun w ht => hag ▸ late_yes x day w hxf hxk h1 h2 ht)
      have kl := Lib.hid (fun w => left_ok x w hxf hxk)
      have hzb := HH.out.bd ag hags
      have HG := Lib.hid (HH.out.step ag x.left hags hxk.left0)
      have hlb : 0 ≤ x.left ∧ x.left < 4611686018427387904 := ⟨hxk.left0, by have := hxk.left; have := hxk.amt; have := hxk.cred; have := hxk.paid; have := hxk.lost; omega⟩
      rw [hag] at HP
      obtain ⟨z, hz⟩ : ∃ z, s[ag] = z := ⟨_, rfl⟩
      rw [hz] at hzb HG
      rw [M_is] at hzb
      have HZ2 := Lib.hid hz
      have ka := Lib.hid (fun w => add_c z x.left w ⟨by omega, hzb.2⟩ ⟨by omega, by omega⟩)
      have A0 := Lib.hid (show AgS w wr.heap.size x s (wr.alloc (.cells x.cells 24)) from ⟨IvAt.box x wr, HS.out.alloc _, HZ.out.alloc _, HB.out.alloc HB.out.size _⟩)
      have T0 := Lib.hid (HT.out.later A0.out.b)
      clear hzb hlb hxf hxk hag hz h1 h2
      go_wp2_with fail
      refine (kt.out _ T0.out).mono ?_
      rintro e w1 ⟨rfl, b1⟩
      have A1 := Lib.hid (A0.out.later b1)
      clear b1 c0 c1 c2 c3 c4 c5 c6 c7 c8 c9 c10
      obtain ⟨c0, c1, c2, c3, c4, c5, c6, c7, c8, c9, c10, clt⟩ := A1.out.iv
      go_wp2_with fail
      have hag5' : (ag : Int) < 5 := by omega
      go_region_held3 (fun u => u.cell? ⟨wr.heap.size, 0, none⟩ = some (.int .u64 x.id) ∧ u.cell? ⟨wr.heap.size, 1, none⟩ = some (.int .u64 x.cust) ∧ u.cell? ⟨wr.heap.size, 2, none⟩ = some (.int .u64 x.con) ∧ u.cell? ⟨wr.heap.size, 3, none⟩ = some (.int .i64 x.day) ∧ u.cell? ⟨wr.heap.size, 4, none⟩ = some (.int .i64 x.due) ∧ u.cell? ⟨wr.heap.size, 5, none⟩ = some (.int .i64 x.frm) ∧ u.cell? ⟨wr.heap.size, 6, none⟩ = some (.int .i64 x.next) ∧ u.cell? ⟨wr.heap.size, 7, none⟩ = some (.int .i64 x.amt) ∧ u.cell? ⟨wr.heap.size, 8, none⟩ = some (.int .i64 x.cred) ∧ u.cell? ⟨wr.heap.size, 9, none⟩ = some (.int .i64 x.paid) ∧ u.cell? ⟨wr.heap.size, 10, none⟩ = some (.int .i64 x.lost) ∧ u.cell? ⟨w.heap.size + 1, ag, none⟩ = some (.int .i64 z) ∧ AgS w wr.heap.size x s u)
        (first | exact AgS.pack ag z hags HZ2.out A1.out | exact AgS.pack ag z hags HZ2.out A1.out.drew | exact AgS.pack ag z hags HZ2.out J1)
        (first | (go_at_call 27; (try go_split_ands); refine (kl.out _).mono ?_; rintro e u1 ⟨rfl, b1⟩; have J1 := AgS.later (by assumption) b1) | (go_at_call 33; (try go_split_ands); refine (ka.out _).mono ?_; rintro e u1 ⟨rfl, b1⟩; have J1 := AgS.later (by assumption) b1))
      go_split_ands
      have hfr := J1.r1.free ag (by simpa [vals] using hags)
      have J2 := Lib.hid J1
      clear J1
      have HE := Lib.hid (vals_set s ag (Ar.val (z + x.left)))
      generalize Ar.ok (z + x.left) = okz at *
      generalize Ar.val (z + x.left) = vz at *
      cases b with
      | true =>
        go_wp2_with fail
        exact ⟨⟨k + 1, s.set ag vz, okz, by omega, by go_num, rfl, by rw [HE.out]; exact J2.out.r1.set ag _, J2.out.r0.other _ _ (by simp), J2.out.b.setCell (by simp) _, by rw [HP.out]; exact HG.out⟩, by simp [intOf]; omega⟩
      | false =>
        go_wp2_with fail
        exact ⟨⟨k + 1, s.set ag vz, false, by omega, by go_num, rfl, by rw [HE.out]; exact J2.out.r1.set ag _, J2.out.r0.other _ _ (by simp), J2.out.b.setCell (by simp) _, by rw [HP.out]; exact HG.out⟩, by simp [intOf]; omega⟩
    · obtain rfl : k = m := by omega
      by_cases hlt : k < L.length
      · have f0 := HZ.out.free 0 (by simp [vals])
        have z0 := HZ.out.cell 0 (by simp [vals])
        have z1 := HZ.out.cell 1 (by simp [vals])
        have f1 := HZ.out.free 1 (by simp [vals])
        have z2 := HZ.out.cell 2 (by simp [vals])
        have f2 := HZ.out.free 2 (by simp [vals])
        have z3 := HZ.out.cell 3 (by simp [vals])
        have f3 := HZ.out.free 3 (by simp [vals])
        have z4 := HZ.out.cell 4 (by simp [vals])
        have f4 := HZ.out.free 4 (by simp [vals])
        simp only [vals, List.map_cons, List.map_nil, List.getElem_cons_zero, List.getElem_cons_succ] at z0 z1 z2 z3 z4
        obtain ⟨ab, ao, rfl, hab, c0, c1, c2, c3, c4, c5, c6, c7, c8, c9, c10⟩ := (HL.out.later HB.out) k hlt
        have hxf := HF.out L[k] (List.getElem_mem hlt)
        have kt := Lib.hid (fun w => late_no1 L[k] day w hxf (HX.out hlt))
        have HM := Lib.hid (show agesM L day k = ([0, 0, 0, 0, 0], 2) from if_neg (by omega))
        have Z0 := Lib.hid (HZ.out.alloc (.cells L[k].cells 24))
        have B0 := Lib.hid (HB.out.alloc HB.out.size (.cells L[k].cells 24))
        clear h1 h2 hxf
        generalize L[k] = x at *
        clear z0 z1 z2 z3 z4 f0 f1 f2 f3 f4
        go_wp2_with fail
        refine (kt.out _).mono ?_
        rintro e w1 ⟨rfl, b1⟩
        have Z1 := Lib.hid (Z0.out.later b1)
        have B1 := Lib.hid (B0.out.trans (b1.mono B0.out.size))
        clear b1 c0 c1 c2 c3 c4 c5 c6 c7 c8 c9 c10
        have z0 := Z1.out.cell 0 (by simp [vals])
        have f0 := Z1.out.free 0 (by simp [vals])
        have z1 := Z1.out.cell 1 (by simp [vals])
        have f1 := Z1.out.free 1 (by simp [vals])
        have z2 := Z1.out.cell 2 (by simp [vals])
        have f2 := Z1.out.free 2 (by simp [vals])
        have z3 := Z1.out.cell 3 (by simp [vals])
        have f3 := Z1.out.free 3 (by simp [vals])
        have z4 := Z1.out.cell 4 (by simp [vals])
        have f4 := Z1.out.free 4 (by simp [vals])
        simp only [vals, List.map_cons, List.map_nil, List.getElem_cons_zero, List.getElem_cons_succ] at z0 z1 z2 z3 z4
        go_wp2_with fail
        refine bodyPost_ret (by simp [results, Tryd.results22, go_sem, z0, z1, z2, z3, z4]; try rfl) rfl ?_
        rw [HM.out]
        exact ⟨rfl, by repeat (first | exact B1.out | refine Below.setCell ?_ (by simp) _)⟩
      obtain rfl : k = L.length := by omega
      have HQ := Lib.hid (show agesM L day L.length = agesT (pairs L day) from if_pos rfl)
      have hH := HH.out
      rw [List.take_length] at hH
      have hlen := hH.len
      match s, hlen with
      | [s0, s1, s2, s3, s4], _ =>
      have e0 := HS.out.cell 0 (by simp [vals])
      have e1 := HS.out.cell 1 (by simp [vals])
      have e2 := HS.out.cell 2 (by simp [vals])
      have e3 := HS.out.cell 3 (by simp [vals])
      have e4 := HS.out.cell 4 (by simp [vals])
      have z0 := HZ.out.cell 0 (by simp [vals])
      have z1 := HZ.out.cell 1 (by simp [vals])
      have z2 := HZ.out.cell 2 (by simp [vals])
      have z3 := HZ.out.cell 3 (by simp [vals])
      have z4 := HZ.out.cell 4 (by simp [vals])
      have f0 := HZ.out.free 0 (by simp [vals])
      have f1 := HZ.out.free 1 (by simp [vals])
      have f2 := HZ.out.free 2 (by simp [vals])
      have f3 := HZ.out.free 3 (by simp [vals])
      have f4 := HZ.out.free 4 (by simp [vals])
      simp only [vals, List.map_cons, List.map_nil, List.getElem_cons_zero, List.getElem_cons_succ] at e0 e1 e2 e3 e4 z0 z1 z2 z3 z4
      cases b with
      | true =>
        have HA := Lib.hid (hH.all_yes)
        clear hH
        go_wp2_with fail
        refine bodyPost_ret (by simp [results, Tryd.results22, go_sem, z0, z1, z2, z3, z4]; try rfl) rfl ?_
        rw [HQ.out, HA.out]
        exact ⟨rfl, by repeat (first | exact HB.out | refine Below.setCell ?_ (by simp) _)⟩
      | false =>
        have HA := Lib.hid (hH.all_no)
        clear hH
        go_wp2_with fail
        refine bodyPost_ret (by simp [results, Tryd.results22, go_sem, z0, z1, z2, z3, z4]; try rfl) rfl ?_
        rw [HQ.out, HA.out]
        exact ⟨rfl, by repeat (first | exact HB.out | refine Below.setCell ?_ (by simp) _)⟩
theorem ages_day (a : Option Addr) (n cap : Nat) (day : Int) (w : World) (hd : decide (1 ≤ day ∧ day ≤ 3652059) = false) :
    Calls Tryd.prog 22 #[.slice a n cap, .int .i64 day] w fun e w' => e = .returned (.tuple #[.agg (vals [0, 0, 0, 0, 0]).toArray, .int .i64 2]) ∧ Below w.heap.size w w' := by
  have kd := Lib.hid (fun w => isDay_k day false w hd)
  clear hd
  go_enter Tryd.func22, Tryd.ntmps22
  go_wp2_with fail
  refine (kd.out _).mono ?_
  rintro e w1 ⟨rfl, rfl⟩
  go_wp2_with fail
  refine bodyPost_ret (by simp [results, Tryd.results22, go_sem]; try rfl) rfl ?_
  exact ⟨rfl, by repeat (first | exact Below.refl _ _ | refine Below.setCell ?_ (by simp) _ | refine Below.alloc ?_ (by simp) _)⟩
end Go.Proofs.YtaidijbjpogpeaaDoor.Inv
