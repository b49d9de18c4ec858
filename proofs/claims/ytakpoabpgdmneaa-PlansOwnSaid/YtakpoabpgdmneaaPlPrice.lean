/- Package plans: Price. -/
import Derived.Test.YtakpoabpgdmneaaPlFind
import Derived.Deep.LoopGhost
namespace Go.Proofs.Ytakpoabpgdmneaa.Pl
open Go Go.RowKit Ck Go.Maps
def stepP (day : Int) (s : Int × Int) (x : Pr) : Int × Int := if x.frm ≤ day then (x.amt, 0) else s
/-- The price in force on a day. -/
def priceL (L : List Pr) (day : Int) : Int × Int := L.foldl (stepP day) (0, 9)
theorem step_skip {day : Int} {L : List Pr} : ∀ s, (∀ x ∈ L, ¬ x.frm ≤ day) → L.foldl (stepP day) s = s := by
  induction L with
  | nil => intro s _; rfl
  | cons x L ih =>
    intro s h
    rw [List.foldl_cons]
    have : stepP day s x = s := by unfold stepP; rw [if_neg (h x (by simp))]
    rw [this]
    exact ih s fun y hy => h y (by simp [hy])
theorem priceL_none {L : List Pr} {day : Int} (h : ∀ j (hj : j < L.length), ¬ L[j].frm ≤ day) : priceL L day = (0, 9) := step_skip _ fun x hx => by
  obtain ⟨j, hj, rfl⟩ := List.getElem_of_mem hx
  exact h j hj
theorem priceL_hit {L : List Pr} {day : Int} {m : Nat} (hm : m < L.length) (h : ∀ j (hj : j < L.length), m + 1 ≤ j → ¬ L[j].frm ≤ day) (hh : L[m].frm ≤ day) : priceL L day = (L[m].amt, 0) := by
  unfold priceL
  conv => lhs; rw [← List.take_append_drop (m + 1) L]
  rw [List.foldl_append, step_skip _ (fun x hx => ?_), List.take_succ_eq_append_getElem hm, List.foldl_append]
  · simp only [List.foldl_cons, List.foldl_nil]
    unfold stepP
    rw [if_pos hh]
  · obtain ⟨j, hj, rfl⟩ := List.getElem_of_mem hx
    rw [List.length_drop] at hj
    rw [List.getElem_drop]
    exact h (m + 1 + j) (by omega) (by omega)
def priceR (r : Pv × Int) (day : Int) : Int × Int := if r.2 = 0 then priceL r.1.x.ps day else (0, r.2)
def PriceRes (r : Int × Int) (w : World) (e : Ending) (w' : World) : Prop := e = .returned (.tuple #[.int .i64 r.1, .int .i64 r.2]) ∧ Below w.heap.size w w'
set_option maxRecDepth 100000 in
set_option maxHeartbeats 1600000 in
theorem price_any {w : World} {cv : Value} {k day : Int} {r : Pv × Int} (hf : ∀ u, Below w.heap.size w u → Calls Try.prog 29 #[cv, .int .u64 k, .bool (dayB day)] u (FindRes r u)) (h0 : r.2 = 0 → r.1.x.ps.length ≤ 100 ∧ Prs w (adr r.1.g) r.1.x.ps) (h9 : 0 ≤ r.2 ∧ r.2 ≤ 20) : Calls Try.prog 15 #[cv, .int .u64 k, .int .i64 day] w (PriceRes (priceR r day) w) := by
  obtain ⟨⟨⟨id, name, every, L, ret⟩, g, cap⟩, e⟩ := r
  have HF := Lib.hid hf
  have H0 := Lib.hid h0
  have KD : Hid (∀ u, Calls Try.prog 33 #[.int .i64 day] u fun e w' => e = .returned (.bool (dayB day)) ∧ u = w') := fun u => day_c day u
  obtain ⟨R, hR⟩ : ∃ R, R = priceR (⟨⟨id, name, every, L, ret⟩, g, cap⟩, e) day := ⟨_, rfl⟩
  rw [← hR]
  have HR := Lib.hid hR
  obtain ⟨valid, hv⟩ : ∃ valid, valid = dayB day := ⟨_, rfl⟩
  rw [← hv] at HF KD
  unfold FindRes Pv.val Pn.val at HF
  simp only at HF h9
  have HINF : Hid ((Try.prog.info? TPlan).map (·.size) = some 5) := by show _ = _; kernel_rfl
  clear hf h0 hR hv
  unfold PriceRes
  obtain ⟨Ra, Re⟩ := R
  simp only
  obtain ⟨ad, had⟩ : ∃ ad, ad = adr g := ⟨_, rfl⟩
  rw [← had] at HF
  have HAD := Lib.hid had
  clear had
  have HE := Lib.hid h9
  clear h9
  go_enter Try.func15, Try.ntmps15
  go_wp2_with fail
  refine (KD.out _).mono ?_
  rintro _ _ ⟨rfl, rfl⟩
  go_wp2_with fail
  refine (HF.out _ (Below.refl _ w)).mono ?_
  rintro _ w1 ⟨rfl, hb1⟩
  go_upto_region 2 with (fail)
  have HB : Hid (Below w.heap.size w (w1.alloc (.cells #[.int .u64 id, .string name, .int .i64 every, .slice ad L.length cap, .int .i64 ret] TPlan))) := hb1.alloc hb1.size _
  have RX : Hid (Rw (w1.alloc (.cells #[.int .u64 id, .string name, .int .i64 every, .slice ad L.length cap, .int .i64 ret] TPlan)) w1.heap.size TPlan [.int .u64 id, .string name, .int .i64 every, .slice ad L.length cap, .int .i64 ret]) := Rw.new w1 [.int .u64 id, .string name, .int .i64 every, .slice ad L.length cap, .int .i64 ret] TPlan
  obtain ⟨bx, hbx⟩ : ∃ bx, bx = w1.heap.size := ⟨_, rfl⟩
  rw [← hbx] at RX ⊢
  generalize w1.alloc (.cells #[.int .u64 id, .string name, .int .i64 every, .slice ad L.length cap, .int .i64 ret] TPlan) = W at HB RX ⊢
  clear hb1 hbx
  by_cases he : e = 0
  · subst he
    obtain ⟨hL, hp⟩ := H0.out rfl
    have HP := Lib.hid (hp.later HB.out)
    clear hp
    have HRR : Hid ((Ra, Re) = priceL L day) := by
      show _ = _
      rw [HR.out]
      unfold priceR
      rw [if_pos rfl]
    have c3 : W.cell? ⟨bx, 3, none⟩ = some (.slice ad L.length cap) := RX.out.cell 3
    have hw0 : IntKind.i64.wrap ((L.length : Int) - 1) = (L.length : Int) - 1 := IntWalk.i64_in _ ⟨by omega, by omega⟩
    clear HR H0 HF
    go_upto_region 5 with (fail)
    go_loopg [10] L.length (fun kx s10 wr => ∃ i : Nat, s10 = .int .i64 ((i : Int) - 1) ∧ i ≤ L.length ∧ Hid (∀ j (h : j < L.length), i ≤ j → ¬ L[j].frm ≤ day) ∧ Hid (W = wr) ∧ i ≤ kx)
    case atStart => exact ⟨L.length, rfl, Nat.le_refl _, fun j h hj => absurd hj (by omega), rfl, Nat.le_refl _⟩
    case round =>
      obtain ⟨i, rfl, hi, HJ, HW, hkx⟩ := hrel
      obtain rfl := HW.out
      by_cases hp : 0 < i
      · obtain ⟨m, rfl⟩ : ∃ m, i = m + 1 := ⟨i - 1, by omega⟩
        have hm : m < L.length := by omega
        rw [show (((m + 1 : Nat) : Int) - 1) = (m : Int) by omega]
        obtain ⟨ab, ao, hab, _, d0, d1⟩ := HP.out m hm
        rw [← HAD.out] at hab
        subst hab
        obtain ⟨z, hz⟩ : ∃ z, z = L[m] := ⟨_, rfl⟩
        rw [← hz] at d0 d1
        have HZ := Lib.hid hz
        obtain ⟨zf, za⟩ := z
        simp only at d0 d1
        have m0 : (0 : Int) ≤ (m : Int) := by omega
        have m1 : (m : Int) < (L.length : Int) := by omega
        have hw1 : IntKind.i64.wrap ((m : Int) - 1) = (m : Int) - 1 := IntWalk.i64_in _ ⟨by omega, by omega⟩
        clear hz hp
        by_cases hgt : zf ≤ day
        · have HF : Hid (Ra = za ∧ Re = 0) := by
            have := priceL_hit hm (fun j h hj => HJ.out j h hj) (by rw [← HZ.out]; exact hgt)
            rw [← HRR.out, ← HZ.out] at this
            injection this with h1 h2
            exact ⟨h1, h2⟩
          go_wp2_with fail
          refine bodyPost_ret (v := .tuple #[.int .i64 za, .int .i64 0]) (by simp [results, Try.results15, go_sem]) rfl ?_
          exact ⟨by rw [HF.out.1, HF.out.2], HB.out⟩
        · have HJ2 : Hid (∀ j (h : j < L.length), m ≤ j → ¬ L[j].frm ≤ day) := fun j h hj => by
            by_cases e : m + 1 ≤ j
            · exact HJ.out j h e
            · obtain rfl : j = m := by omega
              rw [← HZ.out]; exact hgt
          go_wp2_with fail
          go_roundg m
          case measure => omega
          case rel => exact ⟨m, rfl, by omega, HJ2, rfl, Nat.le_refl _⟩
      · obtain rfl : i = 0 := by omega
        have HF : Hid (Ra = 0 ∧ Re = 9) := by
          have := priceL_none (fun j h => HJ.out j h (Nat.zero_le _))
          rw [← HRR.out] at this
          injection this with h1 h2
          exact ⟨h1, h2⟩
        clear hp
        go_wp2_with fail
        refine bodyPost_ret (v := .tuple #[.int .i64 0, .int .i64 9]) (by simp [results, Try.results15, go_sem]) rfl ?_
        exact ⟨by rw [HF.out.1, HF.out.2], HB.out⟩
  · have hne : (e == 0) = false := beq_eq_false_iff_ne.2 he
    have HRR : Hid (Ra = 0 ∧ Re = e) := by
      have := HR.out
      unfold priceR at this
      rw [if_neg he] at this
      injection this with h1 h2
      exact ⟨h1, h2⟩
    clear HR H0 HF KD
    go_wp2_with fail
    refine bodyPost_ret (v := .tuple #[.int .i64 0, .int .i64 e]) (by simp [results, Try.results15, go_sem]) rfl ?_
    exact ⟨by rw [HRR.out.1, HRR.out.2], HB.out⟩
end Go.Proofs.Ytakpoabpgdmneaa.Pl
