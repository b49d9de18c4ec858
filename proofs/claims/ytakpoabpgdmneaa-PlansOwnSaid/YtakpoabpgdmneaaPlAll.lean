/- Package plans: all, over the conditions of Check. -/
import Derived.Test.YtakpoabpgdmneaaPlChk
namespace Go.Proofs.Ytakpoabpgdmneaa.Pl
open Go Go.RowKit Ck
abbrev TFn : TypeId := 24
def cnd (x : Pn) : Nat → Bool
  | 0 => c1B x
  | 1 => c2B x
  | 2 => c3B x
  | 3 => c4B x
  | 4 => ascB x.ps
  | 5 => c6B x
  | _ => true
def Pn.okB (x : Pn) : Bool := (List.range 6).all (cnd x)
section
variable {w : World} {b g : Nat} {x : Pn} {a : Option Addr} {cap : Nat}
theorem cnd_c4 (h : cnd x 3 = true) : 0 < x.ps.length ∧ x.ps.length ≤ 1000000 := by
  have h' : c4B x = true := h
  unfold c4B at h'
  simp only [Bool.and_eq_true, decide_eq_true_eq] at h'
  omega
set_option maxRecDepth 100000 in
set_option maxHeartbeats 1600000 in
theorem all_c (h : Pb w b x a cap) (hg : Rw w g TFn [.func (.func 35) #[] #[.pointer (some ⟨b, 0, none⟩)], .func (.func 36) #[] #[.pointer (some ⟨b, 0, none⟩)], .func (.func 37) #[] #[.pointer (some ⟨b, 0, none⟩)], .func (.func 38) #[] #[.pointer (some ⟨b, 0, none⟩)], .func (.func 39) #[] #[.pointer (some ⟨b, 0, none⟩)], .func (.func 41) #[] #[.pointer (some ⟨b, 0, none⟩)]]) : Calls Try.prog 34 #[.slice (some ⟨g, 0, none⟩) 6 6] w fun e w' => e = .returned (.bool x.okB) ∧ Below w.heap.size w w' := by
  have H := Lib.hid h
  have HG := Lib.hid hg
  obtain ⟨R, hR⟩ : ∃ R, R = x.okB := ⟨_, rfl⟩
  rw [← hR]
  clear h hg
  go_enter Try.func34, Try.ntmps34
  go_wp2_with fail
  go_loopg [7] 6 (fun kx s7 wr => ∃ i : Nat, s7 = .int .i64 (i : Int) ∧ i ≤ 6 ∧ Hid (∀ j, j < i → cnd x j = true) ∧ Hid (Below w.heap.size w wr) ∧ 6 ≤ i + kx)
  case atStart => exact ⟨0, rfl, by omega, fun j hj => by omega, Below.refl _ _, by omega⟩
  case round =>
    obtain ⟨i, rfl, hi6, HJ, HB, hkx⟩ := hrel
    have HKX := Lib.hid hkx
    by_cases hlt : i < 6
    · have hbad : Hid (cnd x i = false → R = false) := fun e => by
        rw [hR]
        unfold Pn.okB
        rw [List.all_eq_false]
        exact ⟨i, List.mem_range.2 hlt, by rw [e]; decide⟩
      have HJ2 : Hid (cnd x i = true → ∀ j, j < i + 1 → cnd x j = true) := fun e j hj => by
        by_cases e' : j = i
        · subst e'; exact e
        · exact HJ.out j (by omega)
      have PB := Lib.hid (H.out.later HB.out)
      have PG := Lib.hid (HG.out.later HB.out)
      clear hkx hi6
      rcases (show i = 0 ∨ i = 1 ∨ i = 2 ∨ i = 3 ∨ i = 4 ∨ i = 5 by omega) with rfl | rfl | rfl | rfl | rfl | rfl
      · have KC : Hid (Calls Try.prog 35 #[.pointer (some ⟨b, 0, none⟩)] wr fun e w' => e = .returned (.bool (cnd x 0)) ∧ Below wr.heap.size wr w') := (chk1 PB.out).mono fun e w' h => ⟨h.1, h.2 ▸ Below.refl _ _⟩
        have c : wr.cell? ⟨g, 0, none⟩ = some (.func (.func 35) #[] #[.pointer (some ⟨b, 0, none⟩)]) := PG.out.cell 0
        obtain ⟨q, hq⟩ : ∃ q, q = cnd x 0 := ⟨_, rfl⟩
        rw [← hq] at KC hbad HJ2
        clear hq hlt
        cases q with
        | false =>
          obtain rfl : R = false := hbad.out rfl
          clear hR
          go_wp2_with fail
          refine KC.out.mono ?_
          rintro e w2 ⟨rfl, hb⟩
          go_wp2_with fail
          go_ret
          exact ⟨rfl, HB.out.trans (hb.mono HB.out.size)⟩
        | true =>
          clear hR
          go_wp2_with fail
          refine KC.out.mono ?_
          rintro e w2 ⟨rfl, hb⟩
          have B2 : Hid (Below w.heap.size w w2) := HB.out.trans (hb.mono HB.out.size)
          go_wp2_with fail
          have hkx := HKX.out
          go_roundg (6 - (0 + 1))
          case measure => omega
          case rel => exact ⟨0 + 1, by simp, by omega, HJ2.out (by first | rfl | trivial), B2, by omega⟩
      · have KC : Hid (Calls Try.prog 36 #[.pointer (some ⟨b, 0, none⟩)] wr fun e w' => e = .returned (.bool (cnd x 1)) ∧ Below wr.heap.size wr w') := (chk2 PB.out).mono fun e w' h => ⟨h.1, h.2 ▸ Below.refl _ _⟩
        have c : wr.cell? ⟨g, 1, none⟩ = some (.func (.func 36) #[] #[.pointer (some ⟨b, 0, none⟩)]) := PG.out.cell 1
        obtain ⟨q, hq⟩ : ∃ q, q = cnd x 1 := ⟨_, rfl⟩
        rw [← hq] at KC hbad HJ2
        clear hq hlt
        cases q with
        | false =>
          obtain rfl : R = false := hbad.out rfl
          clear hR
          go_wp2_with fail
          refine KC.out.mono ?_
          rintro e w2 ⟨rfl, hb⟩
          go_wp2_with fail
          go_ret
          exact ⟨rfl, HB.out.trans (hb.mono HB.out.size)⟩
        | true =>
          clear hR
          go_wp2_with fail
          refine KC.out.mono ?_
          rintro e w2 ⟨rfl, hb⟩
          have B2 : Hid (Below w.heap.size w w2) := HB.out.trans (hb.mono HB.out.size)
          go_wp2_with fail
          have hkx := HKX.out
          go_roundg (6 - (1 + 1))
          case measure => omega
          case rel => exact ⟨1 + 1, by simp, by omega, HJ2.out (by first | rfl | trivial), B2, by omega⟩
      · have KC : Hid (Calls Try.prog 37 #[.pointer (some ⟨b, 0, none⟩)] wr fun e w' => e = .returned (.bool (cnd x 2)) ∧ Below wr.heap.size wr w') := (chk3 PB.out).mono fun e w' h => ⟨h.1, h.2 ▸ Below.refl _ _⟩
        have c : wr.cell? ⟨g, 2, none⟩ = some (.func (.func 37) #[] #[.pointer (some ⟨b, 0, none⟩)]) := PG.out.cell 2
        obtain ⟨q, hq⟩ : ∃ q, q = cnd x 2 := ⟨_, rfl⟩
        rw [← hq] at KC hbad HJ2
        clear hq hlt
        cases q with
        | false =>
          obtain rfl : R = false := hbad.out rfl
          clear hR
          go_wp2_with fail
          refine KC.out.mono ?_
          rintro e w2 ⟨rfl, hb⟩
          go_wp2_with fail
          go_ret
          exact ⟨rfl, HB.out.trans (hb.mono HB.out.size)⟩
        | true =>
          clear hR
          go_wp2_with fail
          refine KC.out.mono ?_
          rintro e w2 ⟨rfl, hb⟩
          have B2 : Hid (Below w.heap.size w w2) := HB.out.trans (hb.mono HB.out.size)
          go_wp2_with fail
          have hkx := HKX.out
          go_roundg (6 - (2 + 1))
          case measure => omega
          case rel => exact ⟨2 + 1, by simp, by omega, HJ2.out (by first | rfl | trivial), B2, by omega⟩
      · have KC : Hid (Calls Try.prog 38 #[.pointer (some ⟨b, 0, none⟩)] wr fun e w' => e = .returned (.bool (cnd x 3)) ∧ Below wr.heap.size wr w') := (chk4 PB.out).mono fun e w' h => ⟨h.1, h.2 ▸ Below.refl _ _⟩
        have c : wr.cell? ⟨g, 3, none⟩ = some (.func (.func 38) #[] #[.pointer (some ⟨b, 0, none⟩)]) := PG.out.cell 3
        obtain ⟨q, hq⟩ : ∃ q, q = cnd x 3 := ⟨_, rfl⟩
        rw [← hq] at KC hbad HJ2
        clear hq hlt
        cases q with
        | false =>
          obtain rfl : R = false := hbad.out rfl
          clear hR
          go_wp2_with fail
          refine KC.out.mono ?_
          rintro e w2 ⟨rfl, hb⟩
          go_wp2_with fail
          go_ret
          exact ⟨rfl, HB.out.trans (hb.mono HB.out.size)⟩
        | true =>
          clear hR
          go_wp2_with fail
          refine KC.out.mono ?_
          rintro e w2 ⟨rfl, hb⟩
          have B2 : Hid (Below w.heap.size w w2) := HB.out.trans (hb.mono HB.out.size)
          go_wp2_with fail
          have hkx := HKX.out
          go_roundg (6 - (3 + 1))
          case measure => omega
          case rel => exact ⟨3 + 1, by simp, by omega, HJ2.out (by first | rfl | trivial), B2, by omega⟩
      · have KC : Hid (Calls Try.prog 39 #[.pointer (some ⟨b, 0, none⟩)] wr fun e w' => e = .returned (.bool (cnd x 4)) ∧ Below wr.heap.size wr w') := (chk5 PB.out (cnd_c4 (HJ.out 3 (by omega))).2).mono fun e w' h => ⟨h.1, h.2⟩
        have c : wr.cell? ⟨g, 4, none⟩ = some (.func (.func 39) #[] #[.pointer (some ⟨b, 0, none⟩)]) := PG.out.cell 4
        obtain ⟨q, hq⟩ : ∃ q, q = cnd x 4 := ⟨_, rfl⟩
        rw [← hq] at KC hbad HJ2
        clear hq hlt
        cases q with
        | false =>
          obtain rfl : R = false := hbad.out rfl
          clear hR
          go_wp2_with fail
          refine KC.out.mono ?_
          rintro e w2 ⟨rfl, hb⟩
          go_wp2_with fail
          go_ret
          exact ⟨rfl, HB.out.trans (hb.mono HB.out.size)⟩
        | true =>
          clear hR
          go_wp2_with fail
          refine KC.out.mono ?_
          rintro e w2 ⟨rfl, hb⟩
          have B2 : Hid (Below w.heap.size w w2) := HB.out.trans (hb.mono HB.out.size)
          go_wp2_with fail
          have hkx := HKX.out
          go_roundg (6 - (4 + 1))
          case measure => omega
          case rel => exact ⟨4 + 1, by simp, by omega, HJ2.out (by first | rfl | trivial), B2, by omega⟩
      · have KC : Hid (Calls Try.prog 41 #[.pointer (some ⟨b, 0, none⟩)] wr fun e w' => e = .returned (.bool (cnd x 5)) ∧ Below wr.heap.size wr w') := (chk6 PB.out (cnd_c4 (HJ.out 3 (by omega))).1 (cnd_c4 (HJ.out 3 (by omega))).2).mono fun e w' h => ⟨h.1, h.2⟩
        have c : wr.cell? ⟨g, 5, none⟩ = some (.func (.func 41) #[] #[.pointer (some ⟨b, 0, none⟩)]) := PG.out.cell 5
        obtain ⟨q, hq⟩ : ∃ q, q = cnd x 5 := ⟨_, rfl⟩
        rw [← hq] at KC hbad HJ2
        clear hq hlt
        cases q with
        | false =>
          obtain rfl : R = false := hbad.out rfl
          clear hR
          go_wp2_with fail
          refine KC.out.mono ?_
          rintro e w2 ⟨rfl, hb⟩
          go_wp2_with fail
          go_ret
          exact ⟨rfl, HB.out.trans (hb.mono HB.out.size)⟩
        | true =>
          clear hR
          go_wp2_with fail
          refine KC.out.mono ?_
          rintro e w2 ⟨rfl, hb⟩
          have B2 : Hid (Below w.heap.size w w2) := HB.out.trans (hb.mono HB.out.size)
          go_wp2_with fail
          have hkx := HKX.out
          go_roundg (6 - (5 + 1))
          case measure => omega
          case rel => exact ⟨5 + 1, by simp, by omega, HJ2.out (by first | rfl | trivial), B2, by omega⟩
    · obtain rfl : i = 6 := by omega
      have e : R = true := by
        rw [hR]
        unfold Pn.okB
        rw [List.all_eq_true]
        exact fun j hj => HJ.out j (List.mem_range.1 hj)
      subst e
      clear hkx hlt hi6 hR
      go_wp2_with fail
      go_ret
      exact ⟨rfl, HB.out⟩
end
end Go.Proofs.Ytakpoabpgdmneaa.Pl
