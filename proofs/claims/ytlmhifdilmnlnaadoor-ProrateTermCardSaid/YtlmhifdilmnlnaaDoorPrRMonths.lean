/- The document's months of a term. -/
import Derived.Test.YtlmhifdilmnlnaaDoorPrMonths
namespace Go.Proofs.YtlmhifdilmnlnaaDoor.Pr
open Go.RowKit Rf
theorem rof_in {k day : Int} (h : In k day) (w : World) :
    Calls Tryd.prog 26 #[.int .i64 day] w fun e w' => e = .returned (.tuple #[.int .i64 k, .int .i64 0]) ∧ w = w' := by
  have := Cw.rof_is day (Yk k) (Mk k) w h.date
  rwa [In.k_eq] at this
theorem rdays_in (k : Int) (w : World) (h1 : 1 ≤ k) (h2 : k ≤ 119988) :
    Calls Tryd.prog 25 #[.int .i64 k] w fun e w' => e = .returned (.tuple #[.int .i64 (B k + 1), .int .i64 (E k), .int .i64 0]) ∧ w = w' :=
  Cw.rdays_yes k w h1 h2
theorem long_in (k : Int) (w : World) (h1 : 1 ≤ k + 1) (h2 : k + 1 ≤ 119988) (ln : Int) (hl : E (k + 1) - E k = ln) :
    Calls Tryd.prog 43 #[.int .i64 ((k + 1 + 11) / 12), .int .i64 ((k + 1 + 11) % 12 + 1)] w fun e w' => e = .returned (.int .i64 ln) ∧ w = w' := by
  have h := Cw.long_c (Yk (k + 1)) (Mk (k + 1)) w (by unfold Yk; omega) (by unfold Yk; omega) (by unfold Mk; omega) (by unfold Mk; omega)
  rw [show Civ.len (Yk (k + 1)) (Mk (k + 1)) = ln by rw [← hl, ← B_succ k]; rfl] at h
  rwa [show Yk (k + 1) = (k + 1 + 11) / 12 by unfold Yk; omega, show Mk (k + 1) = (k + 1 + 11) % 12 + 1 by unfold Mk; omega] at h
/-- What an append leaves of the world. -/
theorem grown_below {W w1 : World} {n0 e size k : Nat} {v : Value} {xs : List Value} {tmp : Obj} (hrow : W.ownsRow n0 e size v k xs) (hn : n0 ≤ W.heap.size) (hg : (W.alloc tmp).grownBy w1 v.ownBlock) : Below n0 W w1 :=
  ((Below.refl n0 W).alloc hn tmp).grown hg (by simp; omega) fun j ej => by
    rcases hrow.2 with ⟨rfl, _⟩ | ⟨g, cap, cur, rfl, hg, _, _⟩
    · simp [Value.ownBlock] at ej
    · obtain rfl : g = j := by simpa [Value.ownBlock] using ej
      exact hg
set_option maxRecDepth 100000 in
set_option maxHeartbeats 2000000 in
theorem rmonths_ok (k f x : Int) (w : World) (hin : In k f) (hx : f < x) (hx2 : x ≤ 3652060) (n : Nat) (hn : x - f ≤ n) (L : List (Int × Int)) (hL : tm n k f x = L) :
    Calls Tryd.prog 22 #[.int .i64 f, .int .i64 x] w fun e w' => ∃ g cap, e = .returned (.tuple #[.slice (some ⟨g, 0, none⟩) L.length cap, .int .i64 0]) ∧ w'.ownsRow w.heap.size 51 2 (.slice (some ⟨g, 0, none⟩) L.length cap) L.length (cellsL L) ∧ Below w.heap.size w w' := by
  have hd := hin.day
  have hd1 := hd.1
  have hlen := tm_len n k f x hin hx hx2 hn
  rw [hL] at hlen
  have KO := Lib.hid (rof_in hin)
  have KD := Lib.hid (fun w => rdays_in k w hin.lo hin.hi)
  have HL0 := Lib.hid hL
  have HIN := Lib.hid hin
  have hEb := hin.b
  have hEh := E_hi k hin.hi
  obtain ⟨i0, hi, hz0, hz1, hz2⟩ := info_parts infoShare
  clear hL hin
  go_enter Tryd.func22, Tryd.ntmps22
  go_wp2_with fail
  refine (KO.out _).mono ?_
  rintro e w1 ⟨rfl, rfl⟩
  go_wp2_with fail
  refine (KD.out _).mono ?_
  rintro e w1 ⟨rfl, rfl⟩
  go_wp2_with fail
  go_loopw [6, 7, 10, 12, 13] (fun o m l c i wr => ∃ (pre : List (Int × Int)) (v : Value) (kk g day : Int) (q : Nat), o = v ∧ m = .int .i64 kk ∧ l = .int .i64 (E kk) ∧ c = .int .i64 (day - g) ∧ i = .int .i64 day ∧
      In kk g ∧ g < x ∧ x - g ≤ q ∧ g ≤ day ∧ day ≤ E kk + 1 ∧ day ≤ x ∧ L = pre ++ tm q kk g x ∧ wr.ownsRow w.heap.size 51 2 v pre.length (cellsL pre) ∧ Below w.heap.size w wr) (fun _ _ _ _ i _ => (x - intOf i).toNat)
  case atStart => exact ⟨[], _, k, f, f, n, rfl, rfl, rfl, by simp, rfl, HIN.out, hx, hn, by omega, by omega, by omega, HL0.out.symm, World.ownsRow_nil _ _ _ _, Below.refl _ _⟩
  case round =>
    obtain ⟨pre, v, kk, g, day, q, rfl, rfl, rfl, rfl, rfl, hin, hg, hq, h1, h2, h3, hLL, hrow, hB⟩ := hrel
    have k1 := hin.lo
    have k2 := hin.hi
    have e1 := hin.a
    have e2 := hin.b
    have e3 := B_lo kk k1
    have e4 := E_hi kk k2
    have e5 := BE kk
    have hsz := hB.size
    have HB := Lib.hid hB
    have HI := Lib.hid hin
    have HLL := Lib.hid hLL
    have HROW := Lib.hid hrow
    clear hB hin hLL KO KD HL0 HIN hEb hEh
    by_cases hlt : day < x
    · by_cases hgt : E kk < day
      · obtain rfl : day = E kk + 1 := by omega
        obtain ⟨q', hq', et, hq2⟩ := tm_more q kk g x HI.out hg hq hlt
        have HT := Lib.hid et
        have hnx := HI.out.next hlt hx2
        have k3 := hnx.hi
        have k4 := BE (kk + 1)
        rw [B_succ] at k4
        have hpl : pre.length + 1 ≤ L.length := by rw [HLL.out, HT.out]; simp
        obtain ⟨ln, hln⟩ : ∃ ln, E (kk + 1) - E kk = ln := ⟨_, rfl⟩
        have HN := Lib.hid hnx
        have KL := Lib.hid (fun w => long_in kk w (by omega) k3 ln hln)
        have hE1 := Lib.hid (show E kk + ln = E (kk + 1) by omega)
        have l1 : 28 ≤ ln ∧ ln ≤ 31 := by omega
        obtain ⟨l1, l2⟩ := l1
        clear hln k4 et hnx hq'
        go_wp2_with (first | (at_builtin; refine wpList_append_own _ rfl _ _ 38 rfl w.heap.size 51 i0 (.agg #[.int .i64 0, .int .i64 0]) 2 16 Tryd.underlying38 hi hz0 hz1 hz2 rfl (by decide) _ _ _ rfl (hrow.alloc _) ⟨wr.heap.size, 0, none⟩ 1 1 [.int .i64 kk, .int .i64 (E kk + 1 - g)] rfl rfl (two_new _ _ _ _) (by simp [Value.oneCell']) (by unfold maxLen; omega) (by omega) (by simp; omega) ?_; intro v' w1' hown' hgrow _) | (go_at_call 43; refine (KL.out _).mono ?_; rintro e w' ⟨rfl, rfl⟩))
        exact ⟨⟨pre ++ [(kk, E kk + 1 - g)], v', kk + 1, E kk + 1, E kk + 1 + 1, q', rfl, rfl, by rw [hE1.out], by congr 1; omega, rfl, HN.out, hlt, hq2, by omega, by have := HN.out.b; omega, by omega, by rw [HLL.out, HT.out]; simp, by rw [cellsL_snoc]; simpa using hown', HB.out.trans (grown_below HROW.out hsz hgrow)⟩, by simp [intOf]; omega⟩
      · go_wp2_with fail
        exact ⟨⟨pre, _, kk, g, day + 1, q, rfl, rfl, rfl, by congr 1; omega, rfl, HI.out, hg, hq, by omega, by omega, by omega, HLL.out, HROW.out, HB.out⟩, by simp [intOf]; omega⟩
    · obtain rfl : day = x := by omega
      have HT := Lib.hid (tm_last q kk g day hg hq h2)
      have HLE := Lib.hid (show L = pre ++ [(kk, day - g)] by rw [HLL.out, HT.out])
      have hpl : L.length = pre.length + 1 := by rw [HLE.out]; simp
      have HPL := Lib.hid hpl
      have hpl2 : pre.length + 1 ≤ L.length := by omega
      clear hpl
      go_wp2_with (at_builtin; refine wpList_append_own _ rfl _ _ 38 rfl w.heap.size 51 i0 (.agg #[.int .i64 0, .int .i64 0]) 2 16 Tryd.underlying38 hi hz0 hz1 hz2 rfl (by decide) _ _ _ rfl (hrow.alloc _) ⟨wr.heap.size, 0, none⟩ 1 1 [.int .i64 kk, .int .i64 (day - g)] rfl rfl (two_new _ _ _ _) (by simp [Value.oneCell']) (by unfold maxLen; omega) (by omega) (by simp; omega) ?_; intro v' w1' hown' hgrow _)
      obtain ⟨g', cap', rfl⟩ := own_form hown' (by omega)
      go_ret2
      exact ⟨g', cap', by rw [HPL.out]; rfl, by rw [HPL.out, HLE.out, cellsL_snoc]; simpa using hown', HB.out.trans (grown_below HROW.out hsz hgrow)⟩
end Go.Proofs.YtlmhifdilmnlnaaDoor.Pr
