/- Package codec: the law of schemas. -/
import Derived.Test.YtialjglgkfcdmaaCoOpen
import Derived.Deep.RegionHeld3
import Derived.Deep.Matrix
namespace Go.Proofs.Ytialjglgkfcdmaa.Or
open Go.RowKit
theorem Sb.pack {B : Nat} {S : Sch} {a : Option Addr} {cap : Nat} {w0 u : World} (h : Sb B S a cap w0 u) :
    u.cell? ⟨B, 0, none⟩ = some (.string S.name) ∧ u.cell? ⟨B, 1, none⟩ = some (.string S.kinds) ∧ u.cell? ⟨B, 2, none⟩ = some (.int .i64 S.key) ∧ u.cell? ⟨B, 3, none⟩ = some (.slice a S.idx.length cap) ∧ Sb B S a cap w0 u := ⟨h.c0, h.c1, h.c2, h.c3, h⟩
theorem Sb.drew {B : Nat} {S : Sch} {a : Option Addr} {cap : Nat} {w0 u : World} (h : Sb B S a cap w0 u) : Sb B S a cap w0 u.drew := h.later (Below.refl _ _).drew
theorem both_letters (S : Sch) (n : Int) (a : Option Addr) (cap : Nat) (hS : SmallS S) : ∃ (F : ByteArray) (z : Int), ∀ w, Mat w a S.idx →
    Calls Try.prog 17 #[S.val a cap, .int .i64 n] w (fun e w' => e = .returned (.tuple #[.string F, .int .i64 z]) ∧ Below w.heap.size w w') ∧
    Calls Try.prog 18 #[S.val a cap, .int .i64 n] w (fun e w' => e = .returned (.tuple #[.string F, .int .i64 z]) ∧ Below w.heap.size w w') := by
  cases ht : thereB S n with
  | false => exact ⟨⟨#[]⟩, 2, fun w h => ⟨(letters_c S n w a cap h hS).mono fun _ _ ⟨h1, _, hb⟩ => ⟨h1 ht, hb⟩, (rletters_c S n w a cap h hS).mono fun _ _ ⟨h1, _, hb⟩ => ⟨h1 ht, hb⟩⟩⟩
  | true => exact ⟨⟨(lettersF S n).toArray⟩, 0, fun w h => ⟨(letters_c S n w a cap h hS).mono fun _ _ ⟨_, h1, hb⟩ => ⟨h1 ht, hb⟩, (rletters_c S n w a cap h hS).mono fun _ _ ⟨_, h1, hb⟩ => ⟨h1 ht, hb⟩⟩⟩
set_option maxRecDepth 100000 in
set_option maxHeartbeats 3200000 in
theorem schemas_law (S : Sch) (n : Int) (w : World) (a : Option Addr) (cap : Nat) (hM : Mat w a S.idx) (hn : S.name.size ≤ maxLen) (hk : S.kinds.size ≤ maxLen) (hi : S.idx.length ≤ maxLen) :
    Calls Try.prog 6 #[S.val a cap, .int .i64 n] w fun e w' => e = .returned (.bool true) ∧ Below w.heap.size w w' := by
  have KH := Lib.hid codhead_c
  have KS := Lib.hid (fun w h => small_c S w a cap h hn hk hi)
  have S0 := Lib.hid (sb_new w S a cap hM 40)
  clear hM hn hk hi
  cases hs : smallSB S with
  | false =>
    rw [hs] at KS
    unfold Sch.val at KS
    unfold Sch.val
    clear hs
    obtain ⟨y0, y1, y2, y3, -, -, -⟩ := S0.out
    go_enter Try.func6, Try.ntmps6
    go_wp2_with fail
    refine (KS.out _ S0.out.mat).mono ?_
    rintro e w1 ⟨rfl, b1⟩
    have S1 := Lib.hid (S0.out.later b1)
    clear b1
    go_wp2_with fail
    refine (KH.out _).mono ?_
    rintro e w2 ⟨rfl, b2⟩
    have S2 := Lib.hid (S1.out.later b2)
    clear b2
    go_wp2_with fail
    go_ret
    exact ⟨rfl, S2.out.below⟩
  | true =>
    have hS := smallS_of hs
    rw [hs] at KS
    obtain ⟨F, z, hl⟩ := both_letters S n a cap hS
    have K1 := Lib.hid (fun w h => (hl w h).1)
    have K2 := Lib.hid (fun w h => (hl w h).2)
    have K3 := Lib.hid (fun w h => check_c S w a cap h hS)
    have K4 := Lib.hid (fun w h => rcheck_c S w a cap h hS)
    have zf : (F.toList == F.toList) = true := by simp
    have zz : (z == z) = true := by simp
    generalize chkE S = q at K3 K4
    have zq : (q == q) = true := by simp
    unfold Sch.val at KS K1 K2 K3 K4
    unfold Sch.val
    clear hs hS hl
    obtain ⟨y0, y1, y2, y3, -, -, -⟩ := S0.out
    go_enter Try.func6, Try.ntmps6
    go_wp2_with fail
    refine (KS.out _ S0.out.mat).mono ?_
    rintro e w1 ⟨rfl, b1⟩
    have S1 := Lib.hid (S0.out.later b1)
    clear b1 y0 y1 y2 y3
    obtain ⟨y0, y1, y2, y3, -, -, -⟩ := S1.out
    go_wp2_with fail
    refine (K1.out _ S1.out.mat).mono ?_
    rintro e w2 ⟨rfl, b2⟩
    have S2 := Lib.hid (S1.out.later b2)
    clear b2 y0 y1 y2 y3
    obtain ⟨y0, y1, y2, y3, -, -, -⟩ := S2.out
    go_wp2_with fail
    refine (K2.out _ S2.out.mat).mono ?_
    rintro e w3 ⟨rfl, b3⟩
    have S3 := Lib.hid (S2.out.later b3)
    clear b3 y0 y1 y2 y3
    go_wp2_with fail
    go_region_held3 (fun u => u.cell? ⟨w.heap.size, 0, none⟩ = some (.string S.name) ∧ u.cell? ⟨w.heap.size, 1, none⟩ = some (.string S.kinds) ∧ u.cell? ⟨w.heap.size, 2, none⟩ = some (.int .i64 S.key) ∧ u.cell? ⟨w.heap.size, 3, none⟩ = some (.slice a S.idx.length cap) ∧ Sb w.heap.size S a cap w u)
      (first | exact Sb.pack S3.out | exact Sb.pack S3.out.drew | exact Sb.pack J1)
      (first | (go_at_call 19; (try go_split_ands); refine (K3.out _ (Sb.mat (by assumption))).mono ?_; rintro e u1 ⟨rfl, b1⟩; have J1 := Sb.later (by assumption) b1) | (go_at_call 20; (try go_split_ands); refine (K4.out _ (Sb.mat (by assumption))).mono ?_; rintro e u1 ⟨rfl, b1⟩; have J1 := Sb.later (by assumption) b1) | (go_at_call 10; (try go_split_ands); refine (KH.out _).mono ?_; rintro e u1 ⟨rfl, b1⟩; have J1 := Sb.later (by assumption) b1))
    go_split_ands
    go_wp2_with fail
    go_ret
    exact ⟨rfl, Sb.below (by assumption)⟩
section
variable {H : Type} {enc : TypeId × Value → H} {P : Program} {w : World} {base : Nat} {held : Bool}
theorem open_mat {t e q : TypeId} {fuel : Nat} {v : Value} {y : DataW H × List MemPlace} (ht : P.underlying t = some (.slice e)) (he : P.underlying e = some (.slice q)) (hq : P.underlying q = some (.int .i64))
    (ce : P.cellsOf e = 1) (cq : P.cellsOf q = 1) (h : DataW.trod enc P w base (fun _ => true) held fuel t [v] = some y) :
    ∃ a cap L, v = .slice a (List.length L) cap ∧ Mat w a L ∧ L.length ≤ maxLen ∧ ∀ z ∈ L, z.length ≤ maxLen := by
  rcases Go.Deep.open_int_rows ht he hq ce cq h with ⟨hcs, _⟩ | ⟨a, len, cap, A, Ln, C, Z, hcs, _, hl, hm, _, hr⟩
  · simp at hcs
    exact ⟨none, 0, [], hcs, fun j hj => by simp at hj, by simp, by simp⟩
  · simp at hcs
    have hlen : ∀ r, r < len → ((Z r).take (Ln r)).length = Ln r := fun r hr' => by
      obtain ⟨_, h2, _, h4, _⟩ := hr r (by omega)
      rw [List.length_take]; omega
    refine ⟨some a, cap, (List.range len).map fun r => (Z r).take (Ln r), by simpa using hcs, ?_, by simp; omega, ?_⟩
    · intro j hj
      have hj' : j < len := by simpa using hj
      obtain ⟨h1, h2, h3, h4, h5, h6, h7⟩ := hr j (by omega)
      have h0 := (hr 0 (by omega)).1
      obtain ⟨ab, ao, spot⟩ := a
      have hspot : spot = none := by simpa [Addr.add] using World.cell?_spot h0
      subst hspot
      rw [Go.WideShapes.add_plain] at h1
      have e1 : ((List.range len).map fun r => (Z r).take (Ln r))[j] = (Z j).take (Ln j) := by simp
      refine ⟨ab, ao, A j, C j, rfl, World.block_lt_of_cell? w ⟨ab, ao + j, none⟩ h1, ?_, ?_, ?_⟩
      · rw [h1, e1, hlen j hj']
      · rw [e1, hlen j hj']; exact h2
      · rw [e1]
        intro i hi
        rw [hlen j hj'] at hi
        cases hA : A j with
        | none => have := h6 hA; omega
        | some a' =>
          obtain ⟨_, h8⟩ := h7 a' hA
          have c0 := h8 0 (by omega)
          obtain ⟨bb, bo, spot⟩ := a'
          have hs2 : spot = none := by simpa [Addr.add] using World.cell?_spot c0
          subst hs2
          have ci := h8 i (by omega)
          rw [Go.WideShapes.add_plain] at ci
          refine ⟨bb, bo, rfl, World.block_lt_of_cell? w ⟨bb, bo + i, none⟩ ci, ?_⟩
          rw [ci]
          have : i < (Z j).length := by omega
          simp [List.getElem_take, this]
    · intro z hz
      obtain ⟨r, hr', rfl⟩ := List.mem_map.1 hz
      have := List.mem_range.1 hr'
      obtain ⟨_, h2, h3, _⟩ := hr r (by omega)
      rw [hlen r this]; omega
end
end Go.Proofs.Ytialjglgkfcdmaa.Or
