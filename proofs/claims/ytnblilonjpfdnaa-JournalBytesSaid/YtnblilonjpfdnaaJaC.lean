/- Joined: ArBy ArDiv ArDiv2 ArSum. -/
import Derived.Test.YtnblilonjpfdnaaJaB
import Derived.Test.YtnblilonjpfdnaaJaA
import Derived.RegionTactic
import Derived.Lib.Zigzag
import Derived.ChangeAlike
import Derived.Deep.RegionWith
section
namespace Go.Proofs.Ytnblilonjpfdnaa
open Go.RowKit

theorem inv_start' (h l c : Int) (c0 : 1 ≤ c) (l0 : 0 ≤ l) (l1 : l < 18446744073709551616) : Ar.Inv h l c ((63 : Int) + 1).toNat 0 (h % c) := Ar.inv_start h l c c0 l0 l1
end Go.Proofs.Ytnblilonjpfdnaa
end
section
namespace Go.Proofs.Ytnblilonjpfdnaa
open Go.RowKit

theorem signs2_is (a b : Int) (neg : Bool) (h : sgn2 a b = neg) (x : Nat) (w : World) (hx : x < w.heap.size) (h0 : w.cell? ⟨x, 0, none⟩ = some (.int .i64 a)) (h1 : w.cell? ⟨x, 1, none⟩ = some (.int .i64 b)) :
    Calls Try.prog 78 #[.slice (some ⟨x, 0, none⟩) 2 2] w (SignRes neg w) := by
  subst h; exact signs2_c a b x w hx h0 h1
theorem plus1 (Q : Int) (w : World) (q0 : 0 ≤ Q) (q1 : Q ≤ 85070591730234615865843651857942052864) :
    Calls Try.prog 75 #[.agg #[.int .u64 (Q / 18446744073709551616), .int .u64 (Q % 18446744073709551616)], .int .u64 1] w fun e w' =>
      e = .returned (.agg #[.int .u64 ((Q + 1) / 18446744073709551616), .int .u64 ((Q + 1) % 18446744073709551616)]) ∧ Below w.heap.size w w' := by
  have := plus_c (Q / 18446744073709551616) (Q % 18446744073709551616) 1 w (by omega) (by omega) (by omega) (by omega) (by omega) (by omega)
  rwa [show Q / 18446744073709551616 + (Q % 18446744073709551616 + 1) / 18446744073709551616 = (Q + 1) / 18446744073709551616 by omega, show (Q % 18446744073709551616 + 1) % 18446744073709551616 = (Q + 1) % 18446744073709551616 by omega] at this
theorem give_is (neg : Bool) (Q n : Int) (p : Nat) (w : World) (hp : p < w.heap.size) (hc : w.cell? ⟨p, 0, none⟩ = some (.bool neg)) (q0 : 0 ≤ Q) (q1 : Q ≤ 85070591730234615865843651857942052865) (hn : Ar.sg neg Q = n) (V : Int) (o : Bool) (hv : Ar.val n = V ∧ Ar.ok n = o) :
    Calls Try.prog 89 #[.agg #[.int .u64 (Q / 18446744073709551616), .int .u64 (Q % 18446744073709551616)], .pointer (some ⟨p, 0, none⟩)] w fun e w' =>
      e = .returned (.tuple #[.int .i64 V, .bool o]) ∧ Below w.heap.size w w' := by
  obtain ⟨rfl, rfl⟩ := hv
  subst hn
  have := give_c neg (Q / 18446744073709551616) (Q % 18446744073709551616) p w hp hc (by omega) (by omega) (by omega) (by omega)
  rwa [Ar.words] at this

/-- What MulDiv answers. -/
def Quot (P c : Int) (w : World) (e : Ending) (w' : World) : Prop :=
  (if Ar.ok (P / c) then e = .returned (.tuple #[.int .i64 (P / c), .int .i64 (P % c), .bool true]) else e = .returned (.tuple #[.int .i64 0, .int .i64 0, .bool false])) ∧ Below w.heap.size w w'
theorem ret_iib {j k : IntKind} {a b c d : Int} {x y : Bool} (h : a = b) (h' : c = d) (h'' : x = y) : Ending.returned (.tuple #[.int j a, .int k c, .bool x]) = .returned (.tuple #[.int j b, .int k d, .bool y]) := by rw [h, h', h'']

end Go.Proofs.Ytnblilonjpfdnaa
end
section
namespace Go.Proofs.Ytnblilonjpfdnaa
open Go.RowKit

theorem ok_or (n : Int) : (Ar.val n = n ∧ Ar.ok n = true) ∨ (Ar.val n = 0 ∧ Ar.ok n = false) := by
  by_cases h : Ar.Fits n
  · exact Or.inl ⟨if_pos h, decide_eq_true h⟩
  · exact Or.inr ⟨if_neg h, decide_eq_false h⟩
end Go.Proofs.Ytnblilonjpfdnaa
end
section
namespace Go.Proofs.Ytnblilonjpfdnaa
open Go.RowKit

theorem plus_is (D n : Int) (w : World) (q0 : 0 ≤ D) (q1 : D ≤ 170141183460469231731687303715884105727) (n0 : 0 ≤ n) (n1 : n ≤ 9223372036854775808) :
    Calls Try.prog 75 #[.agg #[.int .u64 (D / 18446744073709551616), .int .u64 (D % 18446744073709551616)], .int .u64 n] w fun e w' =>
      e = .returned (.agg #[.int .u64 ((D + n) / 18446744073709551616), .int .u64 ((D + n) % 18446744073709551616)]) ∧ Below w.heap.size w w' := by
  have := plus_c (D / 18446744073709551616) (D % 18446744073709551616) n w (by omega) (by omega) (by omega) (by omega) (by omega) (by omega)
  rwa [show D / 18446744073709551616 + (D % 18446744073709551616 + n) / 18446744073709551616 = (D + n) / 18446744073709551616 by omega, show (D % 18446744073709551616 + n) % 18446744073709551616 = (D + n) % 18446744073709551616 by omega] at this

/-- The two sums in memory. -/
structure Two (n : Nat) (U D : Int) (wr : World) : Prop where
  u0 : wr.cell? ⟨n, 0, none⟩ = some (.int .u64 (U / 18446744073709551616))
  u1 : wr.cell? ⟨n, 1, none⟩ = some (.int .u64 (U % 18446744073709551616))
  d0 : wr.cell? ⟨n + 1, 0, none⟩ = some (.int .u64 (D / 18446744073709551616))
  d1 : wr.cell? ⟨n + 1, 1, none⟩ = some (.int .u64 (D % 18446744073709551616))
  f0 : wr.frozen? ⟨n, 0, none⟩ = false
  f1 : wr.frozen? ⟨n, 1, none⟩ = false
  f2 : wr.frozen? ⟨n + 1, 0, none⟩ = false
  f3 : wr.frozen? ⟨n + 1, 1, none⟩ = false
  sz : n + 1 < wr.heap.size
theorem Two.later {n : Nat} {U D : Int} {w w' : World} (h : Two n U D w) (hb : Below w.heap.size w w') : Two n U D w' := by
  have := h.sz
  have := hb.size
  exact ⟨by rw [hb.cell (by simp; omega)]; exact h.u0, by rw [hb.cell (by simp; omega)]; exact h.u1, by rw [hb.cell (by simp; omega)]; exact h.d0, by rw [hb.cell (by simp; omega)]; exact h.d1,
    by rw [hb.frozen (by simp; omega)]; exact h.f0, by rw [hb.frozen (by simp; omega)]; exact h.f1, by rw [hb.frozen (by simp; omega)]; exact h.f2, by rw [hb.frozen (by simp; omega)]; exact h.f3, by omega⟩

theorem Two.drew {n : Nat} {U D : Int} {w : World} (h : Two n U D w) : Two n U D w.drew := ⟨h.u0, h.u1, h.d0, h.d1, h.f0, h.f1, h.f2, h.f3, h.sz⟩
theorem below_is (U D : Int) (w : World) (b : Bool) (_u0 : 0 ≤ U) (_d0 : 0 ≤ D) (hb : decide (U < D) = b) :
    Calls Try.prog 77 #[.agg #[.int .u64 (U / 18446744073709551616), .int .u64 (U % 18446744073709551616)], .agg #[.int .u64 (D / 18446744073709551616), .int .u64 (D % 18446744073709551616)]] w fun e w' => e = .returned (.bool b) ∧ Below w.heap.size w w' :=
  below_c _ _ _ _ w b (by omega) (by omega) (by omega) (by omega) (by rw [Ar.words, Ar.words, hb])
theorem less_is (U D : Int) (w : World) (_u0 : 0 ≤ D) (_h : D ≤ U) (_u1 : U ≤ 85070591730234615865843651857942052864) :
    Calls Try.prog 79 #[.agg #[.int .u64 (U / 18446744073709551616), .int .u64 (U % 18446744073709551616)], .agg #[.int .u64 (D / 18446744073709551616), .int .u64 (D % 18446744073709551616)]] w fun e w' =>
      e = .returned (.agg #[.int .u64 ((U - D) / 18446744073709551616), .int .u64 ((U - D) % 18446744073709551616)]) ∧ Below w.heap.size w w' := by
  have := less_c (U / 18446744073709551616) (U % 18446744073709551616) (D / 18446744073709551616) (D % 18446744073709551616) w (by omega) (by omega) (by omega) (by omega) (by omega) (by omega) (by rw [Ar.words, Ar.words]; omega)
  rwa [Ar.words, Ar.words] at this
theorem magnitude_is (x m : Int) (w : World) (b1 : -9223372036854775808 ≤ x) (b2 : x ≤ 9223372036854775807) (hm : Ar.mag x = m) :
    Calls Try.prog 76 #[.int .i64 x] w fun e w' => e = .returned (.int .u64 m) ∧ w = w' := by
  subst hm; exact magnitude_c x w b1 b2

set_option maxRecDepth 100000 in
set_option maxHeartbeats 1600000 in
theorem sum_c (b off len cap : Nat) (zs : List Int) (w : World) (hb : b < w.heap.size) (hl : len ≤ zs.length) (hm : len ≤ 17592186044416) (hz : ∀ x ∈ zs, -9223372036854775808 ≤ x ∧ x ≤ 9223372036854775807)
    (hc : ∀ j, j < zs.length → w.cell? ⟨b, off + j, none⟩ = some (.int .i64 (zs.getD j 0))) :
    Calls Try.prog 41 #[.slice (some ⟨b, off, none⟩) len cap] w (Told (zs.take len).sum w) := by
  have hmf := makeF
  have hstart : Two w.heap.size 0 0 ((w.alloc (.cells #[.int .u64 0, .int .u64 0] 124)).alloc (.cells #[.int .u64 0, .int .u64 0] 124)) := by
    constructor <;> simp [go_sem]
  have HS := Lib.hid hstart
  clear hstart
  go_enter Try.func41, Try.ntmps41
  go_wp2
  go_loopw [7, 13] (fun _ s wr => ∃ k : Nat, k ≤ len ∧ s = .int .i64 k ∧ Two w.heap.size (Ar.posS (zs.take k)) (Ar.negS (zs.take k)) wr ∧ Below w.heap.size w wr) (fun _ s _ => len - (intOf s).toNat)
  case atStart => exact ⟨0, by omega, rfl, HS.out, by repeat (first | exact Below.refl _ _ | refine Below.alloc ?_ (by simp) _)⟩
  case round =>
    obtain ⟨k, hk, rfl, hT, hB⟩ := hrel
    clear HS
    by_cases hlt : k < len
    · have hcell : wr.cell? ⟨b, off + k, none⟩ = some (.int .i64 (zs.getD k 0)) := by rw [hB.cell hb]; exact hc k (by omega)
      have hbd := hz (zs.getD k 0) (by simp [show k < zs.length by omega])
      have hsn := Ar.sums_bd (zs.take k) (fun x hx => hz x (List.mem_of_mem_take hx))
      have hlen : (zs.take k).length ≤ k := List.length_take_le _ _
      have hlen' : ((zs.take k).length : Int) ≤ 17592186044416 := by omega
      have hts := Ar.take_snoc zs k (by omega)
      have HP := Lib.hid (show Ar.posS (zs.take (k + 1)) = Ar.posS (zs.take k) + if zs.getD k 0 < 0 then 0 else zs.getD k 0 by rw [hts, Ar.posS_snoc])
      have HN := Lib.hid (show Ar.negS (zs.take (k + 1)) = Ar.negS (zs.take k) + if zs.getD k 0 < 0 then -zs.getD k 0 else 0 by rw [hts, Ar.negS_snoc])
      clear hts hlen hc hz
      obtain ⟨x, hx⟩ : ∃ x, x = zs.getD k 0 := ⟨_, rfl⟩
      rw [← hx] at hcell hbd HP HN
      clear hx
      generalize zs.take k = t0 at *
      obtain ⟨p0, p1, n0, n1⟩ := hsn
      have hps : Ar.posS t0 ≤ 162259276829213363391578010288128 := by omega
      have hns : Ar.negS t0 ≤ 162259276829213363391578010288128 := by omega
      clear p1 n1 hlen'
      obtain ⟨u0, u1, d0, d1, f0, f1, f2, f3, sz⟩ := id hT
      have HT := Lib.hid hT
      clear hT
      generalize hP : Ar.posS t0 = U at *
      generalize hN : Ar.negS t0 = D at *
      clear hP hN
      by_cases hneg : x < 0
      · have HPN := Lib.hid (show Ar.posS (zs.take (k + 1)) = U ∧ Ar.negS (zs.take (k + 1)) = D + -x by rw [HP.out, HN.out, if_pos hneg, if_pos hneg]; exact ⟨by omega, rfl⟩)
        clear HP HN
        go_wp2
        go_region_with (first | (go_at_call 76; refine (magnitude_is x (-x) _ hbd.1 hbd.2 (by unfold Ar.mag; split <;> omega)).mono ?_; rintro e w' ⟨rfl, rfl⟩) | (go_at_call 75; refine (plus_is D (-x) _ (by omega) (by omega) (by omega) (by omega)).mono ?_; rintro e w5 ⟨rfl, hb5⟩; have T5 := Two.later (by first | exact HT.out | exact HT.out.drew | exact HT.out.drew.drew) hb5; have B5 : Below w.heap.size w w5 := (by first | exact hB.trans (hb5.mono hB.size) | exact hB.drew.trans (hb5.mono hB.size) | exact hB.drew.drew.trans (hb5.mono hB.size)); clear hb5; obtain ⟨v0, v1, e0, e1, g0, g1, g2, g3, sz5⟩ := id T5))
        all_goals
          go_wp2
          exact ⟨⟨k + 1, by omega, by go_num, ⟨by simp [go_sem, HPN.out.1, v0], by simp [go_sem, HPN.out.1, v1], by simp [go_sem, HPN.out.2, e0], by simp [go_sem, HPN.out.2, e1], by simp [go_sem, g0], by simp [go_sem, g1], by simp [go_sem, g2], by simp [go_sem, g3], by simp [go_sem, sz5]⟩, (B5.setCell (by simp) _).setCell (by simp) _⟩, by simp [intOf]; omega⟩
      · have HPN := Lib.hid (show Ar.posS (zs.take (k + 1)) = U + x ∧ Ar.negS (zs.take (k + 1)) = D by rw [HP.out, HN.out, if_neg hneg, if_neg hneg]; exact ⟨rfl, by omega⟩)
        clear HP HN
        go_wp2
        go_region_with (first | (go_at_call 76; refine (magnitude_is x x _ hbd.1 hbd.2 (by unfold Ar.mag; split <;> omega)).mono ?_; rintro e w' ⟨rfl, rfl⟩) | (go_at_call 75; refine (plus_is U x _ (by omega) (by omega) (by omega) (by omega)).mono ?_; rintro e w5 ⟨rfl, hb5⟩; have T5 := Two.later (by first | exact HT.out | exact HT.out.drew | exact HT.out.drew.drew) hb5; have B5 : Below w.heap.size w w5 := (by first | exact hB.trans (hb5.mono hB.size) | exact hB.drew.trans (hb5.mono hB.size) | exact hB.drew.drew.trans (hb5.mono hB.size)); clear hb5; obtain ⟨v0, v1, e0, e1, g0, g1, g2, g3, sz5⟩ := id T5))
        all_goals
          go_wp2
          exact ⟨⟨k + 1, by omega, by go_num, ⟨by simp [go_sem, HPN.out.1, v0], by simp [go_sem, HPN.out.1, v1], by simp [go_sem, HPN.out.2, e0], by simp [go_sem, HPN.out.2, e1], by simp [go_sem, g0], by simp [go_sem, g1], by simp [go_sem, g2], by simp [go_sem, g3], by simp [go_sem, sz5]⟩, (B5.setCell (by simp) _).setCell (by simp) _⟩, by simp [intOf]; omega⟩
    · obtain rfl : k = len := by omega
      have hsn := Ar.sums_bd (zs.take k) (fun x hx => hz x (List.mem_of_mem_take hx))
      have hlen : (zs.take k).length ≤ k := List.length_take_le _ _
      have hlen' : ((zs.take k).length : Int) ≤ 17592186044416 := by omega
      have HE := Lib.hid (Ar.sum_parts (zs.take k))
      clear hlen hc hz hlt
      obtain ⟨p0, p1, n0, n1⟩ := hsn
      have hps : Ar.posS (zs.take k) ≤ 162259276829213363391578010288128 := by omega
      have hns : Ar.negS (zs.take k) ≤ 162259276829213363391578010288128 := by omega
      clear p1 n1 hlen'
      obtain ⟨u0, u1, d0, d1, f0, f1, f2, f3, sz⟩ := id hT
      have HT := Lib.hid hT
      clear hT
      generalize Ar.posS (zs.take k) = U at *
      generalize Ar.negS (zs.take k) = D at *
      generalize (zs.take k).sum = S at *
      by_cases hUD : U < D
      · go_wp2_with fail
        refine (below_is U D _ true p0 n0 (decide_eq_true (by omega))).mono ?_
        rintro e w1 ⟨rfl, hb1⟩
        have T1 := HT.out.later hb1
        have B1 : Below w.heap.size w w1 := hB.trans (hb1.mono hB.size)
        clear hb1 u0 u1 d0 d1 f0 f1 f2 f3 sz
        obtain ⟨u0, u1, d0, d1, f0, f1, f2, f3, sz⟩ := id T1
        go_wp2_with fail
        go_region
        go_wp2_with fail
        obtain ⟨wy, hwy⟩ : ∃ wy, wy = ((((w1.setCell ⟨w.heap.size, 0, none⟩ (.int .u64 (D / 18446744073709551616))).setCell ⟨w.heap.size, 1, none⟩ (.int .u64 (D % 18446744073709551616))).setCell ⟨w.heap.size + 1, 0, none⟩ (.int .u64 (U / 18446744073709551616))).setCell ⟨w.heap.size + 1, 1, none⟩ (.int .u64 (U % 18446744073709551616))) := ⟨_, rfl⟩
        rw [← hwy]
        have TY : Two w.heap.size D U wy := by subst hwy; constructor <;> simp [go_sem, u0, u1, d0, d1, f0, f1, f2, f3, sz]
        have BY : Below w.heap.size w wy := by subst hwy; exact (((B1.setCell (by simp) _).setCell (by simp) _).setCell (by simp) _).setCell (by simp) _
        have hyz : wy.heap.size = w1.heap.size := by subst hwy; simp
        try rw [← hyz]
        clear hwy u0 u1 d0 d1 f0 f1 f2 f3 sz T1 B1 hyz HT
        refine (signs1_n (-1) wy.heap.size _ (by simp) (by simp [go_sem]) (by omega)).mono ?_
        rintro e w2 ⟨rfl, hb2, hc2, hz2⟩
        simp at hc2 hz2
        have hs2 := hb2.size
        simp at hs2
        have hyn := TY.sz
        have TA := Two.later TY ((Below.refl _ _).alloc (Nat.le_refl _) (.cells #[.int .i64 (-1)] 2))
        have T2 : Two w.heap.size D U w2 := Two.later (by first | exact TA | exact TA.drew) hb2
        have BA : Below w.heap.size w (wy.alloc (.cells #[.int .i64 (-1)] 2)) := BY.alloc (by omega) _
        have B2 : Below w.heap.size w w2 := by first | exact BA.trans (hb2.mono BA.size) | exact BA.drew.trans (hb2.mono BA.size)
        clear TA BA
        clear hb2
        obtain ⟨u0, u1, d0, d1, f0, f1, f2, f3, sz⟩ := T2
        go_wp2_with fail
        refine (less_is D U _ (by omega) (by omega) (by omega)).mono ?_
        rintro e w3 ⟨rfl, hb3⟩
        have hc3 : w3.cell? ⟨wy.heap.size + 1, 0, none⟩ = some (.bool true) := by rw [hb3.cell (by simpa using hz2)]; exact hc2
        have hs3 := hb3.size
        have B3 := B2.trans (hb3.mono (by omega))
        clear hb3
        go_wp2_with fail
        refine (give_is true (D - U) (Ar.sg true (D - U)) (wy.heap.size + 1) _ (by omega) hc3 (by omega) (by omega) rfl _ _ ⟨rfl, rfl⟩).mono ?_
        rintro e w4 ⟨rfl, hb4⟩
        have B4 := B3.trans (hb4.mono (by omega))
        clear hb4
        go_wp2_with fail
        go_ret2
        have hE : S = Ar.sg true (D - U) := by rw [HE.out]; unfold Ar.sg; simp only [if_true]; omega
        exact ⟨ret_ib (by rw [hE]) (by rw [hE]), B4⟩
      · go_wp2_with fail
        refine (below_is U D _ false p0 n0 (decide_eq_false (by omega))).mono ?_
        rintro e w1 ⟨rfl, hb1⟩
        have T1 := HT.out.later hb1
        have B1 : Below w.heap.size w w1 := hB.trans (hb1.mono hB.size)
        clear hb1 u0 u1 d0 d1 f0 f1 f2 f3 sz
        obtain ⟨u0, u1, d0, d1, f0, f1, f2, f3, sz⟩ := id T1
        go_wp2_with fail
        obtain ⟨wy, hwy⟩ : ∃ wy, wy = w1 := ⟨_, rfl⟩
        rw [← hwy]
        have TY : Two w.heap.size U D wy := by subst hwy; constructor <;> simp [go_sem, u0, u1, d0, d1, f0, f1, f2, f3, sz]
        have BY : Below w.heap.size w wy := by subst hwy; exact B1
        have hyz : wy.heap.size = w1.heap.size := by subst hwy; simp
        try rw [← hyz]
        clear hwy u0 u1 d0 d1 f0 f1 f2 f3 sz T1 B1 hyz HT
        refine (signs1_p 1 wy.heap.size _ (by simp) (by simp [go_sem]) (by omega)).mono ?_
        rintro e w2 ⟨rfl, hb2, hc2, hz2⟩
        simp at hc2 hz2
        have hs2 := hb2.size
        simp at hs2
        have hyn := TY.sz
        have TA := Two.later TY ((Below.refl _ _).alloc (Nat.le_refl _) (.cells #[.int .i64 1] 2))
        have T2 : Two w.heap.size U D w2 := Two.later (by first | exact TA | exact TA.drew) hb2
        have BA : Below w.heap.size w (wy.alloc (.cells #[.int .i64 1] 2)) := BY.alloc (by omega) _
        have B2 : Below w.heap.size w w2 := by first | exact BA.trans (hb2.mono BA.size) | exact BA.drew.trans (hb2.mono BA.size)
        clear TA BA
        clear hb2
        obtain ⟨u0, u1, d0, d1, f0, f1, f2, f3, sz⟩ := T2
        go_wp2_with fail
        refine (less_is U D _ (by omega) (by omega) (by omega)).mono ?_
        rintro e w3 ⟨rfl, hb3⟩
        have hc3 : w3.cell? ⟨wy.heap.size + 1, 0, none⟩ = some (.bool false) := by rw [hb3.cell (by simpa using hz2)]; exact hc2
        have hs3 := hb3.size
        have B3 := B2.trans (hb3.mono (by omega))
        clear hb3
        go_wp2_with fail
        refine (give_is false (U - D) (Ar.sg false (U - D)) (wy.heap.size + 1) _ (by omega) hc3 (by omega) (by omega) rfl _ _ ⟨rfl, rfl⟩).mono ?_
        rintro e w4 ⟨rfl, hb4⟩
        have B4 := B3.trans (hb4.mono (by omega))
        clear hb4
        go_wp2_with fail
        go_ret2
        have hE : S = Ar.sg false (U - D) := by rw [HE.out]; unfold Ar.sg; simp only [Bool.false_eq_true, if_false]
        exact ⟨ret_ib (by rw [hE]) (by rw [hE]), B4⟩
end Go.Proofs.Ytnblilonjpfdnaa
end
