/- Package tally: the law of beginnings. -/
import Derived.Test.YtehofpmkplkaaaaTaShort0
import Derived.Test.YtehofpmkplkaaaaTaBack3
import Derived.Deep.RegionHeld3
namespace Go.Proofs.Ytehofpmkplkaaaa.Tal
open Go.RowKit
theorem ItemAt.pack {b n : Nat} {i : Int} {s t : ByteArray} {a : Option Addr} {len cap : Nat} {w u : World} (h : ItemAt b n i s a len cap t u) (d : Below w.heap.size w u) :
    u.cell? ⟨b, 0, none⟩ = some (.int .u64 n) ∧ u.cell? ⟨b, 1, none⟩ = some (.int .i64 i) ∧ u.cell? ⟨b, 2, none⟩ = some (.string s) ∧ u.cell? ⟨b, 3, none⟩ = some (.slice a len cap) ∧ ItemAt b n i s a len cap t u ∧ Below w.heap.size w u := ⟨h.c0, h.c1, h.c2, h.c3, h, d⟩
theorem ItemAt.alloc {b n : Nat} {i : Int} {s t : ByteArray} {a : Option Addr} {len cap : Nat} {w : World} (h : ItemAt b n i s a len cap t w) (o : Obj) : ItemAt b n i s a len cap t (w.alloc o) := h.later ((Below.refl _ w).alloc (Nat.le_refl _) o)
theorem below_alloc {w u : World} (h : Below w.heap.size w u) (o : Obj) : Below w.heap.size w (u.alloc o) := then_below h ((Below.refl _ u).alloc (Nat.le_refl _) o)
def cutv (l : List UInt8) (cut : Nat) (b : Bool) : Value := .string (if b then (⟨l.toArray⟩ : ByteArray).extract 0 (cut % l.length) else ⟨l.toArray⟩)
def shortC (l0 l1 l2 l3 : List UInt8) (cut k : Nat) : Array Value := #[cutv l0 cut (decide (0 < k)), cutv l1 cut (decide (1 < k)), cutv l2 cut (decide (2 < k)), cutv l3 cut (decide (3 < k))]
def FailRes (w : World) (e : Ending) (w' : World) : Prop := (∃ x y, e = .returned (.tuple #[x, y, .bool false])) ∧ Below w.heap.size w w'
structure FourAt (g : Nat) (s0 s1 s2 s3 : ByteArray) (w : World) : Prop where
  c0 : w.cell? ⟨g, 0, none⟩ = some (.string s0)
  c1 : w.cell? ⟨g, 1, none⟩ = some (.string s1)
  c2 : w.cell? ⟨g, 2, none⟩ = some (.string s2)
  c3 : w.cell? ⟨g, 3, none⟩ = some (.string s3)
  lt : g < w.heap.size
theorem FourAt.later {g : Nat} {s0 s1 s2 s3 : ByteArray} {w w' : World} (h : FourAt g s0 s1 s2 s3 w) (hb : Below w.heap.size w w') : FourAt g s0 s1 s2 s3 w' := by
  have := h.lt
  have := hb.size
  exact ⟨by rw [hb.cell (by simpa using h.lt)]; exact h.c0, by rw [hb.cell (by simpa using h.lt)]; exact h.c1, by rw [hb.cell (by simpa using h.lt)]; exact h.c2, by rw [hb.cell (by simpa using h.lt)]; exact h.c3, by omega⟩
theorem set_at (u : World) (C : Array Value) (t nd k : Nat) (v : Value) : ((u.alloc (.cells C t)).drewN nd).setCell ⟨u.heap.size, k, none⟩ v = (u.alloc (.cells (C.setIfInBounds k v) t)).drewN nd := by
  show ((u.alloc (.cells C t)).setCell ⟨u.heap.size, k, none⟩ v).drewN nd = _
  rw [World.setCell_alloc_at _ _ _ _ _ rfl]
set_option maxRecDepth 100000 in
set_option maxHeartbeats 1600000 in
theorem short_c (n : Nat) (i : Int) (s t : ByteArray) (w : World) (a : Option Addr) (cap cut : Nat) (L : List ByteArray) (hL : Strs w a L) (l0 l1 l2 l3 : List UInt8)
    (hc : cut < 4294967296) (z0 : 0 < l0.length ∧ l0.length ≤ 2000000) (z1 : 0 < l1.length ∧ l1.length ≤ 2000000) (z2 : 0 < l2.length ∧ l2.length ≤ 2000000) (z3 : 0 < l3.length ∧ l3.length ≤ 2000000)
    (k1 : ∀ w, Strs w a L → Calls Try.prog 34 #[.agg #[.int .u64 n, .int .i64 i, .string s, .slice a L.length cap, .string t]] w fun e w' => e = .returned (.bool false) ∧ Below w.heap.size w w')
    (p1 : ∀ w, Calls Try.prog 16 #[.int .u64 n] w (PutRes l0 w)) (p2 : ∀ w, Calls Try.prog 18 #[.int .i64 i] w (PutRes l1 w))
    (p3 : ∀ w, Calls Try.prog 20 #[.string s] w (PutRes l2 w)) (p4 : ∀ w, Strs w a L → Calls Try.prog 22 #[.slice a L.length cap] w (PutRes l3 w))
    (t0 : ∀ w, Calls Try.prog 25 #[.string ((⟨l0.toArray⟩ : ByteArray).extract 0 (cut % l0.length))] w (FailRes w)) (t1 : ∀ w, Calls Try.prog 27 #[.string ((⟨l1.toArray⟩ : ByteArray).extract 0 (cut % l1.length))] w (FailRes w))
    (t2 : ∀ w, Calls Try.prog 29 #[.string ((⟨l2.toArray⟩ : ByteArray).extract 0 (cut % l2.length))] w (FailRes w)) (t3 : ∀ w, Calls Try.prog 31 #[.string ((⟨l3.toArray⟩ : ByteArray).extract 0 (cut % l3.length))] w (FailRes w)) :
    Calls Try.prog 7 #[.agg #[.int .u64 n, .int .i64 i, .string s, .slice a L.length cap, .string t], .int .u32 cut] w fun e w' => e = .returned (.bool true) ∧ Below w.heap.size w w' := by
  have k1 := Lib.hid k1
  have p1 := Lib.hid p1
  have p2 := Lib.hid p2
  have p3 := Lib.hid p3
  have p4 := Lib.hid p4
  have t0 := Lib.hid t0
  have t1 := Lib.hid t1
  have t2 := Lib.hid t2
  have t3 := Lib.hid t3
  have HS := Lib.hid hL
  clear hL
  go_enter Try.func7, Try.ntmps7
  go_wp2_with fail
  have I0 := Lib.hid (show ItemAt w.heap.size n i s a L.length cap t (w.alloc (.cells #[.int .u64 n, .int .i64 i, .string s, .slice a L.length cap, .string t] 25)) by constructor <;> simp [go_sem])
  have B0 := Lib.hid ((Below.refl _ w).alloc (Nat.le_refl _) (.cells #[.int .u64 n, .int .i64 i, .string s, .slice a L.length cap, .string t] 25))
  refine (k1.out (w.alloc (.cells #[.int .u64 n, .int .i64 i, .string s, .slice a L.length cap, .string t] 25)) (HS.out.later B0.out)).mono ?_
  rintro e w1 ⟨rfl, b1⟩
  have I1 := Lib.hid (I0.out.later b1)
  have B1 := Lib.hid (then_below B0.out b1)
  clear I0 B0 b1 k1
  go_wp2_with fail
  go_region_held3 (fun u => u.cell? ⟨w.heap.size, 0, none⟩ = some (.int .u64 n) ∧ u.cell? ⟨w.heap.size, 1, none⟩ = some (.int .i64 i) ∧ u.cell? ⟨w.heap.size, 2, none⟩ = some (.string s) ∧ u.cell? ⟨w.heap.size, 3, none⟩ = some (.slice a L.length cap) ∧ ItemAt w.heap.size n i s a L.length cap t u ∧ Below w.heap.size w u)
    (first | exact ItemAt.pack I1.out B1.out | exact ItemAt.pack I1.out.drew B1.out.drew | exact ItemAt.pack J1 D1 | exact ItemAt.pack (ItemAt.alloc (by assumption) _) (below_alloc (by assumption) _))
    (first | (go_at_call 16; (try go_split_ands); refine (p1.out _).mono ?_; rintro e u1 ⟨rfl, b1⟩; have J1 := ItemAt.later (by assumption) b1; have D1 := then_below (by assumption) b1) | (go_at_call 18; (try go_split_ands); refine (p2.out _).mono ?_; rintro e u1 ⟨rfl, b1⟩; have J1 := ItemAt.later (by assumption) b1; have D1 := then_below (by assumption) b1) | (go_at_call 20; (try go_split_ands); refine (p3.out _).mono ?_; rintro e u1 ⟨rfl, b1⟩; have J1 := ItemAt.later (by assumption) b1; have D1 := then_below (by assumption) b1) | (go_at_call 22; (try go_split_ands); refine (p4.out _ (HS.out.later (by assumption))).mono ?_; rintro e u1 ⟨rfl, b1⟩; have J1 := ItemAt.later (by assumption) b1; have D1 := then_below (by assumption) b1))
  go_split_ands
  have D2 : Below w.heap.size w u1 := by assumption
  clear p1 p2 p3 p4
  go_wp2_with fail
  go_loopw [6] (fun s6 wr => ∃ (k nd : Nat), k ≤ 4 ∧ s6 = .int .i64 k ∧ wr = (u1.alloc (.cells (shortC l0 l1 l2 l3 cut k) 9)).drewN nd) (fun s6 _ => 4 - (intOf s6).toNat)
  case atStart => exact ⟨0, 0, by omega, rfl, rfl⟩
  case round =>
    obtain ⟨k, nd, hk, rfl, rfl⟩ := hrel
    obtain rfl | rfl | rfl | rfl | rfl : k = 0 ∨ k = 1 ∨ k = 2 ∨ k = 3 ∨ k = 4 := by omega
    -- ROUNDS
    · rw [show shortC l0 l1 l2 l3 cut 0 = #[.string ⟨l0.toArray⟩, .string ⟨l1.toArray⟩, .string ⟨l2.toArray⟩, .string ⟨l3.toArray⟩] from rfl]
      have e0 : ((l0.length : Int) == 0) = false := beq_eq_false_iff_ne.2 (by omega)
      have m0 : (0 : Int) ≤ (cut : Int) % (l0.length : Int) := Int.emod_nonneg _ (by omega)
      have m1 : (cut : Int) % (l0.length : Int) < (l0.length : Int) := Int.emod_lt_of_pos _ (by omega)
      go_wp2_with fail
      go_region
      go_wp2_with fail
      exact ⟨⟨1, nd + 1, by omega, rfl, set_at _ _ _ _ _ _⟩, by simp [intOf]⟩
    · rw [show shortC l0 l1 l2 l3 cut 1 = #[.string ((⟨l0.toArray⟩ : ByteArray).extract 0 (cut % l0.length)), .string ⟨l1.toArray⟩, .string ⟨l2.toArray⟩, .string ⟨l3.toArray⟩] from rfl]
      have e0 : ((l1.length : Int) == 0) = false := beq_eq_false_iff_ne.2 (by omega)
      have m0 : (0 : Int) ≤ (cut : Int) % (l1.length : Int) := Int.emod_nonneg _ (by omega)
      have m1 : (cut : Int) % (l1.length : Int) < (l1.length : Int) := Int.emod_lt_of_pos _ (by omega)
      go_wp2_with fail
      go_region
      go_wp2_with fail
      exact ⟨⟨2, nd + 1, by omega, rfl, set_at _ _ _ _ _ _⟩, by simp [intOf]⟩
    · rw [show shortC l0 l1 l2 l3 cut 2 = #[.string ((⟨l0.toArray⟩ : ByteArray).extract 0 (cut % l0.length)), .string ((⟨l1.toArray⟩ : ByteArray).extract 0 (cut % l1.length)), .string ⟨l2.toArray⟩, .string ⟨l3.toArray⟩] from rfl]
      have e0 : ((l2.length : Int) == 0) = false := beq_eq_false_iff_ne.2 (by omega)
      have m0 : (0 : Int) ≤ (cut : Int) % (l2.length : Int) := Int.emod_nonneg _ (by omega)
      have m1 : (cut : Int) % (l2.length : Int) < (l2.length : Int) := Int.emod_lt_of_pos _ (by omega)
      go_wp2_with fail
      go_region
      go_wp2_with fail
      exact ⟨⟨3, nd + 1, by omega, rfl, set_at _ _ _ _ _ _⟩, by simp [intOf]⟩
    · rw [show shortC l0 l1 l2 l3 cut 3 = #[.string ((⟨l0.toArray⟩ : ByteArray).extract 0 (cut % l0.length)), .string ((⟨l1.toArray⟩ : ByteArray).extract 0 (cut % l1.length)), .string ((⟨l2.toArray⟩ : ByteArray).extract 0 (cut % l2.length)), .string ⟨l3.toArray⟩] from rfl]
      have e0 : ((l3.length : Int) == 0) = false := beq_eq_false_iff_ne.2 (by omega)
      have m0 : (0 : Int) ≤ (cut : Int) % (l3.length : Int) := Int.emod_nonneg _ (by omega)
      have m1 : (cut : Int) % (l3.length : Int) < (l3.length : Int) := Int.emod_lt_of_pos _ (by omega)
      go_wp2_with fail
      go_region
      go_wp2_with fail
      exact ⟨⟨4, nd + 1, by omega, rfl, set_at _ _ _ _ _ _⟩, by simp [intOf]⟩
    · rw [show shortC l0 l1 l2 l3 cut 4 = #[.string ((⟨l0.toArray⟩ : ByteArray).extract 0 (cut % l0.length)), .string ((⟨l1.toArray⟩ : ByteArray).extract 0 (cut % l1.length)), .string ((⟨l2.toArray⟩ : ByteArray).extract 0 (cut % l2.length)), .string ((⟨l3.toArray⟩ : ByteArray).extract 0 (cut % l3.length))] from rfl]
      have D3 : Below w.heap.size w ((u1.alloc (.cells #[.string ((⟨l0.toArray⟩ : ByteArray).extract 0 (cut % l0.length)), .string ((⟨l1.toArray⟩ : ByteArray).extract 0 (cut % l1.length)), .string ((⟨l2.toArray⟩ : ByteArray).extract 0 (cut % l2.length)), .string ((⟨l3.toArray⟩ : ByteArray).extract 0 (cut % l3.length))] 9)).drewN nd) := by
        have h := then_below D2 ((Below.refl _ u1).alloc (Nat.le_refl _) (.cells #[.string ((⟨l0.toArray⟩ : ByteArray).extract 0 (cut % l0.length)), .string ((⟨l1.toArray⟩ : ByteArray).extract 0 (cut % l1.length)), .string ((⟨l2.toArray⟩ : ByteArray).extract 0 (cut % l2.length)), .string ((⟨l3.toArray⟩ : ByteArray).extract 0 (cut % l3.length))] 9))
        exact ⟨h.os, h.tape, h.output, h.size, h.block⟩
      have X3 : FourAt u1.heap.size ((⟨l0.toArray⟩ : ByteArray).extract 0 (cut % l0.length)) ((⟨l1.toArray⟩ : ByteArray).extract 0 (cut % l1.length)) ((⟨l2.toArray⟩ : ByteArray).extract 0 (cut % l2.length)) ((⟨l3.toArray⟩ : ByteArray).extract 0 (cut % l3.length)) ((u1.alloc (.cells #[.string ((⟨l0.toArray⟩ : ByteArray).extract 0 (cut % l0.length)), .string ((⟨l1.toArray⟩ : ByteArray).extract 0 (cut % l1.length)), .string ((⟨l2.toArray⟩ : ByteArray).extract 0 (cut % l2.length)), .string ((⟨l3.toArray⟩ : ByteArray).extract 0 (cut % l3.length))] 9)).drewN nd) := ⟨by simp [go_sem], by simp [go_sem], by simp [go_sem], by simp [go_sem], by simp⟩
      have D3 := Lib.hid D3
      have X3 := Lib.hid X3
      generalize ((u1.alloc (.cells #[.string ((⟨l0.toArray⟩ : ByteArray).extract 0 (cut % l0.length)), .string ((⟨l1.toArray⟩ : ByteArray).extract 0 (cut % l1.length)), .string ((⟨l2.toArray⟩ : ByteArray).extract 0 (cut % l2.length)), .string ((⟨l3.toArray⟩ : ByteArray).extract 0 (cut % l3.length))] 9)).drewN nd) = x3 at *
      generalize u1.heap.size = g at *
      have c0 := X3.out.c0
      go_wp2_with fail
      refine (t0.out _).mono ?_
      rintro e x4 ⟨⟨r4, s4, rfl⟩, b4⟩
      have X4 := Lib.hid (X3.out.later b4)
      have D4 := Lib.hid (then_below D3.out b4)
      clear X3 D3 c0 b4
      have c1 := X4.out.c1
      go_wp2_with fail
      refine (t1.out _).mono ?_
      rintro e x5 ⟨⟨r5, s5, rfl⟩, b5⟩
      have X5 := Lib.hid (X4.out.later b5)
      have D5 := Lib.hid (then_below D4.out b5)
      clear X4 D4 c1 b5
      have c2 := X5.out.c2
      go_wp2_with fail
      refine (t2.out _).mono ?_
      rintro e x6 ⟨⟨r6, s6, rfl⟩, b6⟩
      have X6 := Lib.hid (X5.out.later b6)
      have D6 := Lib.hid (then_below D5.out b6)
      clear X5 D5 c2 b6
      have c3 := X6.out.c3
      go_wp2_with fail
      refine (t3.out _).mono ?_
      rintro e x7 ⟨⟨r7, s7, rfl⟩, b7⟩
      have X7 := Lib.hid (X6.out.later b7)
      have D7 := Lib.hid (then_below D6.out b7)
      clear X6 D6 c3 b7
      go_wp2_with fail
      refine (head_c _).mono ?_
      rintro e x8 ⟨rfl, b8⟩
      go_wp2_with fail
      go_ret
      exact ⟨rfl, then_below D7.out b8⟩
end Go.Proofs.Ytehofpmkplkaaaa.Tal
