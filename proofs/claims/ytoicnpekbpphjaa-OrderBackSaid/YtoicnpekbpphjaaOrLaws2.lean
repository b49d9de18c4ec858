/- Package order: the laws of what is put and got back. -/
import Derived.Test.YtoicnpekbpphjaaOrOpen
import Derived.Test.YtoicnpekbpphjaaOrLaws1
import Derived.Deep.RegionHeld3
namespace Go.Proofs.Ytoicnpekbpphjaa.Or
open Go.RowKit
/-- A key in its box, and its fields. -/
structure Ky (B : Nat) (K : ByteArray) (a : Option Addr) (n cap : Nat) (L : List Fd) (w0 u : World) : Prop where
  c0 : u.cell? ⟨B, 0, none⟩ = some (.string K)
  c1 : u.cell? ⟨B, 1, none⟩ = some (.slice a n cap)
  lt : B < u.heap.size
  fds : Fds u a L
  below : Below w0.heap.size w0 u
theorem Ky.later {B : Nat} {K : ByteArray} {a : Option Addr} {n cap : Nat} {L : List Fd} {w0 u v : World} (h : Ky B K a n cap L w0 u) (hb : Below u.heap.size u v) : Ky B K a n cap L w0 v :=
  ⟨by rw [hb.cell (by simpa using h.lt)]; exact h.c0, by rw [hb.cell (by simpa using h.lt)]; exact h.c1, Nat.lt_of_lt_of_le h.lt hb.size, h.fds.later hb, then_below h.below hb⟩
theorem Ky.drew {B : Nat} {K : ByteArray} {a : Option Addr} {n cap : Nat} {L : List Fd} {w0 u : World} (h : Ky B K a n cap L w0 u) : Ky B K a n cap L w0 u.drew := h.later (Below.refl _ _).drew
theorem Ky.pack {B : Nat} {K : ByteArray} {a : Option Addr} {n cap : Nat} {L : List Fd} {w0 u : World} (h : Ky B K a n cap L w0 u) :
    u.cell? ⟨B, 0, none⟩ = some (.string K) ∧ u.cell? ⟨B, 1, none⟩ = some (.slice a n cap) ∧ Ky B K a n cap L w0 u := ⟨h.c0, h.c1, h⟩
theorem ky_new (w : World) (K : ByteArray) (a : Option Addr) (n cap : Nat) (L : List Fd) (hL : Fds w a L) (t : TypeId) : Ky w.heap.size K a n cap L w (w.alloc (.cells #[.string K, .slice a n cap] t)) :=
  ⟨by rw [World.cell?_alloc_at _ _ _ _ rfl]; rfl, by rw [World.cell?_alloc_at _ _ _ _ rfl]; rfl, by simp, hL.later ((Below.refl _ _).alloc (Nat.le_refl _) _), (Below.refl _ _).alloc (Nat.le_refl _) _⟩
theorem puts_any (K : ByteArray) (a : Option Addr) (cap : Nat) (L : List Fd) (hf : Fine L) (hs : K.size ≤ 40) (hl : L.length ≤ 40) : ∃ (F : ByteArray) (z : Int), ∀ w, Fds w a L →
    Calls Try.prog 10 #[.string K, .slice a L.length cap] w (fun e w' => e = .returned (.tuple #[.string F, .int .i64 z]) ∧ Below w.heap.size w w') ∧
    Calls Try.prog 11 #[.string K, .slice a L.length cap] w (fun e w' => e = .returned (.tuple #[.string F, .int .i64 z]) ∧ Below w.heap.size w w') :=
  ⟨_, _, fun w h => ⟨put_c K w a cap L h hf (by omega) (by omega), rput_c K w a cap L h hf (by omega) (by omega)⟩⟩
set_option maxRecDepth 100000 in
set_option maxHeartbeats 3200000 in
theorem puts_law (K : ByteArray) (w : World) (a : Option Addr) (cap : Nat) (L : List Fd) (hL : Fds w a L) (hK : K.size ≤ maxLen) (hl : L.length ≤ maxLen) (hz : ∀ f ∈ L, Fd.Fits f) :
    Calls Try.prog 3 #[.agg #[.string K, .slice a L.length cap]] w fun e w' => e = .returned (.bool true) ∧ Below w.heap.size w w' := by
  have KH := Lib.hid head_c
  unfold maxLen at hK hl
  have hz2 : ∀ f ∈ L, f.s.size ≤ 9223372036854775807 := fun f hf => (hz f hf).2
  have KG := Lib.hid (fun w h => great_c K w a cap L h hl hK hz2)
  have Y0 := Lib.hid (ky_new w K a L.length cap L hL 24)
  obtain ⟨y0, y1, y2, y3, y4⟩ := Y0.out
  cases hg : greatB K L with
  | true =>
    rw [hg] at KG
    clear hg hz hz2 hL hK hl
    go_enter Try.func3, Try.ntmps3
    go_wp2_with fail
    refine (KG.out _ Y0.out.fds).mono ?_
    rintro e w1 ⟨rfl, b1⟩
    have Y1 := Lib.hid (Y0.out.later b1)
    clear b1
    go_wp2_with fail
    refine (KH.out _).mono ?_
    rintro e w2 ⟨rfl, b2⟩
    have Y2 := Lib.hid (Y1.out.later b2)
    clear b2
    go_wp2_with fail
    go_ret
    exact ⟨rfl, Y2.out.below⟩
  | false =>
    obtain ⟨hf, h40, hk40⟩ := not_great hg (fun f hf => (hz f hf).1)
    rw [hg] at KG
    obtain ⟨F, z, kp⟩ := puts_any K a cap L hf hk40 h40
    have K1 := Lib.hid (fun w h => (kp w h).1)
    have K2 := Lib.hid (fun w h => (kp w h).2)
    have K3 := Lib.hid (fun w => (kinds_c K w (by omega)).mono (fun e w' h => show e = .returned (.bool (kindsB K.data.toList)) ∧ Below w.heap.size w w' from ⟨h.1, by rw [← h.2]; exact Below.refl _ _⟩))
    have K4 := Lib.hid (fun w => (rkinds_c K w (by omega)).mono (fun e w' h => show e = .returned (.bool (kindsB K.data.toList)) ∧ Below w.heap.size w w' from ⟨h.1, by rw [← h.2]; exact Below.refl _ _⟩))
    have K5 := Lib.hid (fun w h => pfit_c K w a cap L h (by omega) (by omega))
    have K6 := Lib.hid (fun w h => rfit_c K w a cap L h (by omega) (by omega))
    have zf : (F.toList == F.toList) = true := by simp
    have zz : (z == z) = true := by simp
    generalize kindsB K.data.toList = bk at K3 K4
    generalize fitB K.data.toList L = bf at K5 K6
    have zk : (bk == bk) = true := by simp
    have zb : (bf == bf) = true := by simp
    clear hg hz hz2 hL hK hl hf h40 hk40 kp
    go_enter Try.func3, Try.ntmps3
    go_wp2_with fail
    refine (KG.out _ Y0.out.fds).mono ?_
    rintro e w1 ⟨rfl, b1⟩
    have Y1 := Lib.hid (Y0.out.later b1)
    clear b1 y0 y1 y2 y3 y4
    obtain ⟨y0, y1, -, -, -⟩ := Y1.out
    go_wp2_with fail
    refine (K1.out _ Y1.out.fds).mono ?_
    rintro e w2 ⟨rfl, b2⟩
    have Y2 := Lib.hid (Y1.out.later b2)
    clear b2 y0 y1
    obtain ⟨y0, y1, -, -, -⟩ := Y2.out
    go_wp2_with fail
    refine (K2.out _ Y2.out.fds).mono ?_
    rintro e w3 ⟨rfl, b3⟩
    have Y3 := Lib.hid (Y2.out.later b3)
    clear b3 y0 y1
    go_wp2_with fail
    go_region_held3 (fun u => u.cell? ⟨w.heap.size, 0, none⟩ = some (.string K) ∧ u.cell? ⟨w.heap.size, 1, none⟩ = some (.slice a L.length cap) ∧ Ky w.heap.size K a L.length cap L w u)
      (first | exact Ky.pack Y3.out | exact Ky.pack Y3.out.drew | exact Ky.pack J1)
      (first | (go_at_call 12; (try go_split_ands); refine (K3.out _).mono ?_; rintro e u1 ⟨rfl, b1⟩; have J1 := Ky.later (by assumption) b1) | (go_at_call 13; (try go_split_ands); refine (K4.out _).mono ?_; rintro e u1 ⟨rfl, b1⟩; have J1 := Ky.later (by assumption) b1) | (go_at_call 14; (try go_split_ands); refine (K5.out _ (Ky.fds (by assumption))).mono ?_; rintro e u1 ⟨rfl, b1⟩; have J1 := Ky.later (by assumption) b1) | (go_at_call 15; (try go_split_ands); refine (K6.out _ (Ky.fds (by assumption))).mono ?_; rintro e u1 ⟨rfl, b1⟩; have J1 := Ky.later (by assumption) b1) | (go_at_call 9; (try go_split_ands); refine (KH.out _).mono ?_; rintro e u1 ⟨rfl, b1⟩; have J1 := Ky.later (by assumption) b1))
    go_split_ands
    go_wp2_with fail
    go_ret
    exact ⟨rfl, Ky.below (by assumption)⟩
end Go.Proofs.Ytoicnpekbpphjaa.Or
