/- Package codec: what takes a field off bytes. -/
import Derived.Test.YtialjglgkfcdmaaCoPut
import Derived.Test.YtialjglgkfcdmaaCoPlaces
import Derived.Test.YtialjglgkfcdmaaTcRef3
import Derived.Deep.RegionWith
import Derived.RegionTactic
namespace Go.Proofs.Ytialjglgkfcdmaa.Or
open Go.RowKit
theorem ptk1_none {F : ByteArray} (w : World) (hs : F.size ≤ 1000000) (h : Ta.take 0 F.data.toList = none) : Calls Try.prog 61 #[.string F] w fun e w' => e = .returned (.tuple #[.int .u64 0, .string ⟨#[]⟩, .bool false]) ∧ Below w.heap.size w w' := by
  have k := Tal.takeNum_c F w (by unfold maxLen; omega)
  rw [h] at k
  exact k
theorem ptk1_some {F : ByteArray} {n : Nat} {r : List UInt8} (w : World) (hs : F.size ≤ 1000000) (h : Ta.take 0 F.data.toList = some (n, r)) : Calls Try.prog 61 #[.string F] w fun e w' => e = .returned (.tuple #[.int .u64 n, .string ⟨r.toArray⟩, .bool true]) ∧ Below w.heap.size w w' := by
  have k := Tal.takeNum_c F w (by unfold maxLen; omega)
  rw [h] at k
  exact k
theorem ptk2_none {F : ByteArray} (w : World) (hs : F.size ≤ 1000000) (h : Ta.take 0 F.data.toList = none) : Calls Try.prog 63 #[.string F] w fun e w' => e = .returned (.tuple #[.int .i64 0, .string ⟨#[]⟩, .bool false]) ∧ Below w.heap.size w w' := by
  have k := Tal.takeInt_c F w (by unfold maxLen; omega)
  rw [h] at k
  exact k
theorem ptk2_some {F : ByteArray} {n : Nat} {r : List UInt8} (w : World) (hs : F.size ≤ 1000000) (h : Ta.take 0 F.data.toList = some (n, r)) : Calls Try.prog 63 #[.string F] w fun e w' => e = .returned (.tuple #[.int .i64 (Tal.unz n), .string ⟨r.toArray⟩, .bool true]) ∧ Below w.heap.size w w' := by
  have k := Tal.takeInt_c F w (by unfold maxLen; omega)
  rw [h] at k
  exact k
theorem ptk3_none {F : ByteArray} (w : World) (hs : F.size ≤ 1000000) (h : Ta.takeText F.data.toList = none) : Calls Try.prog 65 #[.string F] w fun e w' => e = .returned (.tuple #[.string ⟨#[]⟩, .string ⟨#[]⟩, .bool false]) ∧ Below w.heap.size w w' := by
  have k := Tal.takeText_c F w (by unfold maxLen; omega)
  rw [h] at k
  exact k
theorem ptk3_some {F : ByteArray} {n : List UInt8} {r : List UInt8} (w : World) (hs : F.size ≤ 1000000) (h : Ta.takeText F.data.toList = some (n, r)) : Calls Try.prog 65 #[.string F] w fun e w' => e = .returned (.tuple #[.string ⟨n.toArray⟩, .string ⟨r.toArray⟩, .bool true]) ∧ Below w.heap.size w w' := by
  have k := Tal.takeText_c F w (by unfold maxLen; omega)
  rw [h] at k
  exact k
theorem rtk1_none {F : ByteArray} (w : World) (hs : F.size ≤ 1000000) (h : Ta.take 0 F.data.toList = none) : Calls Try.prog 40 #[.string F] w fun e w' => e = .returned (.tuple #[.int .u64 0, .string ⟨#[]⟩, .bool false]) ∧ Below w.heap.size w w' := by
  have k := Tal.refTakeNum_c F w (by omega)
  rw [h] at k
  exact k
theorem rtk1_some {F : ByteArray} {n : Nat} {r : List UInt8} (w : World) (hs : F.size ≤ 1000000) (h : Ta.take 0 F.data.toList = some (n, r)) : Calls Try.prog 40 #[.string F] w fun e w' => e = .returned (.tuple #[.int .u64 n, .string ⟨r.toArray⟩, .bool true]) ∧ Below w.heap.size w w' := by
  have k := Tal.refTakeNum_c F w (by omega)
  rw [h] at k
  exact k
theorem rtk2_none {F : ByteArray} (w : World) (hs : F.size ≤ 1000000) (h : Ta.take 0 F.data.toList = none) : Calls Try.prog 41 #[.string F] w fun e w' => e = .returned (.tuple #[.int .i64 0, .string ⟨#[]⟩, .bool false]) ∧ Below w.heap.size w w' := by
  have k := Tal.refTakeInt_c F w (by omega)
  rw [h] at k
  exact k
theorem rtk2_some {F : ByteArray} {n : Nat} {r : List UInt8} (w : World) (hs : F.size ≤ 1000000) (h : Ta.take 0 F.data.toList = some (n, r)) : Calls Try.prog 41 #[.string F] w fun e w' => e = .returned (.tuple #[.int .i64 (Tal.unz n), .string ⟨r.toArray⟩, .bool true]) ∧ Below w.heap.size w w' := by
  have k := Tal.refTakeInt_c F w (by omega)
  rw [h] at k
  exact k
theorem rtk3_none {F : ByteArray} (w : World) (hs : F.size ≤ 1000000) (h : Ta.takeText F.data.toList = none) : Calls Try.prog 42 #[.string F] w fun e w' => e = .returned (.tuple #[.string ⟨#[]⟩, .string ⟨#[]⟩, .bool false]) ∧ Below w.heap.size w w' := by
  have k := Tal.refTakeText_c F w (by omega)
  rw [h] at k
  exact k
theorem rtk3_some {F : ByteArray} {n : List UInt8} {r : List UInt8} (w : World) (hs : F.size ≤ 1000000) (h : Ta.takeText F.data.toList = some (n, r)) : Calls Try.prog 42 #[.string F] w fun e w' => e = .returned (.tuple #[.string ⟨n.toArray⟩, .string ⟨r.toArray⟩, .bool true]) ∧ Below w.heap.size w w' := by
  have k := Tal.refTakeText_c F w (by omega)
  rw [h] at k
  exact k
def RdRes (o : Option (Fd × List UInt8)) (G : Nat) (w : World) (e : Ending) (w' : World) : Prop :=
  Below G w w' ∧ (o = none → e = .returned (.tuple #[.string ⟨#[]⟩, .bool false])) ∧ (∀ f r, o = some (f, r) → e = .returned (.tuple #[.string ⟨r.toArray⟩, .bool true]) ∧ FdAt w' G f)
theorem rd_none {o : Option (Fd × List UInt8)} {G : Nat} {w w' : World} (h : o = none) (hb : Below G w w') : RdRes o G w (.returned (.tuple #[.string ⟨#[]⟩, .bool false])) w' :=
  ⟨hb, fun _ => rfl, fun f r h2 => by rw [h] at h2; cases h2⟩
theorem rd_some {o : Option (Fd × List UInt8)} {G : Nat} {w w' : World} {f : Fd} {r : List UInt8} (h : o = some (f, r)) (hb : Below G w w') (hf : FdAt w' G f) : RdRes o G w (.returned (.tuple #[.string ⟨r.toArray⟩, .bool true])) w' :=
  ⟨hb, fun h2 => (by rw [h] at h2; cases h2), fun f' r' h2 => by
    rw [h] at h2
    obtain ⟨rfl, rfl⟩ := Prod.mk.inj (Option.some.inj h2)
    exact ⟨rfl, hf⟩⟩
/-- The two boxes that a reader finds. -/
structure Rb (B G : Nat) (w : World) : Prop where
  b : w.cell? ⟨B, 0, none⟩ = some (.pointer (some ⟨G, 0, none⟩))
  lt : B < w.heap.size
  gb : G < B
  fd : FdAt w G ⟨0, 0, ⟨#[]⟩⟩
  f0 : w.frozen? ⟨G, 0, none⟩ = false
  f1 : w.frozen? ⟨G, 1, none⟩ = false
  f2 : w.frozen? ⟨G, 2, none⟩ = false
theorem Rb.later {B G : Nat} {w w' : World} (h : Rb B G w) (hb : Below w.heap.size w w') : Rb B G w' :=
  ⟨by rw [hb.cell (by simpa using h.lt)]; exact h.b, Nat.lt_of_lt_of_le h.lt hb.size, h.gb, h.fd.later hb, by rw [hb.frozen (by simpa using h.fd.2.2.2)]; exact h.f0, by rw [hb.frozen (by simpa using h.fd.2.2.2)]; exact h.f1, by rw [hb.frozen (by simpa using h.fd.2.2.2)]; exact h.f2⟩
theorem Rb.drew {B G : Nat} {w : World} (h : Rb B G w) : Rb B G w.drew := h.later (Below.refl _ _).drew
theorem takeC_n {c : UInt8} (h : c.toNat = 110) (B : List UInt8) : takeC c B = (Ta.take 0 B).map fun x => (⟨x.1, 0, ⟨#[]⟩⟩, x.2) := by unfold takeC; rw [if_pos h]
theorem takeC_i {c : UInt8} (h : c.toNat = 105) (B : List UInt8) : takeC c B = (Ta.take 0 B).map fun x => (⟨0, Tal.unz x.1, ⟨#[]⟩⟩, x.2) := by unfold takeC; rw [if_neg (by omega), if_pos h]
theorem takeC_s {c : UInt8} (h : c.toNat = 115) (B : List UInt8) : takeC c B = (Ta.takeText B).map fun x => (⟨0, 0, ⟨x.1.toArray⟩⟩, x.2) := by unfold takeC; rw [if_neg (by omega), if_neg (by omega)]
theorem cell_put {w : World} {b j : Nat} {v x : Value} (h : w.cell? ⟨b, j, none⟩ = some x) : (w.setCell ⟨b, j, none⟩ v).cell? ⟨b, j, none⟩ = some v := World.cell?_setCell_same' w _ v (by rw [h]; rfl)
theorem cell_other {w : World} {b j k : Nat} {v : Value} (h : j ≠ k) : (w.setCell ⟨b, j, none⟩ v).cell? ⟨b, k, none⟩ = w.cell? ⟨b, k, none⟩ := World.cell?_setCell_other w _ _ v (by intro e; simp only [Addr.mk.injEq] at e; omega)
set_option maxRecDepth 100000 in
set_option maxHeartbeats 1600000 in
theorem rd1_c (F : ByteArray) (B G : Nat) (c : UInt8) (hc : c.toNat = 110) (w : World) (hs : F.size ≤ 1000000) (h : Rb B G w) : Calls Try.prog 60 #[.string F, .pointer (some ⟨B, 0, none⟩)] w (RdRes (takeC c F.data.toList) G w) := by
  have HR := Lib.hid h
  have HTC := Lib.hid (takeC_n hc F.data.toList)
  have HGB := Lib.hid (show G ≤ w.heap.size by have := h.lt; have := h.gb; omega)
  clear h
  cases ht : Ta.take 0 F.data.toList with
  | none =>
    have KT := Lib.hid (fun w => ptk1_none w hs ht)
    have HO := Lib.hid (show takeC c F.data.toList = none by rw [HTC.out, ht]; rfl)
    clear ht hc hs
    go_enter Try.func60, Try.ntmps60
    go_wp2_with fail
    obtain ⟨b0, b1, b2, ⟨g0, g1, g2, g3⟩, f0, f1, f2⟩ := HR.out
    go_region_with (first | (go_at_call 61; refine (KT.out _).mono ?_; rintro e w2 ⟨rfl, bb⟩; have HR2 := Lib.hid (HR.out.drew.later bb); have HB2 := Lib.hid ((Below.refl w.heap.size w).drew.trans bb); clear b0 b1 b2 g0 g1 g2 g3 f0 f1 f2; obtain ⟨b0, b1, b2, ⟨g0, g1, g2, g3⟩, f0, f1, f2⟩ := HR2.out; clear bb))
    all_goals go_wp2_with fail
    all_goals go_ret2
    all_goals exact rd_none HO.out ((HB2.out.mono HGB.out).setCell (p := ⟨G, 0, none⟩) (Nat.le_refl _) _)
  | some x =>
    obtain ⟨n, r⟩ := x
    have KT := Lib.hid (fun w => ptk1_some w hs ht)
    have HO := Lib.hid (show takeC c F.data.toList = some (⟨n, 0, ⟨#[]⟩⟩, r) by rw [HTC.out, ht]; rfl)
    clear ht hc hs
    go_enter Try.func60, Try.ntmps60
    go_wp2_with fail
    obtain ⟨b0, b1, b2, ⟨g0, g1, g2, g3⟩, f0, f1, f2⟩ := HR.out
    go_region_with (first | (go_at_call 61; refine (KT.out _).mono ?_; rintro e w2 ⟨rfl, bb⟩; have HR2 := Lib.hid (HR.out.drew.later bb); have HB2 := Lib.hid ((Below.refl w.heap.size w).drew.trans bb); clear b0 b1 b2 g0 g1 g2 g3 f0 f1 f2; obtain ⟨b0, b1, b2, ⟨g0, g1, g2, g3⟩, f0, f1, f2⟩ := HR2.out; clear bb))
    all_goals go_wp2_with fail
    all_goals go_ret2
    all_goals refine rd_some HO.out ((HB2.out.mono HGB.out).setCell (p := ⟨G, 0, none⟩) (Nat.le_refl _) _) ?_
    all_goals obtain ⟨-, q1, q2, ⟨p0, p1, p2, p3⟩, -, -, -⟩ := HR2.out
    all_goals exact ⟨cell_put p0, (cell_other (by omega)).trans p1, (cell_other (by omega)).trans p2, by simpa using p3⟩
theorem reader1_c (c : UInt8) (G : Nat) (w : World) (hc : c.toNat = 110) : Calls Try.prog 39 #[.int .u8 (c.toNat : Int), .pointer (some ⟨G, 0, none⟩)] w fun e w' => e = .returned (.func (.func 60) #[] #[.pointer (some ⟨w.heap.size, 0, none⟩)]) ∧ w' = w.alloc (.cells #[.pointer (some ⟨G, 0, none⟩)] 69) := by
  have d1 : ((c.toNat : Int) == 110) = true := beq_iff_eq.2 (by omega)
  clear hc
  go_enter Try.func39, Try.ntmps39
  go_wp2_with fail
  go_ret
  exact ⟨rfl, rfl⟩
set_option maxRecDepth 100000 in
set_option maxHeartbeats 1600000 in
theorem rd2_c (F : ByteArray) (B G : Nat) (c : UInt8) (hc : c.toNat = 105) (w : World) (hs : F.size ≤ 1000000) (h : Rb B G w) : Calls Try.prog 62 #[.string F, .pointer (some ⟨B, 0, none⟩)] w (RdRes (takeC c F.data.toList) G w) := by
  have HR := Lib.hid h
  have HTC := Lib.hid (takeC_i hc F.data.toList)
  have HGB := Lib.hid (show G ≤ w.heap.size by have := h.lt; have := h.gb; omega)
  clear h
  cases ht : Ta.take 0 F.data.toList with
  | none =>
    have KT := Lib.hid (fun w => ptk2_none w hs ht)
    have HO := Lib.hid (show takeC c F.data.toList = none by rw [HTC.out, ht]; rfl)
    clear ht hc hs
    go_enter Try.func62, Try.ntmps62
    go_wp2_with fail
    obtain ⟨b0, b1, b2, ⟨g0, g1, g2, g3⟩, f0, f1, f2⟩ := HR.out
    go_region_with (first | (go_at_call 63; refine (KT.out _).mono ?_; rintro e w2 ⟨rfl, bb⟩; have HR2 := Lib.hid (HR.out.drew.later bb); have HB2 := Lib.hid ((Below.refl w.heap.size w).drew.trans bb); clear b0 b1 b2 g0 g1 g2 g3 f0 f1 f2; obtain ⟨b0, b1, b2, ⟨g0, g1, g2, g3⟩, f0, f1, f2⟩ := HR2.out; clear bb))
    all_goals go_wp2_with fail
    all_goals go_ret2
    all_goals exact rd_none HO.out ((HB2.out.mono HGB.out).setCell (p := ⟨G, 1, none⟩) (Nat.le_refl _) _)
  | some x =>
    obtain ⟨n, r⟩ := x
    have KT := Lib.hid (fun w => ptk2_some w hs ht)
    have HO := Lib.hid (show takeC c F.data.toList = some (⟨0, Tal.unz n, ⟨#[]⟩⟩, r) by rw [HTC.out, ht]; rfl)
    clear ht hc hs
    go_enter Try.func62, Try.ntmps62
    go_wp2_with fail
    obtain ⟨b0, b1, b2, ⟨g0, g1, g2, g3⟩, f0, f1, f2⟩ := HR.out
    go_region_with (first | (go_at_call 63; refine (KT.out _).mono ?_; rintro e w2 ⟨rfl, bb⟩; have HR2 := Lib.hid (HR.out.drew.later bb); have HB2 := Lib.hid ((Below.refl w.heap.size w).drew.trans bb); clear b0 b1 b2 g0 g1 g2 g3 f0 f1 f2; obtain ⟨b0, b1, b2, ⟨g0, g1, g2, g3⟩, f0, f1, f2⟩ := HR2.out; clear bb))
    all_goals go_wp2_with fail
    all_goals go_ret2
    all_goals refine rd_some HO.out ((HB2.out.mono HGB.out).setCell (p := ⟨G, 1, none⟩) (Nat.le_refl _) _) ?_
    all_goals obtain ⟨-, q1, q2, ⟨p0, p1, p2, p3⟩, -, -, -⟩ := HR2.out
    all_goals exact ⟨(cell_other (by omega)).trans p0, cell_put p1, (cell_other (by omega)).trans p2, by simpa using p3⟩
theorem reader2_c (c : UInt8) (G : Nat) (w : World) (hc : c.toNat = 105) : Calls Try.prog 39 #[.int .u8 (c.toNat : Int), .pointer (some ⟨G, 0, none⟩)] w fun e w' => e = .returned (.func (.func 62) #[] #[.pointer (some ⟨w.heap.size, 0, none⟩)]) ∧ w' = w.alloc (.cells #[.pointer (some ⟨G, 0, none⟩)] 69) := by
  have d1 : ((c.toNat : Int) == 110) = false := beq_eq_false_iff_ne.2 (by omega)
  have d2 : ((c.toNat : Int) == 105) = true := beq_iff_eq.2 (by omega)
  clear hc
  go_enter Try.func39, Try.ntmps39
  go_wp2_with fail
  go_ret
  exact ⟨rfl, rfl⟩
set_option maxRecDepth 100000 in
set_option maxHeartbeats 1600000 in
theorem rd3_c (F : ByteArray) (B G : Nat) (c : UInt8) (hc : c.toNat = 115) (w : World) (hs : F.size ≤ 1000000) (h : Rb B G w) : Calls Try.prog 64 #[.string F, .pointer (some ⟨B, 0, none⟩)] w (RdRes (takeC c F.data.toList) G w) := by
  have HR := Lib.hid h
  have HTC := Lib.hid (takeC_s hc F.data.toList)
  have HGB := Lib.hid (show G ≤ w.heap.size by have := h.lt; have := h.gb; omega)
  clear h
  cases ht : Ta.takeText F.data.toList with
  | none =>
    have KT := Lib.hid (fun w => ptk3_none w hs ht)
    have HO := Lib.hid (show takeC c F.data.toList = none by rw [HTC.out, ht]; rfl)
    clear ht hc hs
    go_enter Try.func64, Try.ntmps64
    go_wp2_with fail
    obtain ⟨b0, b1, b2, ⟨g0, g1, g2, g3⟩, f0, f1, f2⟩ := HR.out
    go_region_with (first | (go_at_call 65; refine (KT.out _).mono ?_; rintro e w2 ⟨rfl, bb⟩; have HR2 := Lib.hid (HR.out.drew.later bb); have HB2 := Lib.hid ((Below.refl w.heap.size w).drew.trans bb); clear b0 b1 b2 g0 g1 g2 g3 f0 f1 f2; obtain ⟨b0, b1, b2, ⟨g0, g1, g2, g3⟩, f0, f1, f2⟩ := HR2.out; clear bb))
    all_goals go_wp2_with fail
    all_goals go_ret2
    all_goals exact rd_none HO.out ((HB2.out.mono HGB.out).setCell (p := ⟨G, 2, none⟩) (Nat.le_refl _) _)
  | some x =>
    obtain ⟨n, r⟩ := x
    have KT := Lib.hid (fun w => ptk3_some w hs ht)
    have HO := Lib.hid (show takeC c F.data.toList = some (⟨0, 0, ⟨n.toArray⟩⟩, r) by rw [HTC.out, ht]; rfl)
    clear ht hc hs
    go_enter Try.func64, Try.ntmps64
    go_wp2_with fail
    obtain ⟨b0, b1, b2, ⟨g0, g1, g2, g3⟩, f0, f1, f2⟩ := HR.out
    go_region_with (first | (go_at_call 65; refine (KT.out _).mono ?_; rintro e w2 ⟨rfl, bb⟩; have HR2 := Lib.hid (HR.out.drew.later bb); have HB2 := Lib.hid ((Below.refl w.heap.size w).drew.trans bb); clear b0 b1 b2 g0 g1 g2 g3 f0 f1 f2; obtain ⟨b0, b1, b2, ⟨g0, g1, g2, g3⟩, f0, f1, f2⟩ := HR2.out; clear bb))
    all_goals go_wp2_with fail
    all_goals go_ret2
    all_goals refine rd_some HO.out ((HB2.out.mono HGB.out).setCell (p := ⟨G, 2, none⟩) (Nat.le_refl _) _) ?_
    all_goals obtain ⟨-, q1, q2, ⟨p0, p1, p2, p3⟩, -, -, -⟩ := HR2.out
    all_goals exact ⟨(cell_other (by omega)).trans p0, (cell_other (by omega)).trans p1, cell_put p2, by simpa using p3⟩
theorem reader3_c (c : UInt8) (G : Nat) (w : World) (hc : c.toNat = 115) : Calls Try.prog 39 #[.int .u8 (c.toNat : Int), .pointer (some ⟨G, 0, none⟩)] w fun e w' => e = .returned (.func (.func 64) #[] #[.pointer (some ⟨w.heap.size, 0, none⟩)]) ∧ w' = w.alloc (.cells #[.pointer (some ⟨G, 0, none⟩)] 69) := by
  have d1 : ((c.toNat : Int) == 110) = false := beq_eq_false_iff_ne.2 (by omega)
  have d2 : ((c.toNat : Int) == 105) = false := beq_eq_false_iff_ne.2 (by omega)
  clear hc
  go_enter Try.func39, Try.ntmps39
  go_wp2_with fail
  go_ret
  exact ⟨rfl, rfl⟩
end Go.Proofs.Ytialjglgkfcdmaa.Or
