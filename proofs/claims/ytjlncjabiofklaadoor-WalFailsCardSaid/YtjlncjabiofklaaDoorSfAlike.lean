/- Package sheaf: what reads leaves that are alike. -/
import Derived.Test.YtjlncjabiofklaaDoorSfRGet
namespace Go.Proofs.YtjlncjabiofklaaDoor.Shf
open Go.RowKit Tal
theorem pget_yes (s : ByteArray) (n : Nat) (c : List UInt8) (w : World) (h : Lf.get s.data.toList = some (n, c)) :
    Calls Tryd.prog 69 #[.string s] w fun e w' => e = .returned (.tuple #[.int .u64 n, .string ⟨c.toArray⟩, .bool true]) ∧ Below w.heap.size w w' := by
  have := Le.get_c s w
  rw [h] at this
  exact this
theorem pget_no (s : ByteArray) (w : World) (h : Lf.get s.data.toList = none) :
    Calls Tryd.prog 69 #[.string s] w fun e w' => e = .returned (.tuple #[.int .u64 0, .string ⟨#[]⟩, .bool false]) ∧ Below w.heap.size w w' := by
  have := Le.get_c s w
  rw [h] at this
  exact this
/-- The reader's boxes: what it points to, and the stamp there. -/
structure Ak (b1 b0 st : Nat) (w : World) : Prop where
  c1 : w.cell? ⟨b1, 0, none⟩ = some (.pointer (some ⟨b0, 0, none⟩))
  c0 : w.cell? ⟨b0, 0, none⟩ = some (.int .u64 st)
  f0 : w.frozen? ⟨b0, 0, none⟩ = false
  l1 : b1 < w.heap.size
  l0 : b0 < w.heap.size
  ne : b0 ≠ b1
theorem Ak.under {b1 b0 st B : Nat} {w w' : World} (h : Ak b1 b0 st w) (hb : Below B w w') (h1 : b1 < B) (h0 : b0 < B) : Ak b1 b0 st w' :=
  ⟨(hb.cell (p := ⟨b1, 0, none⟩) h1).trans h.c1, (hb.cell (p := ⟨b0, 0, none⟩) h0).trans h.c0, (hb.frozen (p := ⟨b0, 0, none⟩) h0).trans h.f0, Nat.lt_of_lt_of_le h.l1 hb.size, Nat.lt_of_lt_of_le h.l0 hb.size, h.ne⟩
theorem Ak.later {b1 b0 st : Nat} {w w' : World} (h : Ak b1 b0 st w) (hb : Below w.heap.size w w') : Ak b1 b0 st w' := h.under hb h.l1 h.l0
theorem Ak.set {b1 b0 st : Nat} {w : World} (h : Ak b1 b0 st w) (m : Nat) : Ak b1 b0 m (w.setCell ⟨b0, 0, none⟩ (.int .u64 m)) :=
  ⟨(World.cell?_setCell_other _ _ _ _ (by intro e; injection e with e; exact h.ne e)).trans h.c1, World.cell?_setCell_same' _ _ _ (by rw [h.c0]; rfl), by rw [World.frozen?_setCell]; exact h.f0, by simpa [World.setCell] using h.l1, by simpa [World.setCell] using h.l0, h.ne⟩
theorem alike_c (b0 : Nat) (w : World) :
    Calls Tryd.prog 59 #[.pointer (some ⟨b0, 0, none⟩)] w fun e w' => e = .returned (.func (.func 68) #[] #[.pointer (some ⟨w.heap.size, 0, none⟩)]) ∧ w' = w.alloc (.cells #[.pointer (some ⟨b0, 0, none⟩)] 105) := by
  have hmf := mk_fn
  go_enter Tryd.func59, Tryd.ntmps59
  go_wp2_with fail
  go_ret
  exact ⟨rfl, rfl⟩
set_option maxHeartbeats 800000 in
theorem ak_none (x : ByteArray) (b1 : Nat) (w : World) (h : Lf.get x.data.toList = none) :
    Calls Tryd.prog 68 #[.string x, .pointer (some ⟨b1, 0, none⟩)] w fun e w' => e = .returned (.tuple #[.string ⟨#[]⟩, .bool false]) ∧ Below w.heap.size w w' := by
  have KG := Lib.hid (pget_no x w h)
  clear h
  go_enter Tryd.func68, Tryd.ntmps68
  go_wp2_with fail
  refine KG.out.mono ?_
  rintro e w1 ⟨rfl, b⟩
  go_wp2_with fail
  go_ret2
  exact ⟨rfl, b⟩
set_option maxHeartbeats 800000 in
theorem ak_other (x : ByteArray) (b1 b0 st m : Nat) (c : List UInt8) (w : World) (hA : Ak b1 b0 st w) (h : Lf.get x.data.toList = some (m, c)) (h0 : st ≠ 0) (hne : m ≠ st) :
    Calls Tryd.prog 68 #[.string x, .pointer (some ⟨b1, 0, none⟩)] w fun e w' => e = .returned (.tuple #[.string ⟨#[]⟩, .bool false]) ∧ Below w.heap.size w w' := by
  have KG := Lib.hid (pget_yes x m c w h)
  have z1 : ((st : Int) != 0) = true := by rw [bne_iff_ne]; omega
  have z2 : ((m : Int) != (st : Int)) = true := by rw [bne_iff_ne]; omega
  have HA := Lib.hid hA
  clear h h0 hne hA
  go_enter Tryd.func68, Tryd.ntmps68
  go_wp2_with fail
  refine KG.out.mono ?_
  rintro e w1 ⟨rfl, b⟩
  obtain ⟨c1, c0, f0, l1, l0, ne⟩ := HA.out.later b
  go_wp2_with fail
  go_ret2
  exact ⟨rfl, b⟩
/-- What is left behind a leaf that is alike. -/
def AkRes (b0 m : Nat) (c : List UInt8) (w : World) (e : Ending) (w' : World) : Prop :=
  e = .returned (.tuple #[.string ⟨c.toArray⟩, .bool true]) ∧ ∃ w1, Below w.heap.size w w1 ∧ w' = w1.setCell ⟨b0, 0, none⟩ (.int .u64 m)
set_option maxHeartbeats 800000 in
theorem ak_first (x : ByteArray) (b1 b0 m : Nat) (c : List UInt8) (w : World) (hA : Ak b1 b0 0 w) (h : Lf.get x.data.toList = some (m, c)) :
    Calls Tryd.prog 68 #[.string x, .pointer (some ⟨b1, 0, none⟩)] w (AkRes b0 m c w) := by
  have KG := Lib.hid (pget_yes x m c w h)
  have HA := Lib.hid hA
  clear h hA
  go_enter Tryd.func68, Tryd.ntmps68
  go_wp2_with fail
  refine KG.out.mono ?_
  rintro e w1 ⟨rfl, b⟩
  obtain ⟨c1, c0, f0, l1, l0, ne⟩ := HA.out.later b
  go_wp2_with fail
  go_ret2
  exact ⟨rfl, _, b, rfl⟩
set_option maxHeartbeats 800000 in
theorem ak_again (x : ByteArray) (b1 b0 m : Nat) (c : List UInt8) (w : World) (hA : Ak b1 b0 m w) (h0 : m ≠ 0) (h : Lf.get x.data.toList = some (m, c)) :
    Calls Tryd.prog 68 #[.string x, .pointer (some ⟨b1, 0, none⟩)] w (AkRes b0 m c w) := by
  have KG := Lib.hid (pget_yes x m c w h)
  have HA := Lib.hid hA
  have z1 : ((m : Int) != 0) = true := by rw [bne_iff_ne]; omega
  clear h hA h0
  go_enter Tryd.func68, Tryd.ntmps68
  go_wp2_with fail
  refine KG.out.mono ?_
  rintro e w1 ⟨rfl, b⟩
  obtain ⟨c1, c0, f0, l1, l0, ne⟩ := HA.out.later b
  go_wp2_with fail
  go_ret2
  exact ⟨rfl, _, b, rfl⟩
/-- What the reader answers for any sector, once there is a stamp. -/
theorem ak_isOf (x : ByteArray) (b1 b0 n : Nat) (w : World) (hA : Ak b1 b0 n w) (h0 : n ≠ 0) (h : Sf.isOf n x.data.toList = true) :
    Calls Tryd.prog 68 #[.string x, .pointer (some ⟨b1, 0, none⟩)] w (AkRes b0 n (Lf.mid x.data.toList) w) := by
  unfold Sf.isOf at h
  cases hq : Lf.get x.data.toList with
  | none => rw [hq] at h; cases h
  | some y =>
    obtain ⟨m, c⟩ := y
    rw [hq] at h
    obtain rfl : m = n := by simpa using h
    have e := (Sf.leaf_of_get hq).2.2.2.1
    rw [← e]
    exact ak_again x b1 b0 m c w hA h0 hq
theorem ak_notOf (x : ByteArray) (b1 b0 n : Nat) (w : World) (hA : Ak b1 b0 n w) (h0 : n ≠ 0) (h : Sf.isOf n x.data.toList = false) :
    Calls Tryd.prog 68 #[.string x, .pointer (some ⟨b1, 0, none⟩)] w fun e w' => e = .returned (.tuple #[.string ⟨#[]⟩, .bool false]) ∧ Below w.heap.size w w' := by
  unfold Sf.isOf at h
  cases hq : Lf.get x.data.toList with
  | none => exact ak_none x b1 w hq
  | some y =>
    obtain ⟨m, c⟩ := y
    rw [hq] at h
    have hne : m ≠ n := by simpa using h
    exact ak_other x b1 b0 n m c w hA hq h0 hne
end Go.Proofs.YtjlncjabiofklaaDoor.Shf
