/- The contracts of package leaf: what is read. -/
import Derived.Test.YtbmlnodimcalgaaDoorLfRef2
import Derived.Lib.EndianBits
import Derived.Laws.BitsAllLaws
namespace Go.Proofs.YtbmlnodimcalgaaDoor.Le
open Go.RowKit Cm
theorem athead_c (i : Int) (w : World) : Calls Tryd.prog 37 #[.int .i64 i] w fun e w' => e = .returned (.int .i64 i) ∧ w = w' := by
  go_enter Tryd.func37, Tryd.ntmps37
  go_wp2_with fail
  go_ret
  exact ⟨rfl, rfl⟩
theorem atfoot_c (i : Int) (w : World) (h0 : 0 ≤ i) (h1 : i ≤ 63) : Calls Tryd.prog 38 #[.int .i64 i] w fun e w' => e = .returned (.int .i64 (63 - i)) ∧ w = w' := by
  go_enter Tryd.func38, Tryd.ntmps38
  go_wp2_with fail
  go_ret
  exact ⟨rfl, rfl⟩
theorem or_256 (a c : Nat) (ha : a < 72057594037927936) (hc : c < 256) : bits .or .u64 ((a : Int) * 256) (c : Int) = (a : Int) * 256 + (c : Int) := by
  have := u64_or_nat (a * 256) c (by omega) (by omega)
  rw [nat_join 8 (a * 256) c (by omega) (by omega)] at this
  have e1 : ((a * 256 : Nat) : Int) = (a : Int) * 256 := by omega
  rw [e1] at this
  omega
/-- What 'read' is told: a place for each of eight. -/
structure Places (f : Nat) (p : Nat → Nat) : Prop where
  call : ∀ (i : Nat) (w : World), i < 8 → Calls Tryd.prog f #[.int .i64 i] w fun e w' => e = .returned (.int .i64 (p i)) ∧ w = w'
  lt : ∀ i, i < 8 → p i < 64
theorem head_places : Places 37 (fun i => i) := ⟨fun i w _ => athead_c i w, fun i h => by omega⟩
theorem foot_places : Places 38 (fun i => 63 - i) := ⟨fun i w h => by
  have := atfoot_c (i : Int) w (by omega) (by omega)
  rwa [show (63 : Int) - (i : Int) = ((63 - i : Nat) : Int) by omega] at this, fun i _ => by omega⟩
def picked (s : List UInt8) (p : Nat → Nat) (k : Nat) : List UInt8 := (List.range k).map fun i => s.getD (p i) 0
theorem picked_succ (s : List UInt8) (p : Nat → Nat) (k : Nat) : picked s p (k + 1) = picked s p k ++ [s.getD (p k) 0] := by
  unfold picked; rw [List.range_succ, List.map_append]; rfl
theorem picked_small (s : List UInt8) (p : Nat → Nat) (k : Nat) (h : k < 8) : Lf.num (picked s p k) < 72057594037927936 := by
  have h1 := Lf.num_lt k (picked s p k) (by unfold picked; simp)
  have h2 : 256 ^ k ≤ 256 ^ 7 := Nat.pow_le_pow_right (by decide) (by omega)
  have h3 : 256 ^ 7 = 72057594037927936 := by decide
  omega
theorem picked_head (s : List UInt8) (h : s.length = 64) : picked s (fun i => i) 8 = s.take 8 := by
  refine List.ext_getElem (by unfold picked; simp; omega) fun j h1 h2 => ?_
  unfold picked
  have : j < 8 := by unfold picked at h1; simpa using h1
  simp [List.getD, show j < s.length by omega]
theorem picked_foot (s : List UInt8) (h : s.length = 64) : picked s (fun i => 63 - i) 8 = (s.drop 56).reverse := by
  refine List.ext_getElem (by unfold picked; simp; omega) fun j h1 h2 => ?_
  unfold picked
  have hj : j < 8 := by unfold picked at h1; simpa using h1
  have e : 56 + (s.length - 56 - 1 - j) = 63 - j := by omega
  simp [List.getD, List.getElem_reverse, show 63 - j < s.length by omega, e]
theorem getD_byte (s : ByteArray) (i : Nat) (h : i < s.size) : s.data.toList.getD i 0 = s[i] := by
  rw [List.getD_eq_getElem?_getD, List.getElem?_eq_getElem (by simpa using h)]
  simp
  rfl
set_option maxRecDepth 100000 in
set_option maxHeartbeats 800000 in
theorem read_head (s : ByteArray) (p : Nat → Nat) (w : World) (hp : Places 37 p) (hs : s.size = 64) :
    Calls Tryd.prog 36 #[.string s, .func (.func 37) #[] #[]] w fun e w' => e = .returned (.int .u64 (Lf.num (picked s.data.toList p 8))) ∧ Below w.heap.size w w' := by
  have HP := Lib.hid hp
  have HZ := Lib.hid hs
  have hz1 : s.size ≤ 64 := by omega
  have hz2 : 64 ≤ s.size := by omega
  clear hp hs
  go_enter Tryd.func36, Tryd.ntmps36
  go_wp2_with fail
  go_loopw [6, 9] (fun n i wr => ∃ (k : Nat) (C : Array Value), k ≤ 8 ∧ i = .int .i64 k ∧ n = .int .u64 (Lf.num (picked s.data.toList p k)) ∧ C.size = 8 ∧ wr = w.alloc (.cells C 82)) (fun _ i _ => 8 - (intOf i).toNat)
  case atStart => exact ⟨0, _, by omega, rfl, rfl, rfl, rfl⟩
  case round =>
    obtain ⟨k, C, hk, rfl, rfl, hC, rfl⟩ := hrel
    by_cases hlt : k < 8
    · have hpl : p k < s.size := by have := HP.out.lt k hlt; omega
      have hb : s[p k].toNat < 256 := s[p k].toNat_lt
      have hkc : k < C.size := by omega
      have HC := Lib.hid hC
      have hn := picked_small s.data.toList p k hlt
      have HT := Lib.hid (show Lf.num (picked s.data.toList p (k + 1)) = Lf.num (picked s.data.toList p k) * 256 + s[p k].toNat by
        rw [picked_succ, Lf.num_snoc]
        congr 2
        rw [getD_byte s _ hpl])
      have hor := or_256 (Lf.num (picked s.data.toList p k)) s[p k].toNat hn hb
      have hcell : (w.alloc (.cells C 82)).cell? ⟨w.heap.size, k, none⟩ = some C[k] := by rw [World.cell?_alloc_at _ _ _ _ rfl]; simp [hkc]
      have q0 : (0 : Int) ≤ (p k : Int) := by omega
      have q1 : (p k : Int) < (s.size : Int) := by omega
      clear hC
      generalize Lf.num (picked s.data.toList p k) = n at *
      go_wp2_with fail
      refine (HP.out.call k _ hlt).mono ?_
      rintro e w' ⟨rfl, rfl⟩
      go_wp2_with fail
      exact ⟨⟨k + 1, _, by omega, by simp, by rw [HT.out]; rfl, by simp [HC.out], rfl⟩, by simp [intOf]; omega⟩
    · obtain rfl : k = 8 := by omega
      go_wp2_with fail
      go_ret
      exact ⟨rfl, (Below.refl _ w).alloc (Nat.le_refl _) _⟩
set_option maxRecDepth 100000 in
set_option maxHeartbeats 800000 in
theorem read_foot (s : ByteArray) (p : Nat → Nat) (w : World) (hp : Places 38 p) (hs : s.size = 64) :
    Calls Tryd.prog 36 #[.string s, .func (.func 38) #[] #[]] w fun e w' => e = .returned (.int .u64 (Lf.num (picked s.data.toList p 8))) ∧ Below w.heap.size w w' := by
  have HP := Lib.hid hp
  have HZ := Lib.hid hs
  have hz1 : s.size ≤ 64 := by omega
  have hz2 : 64 ≤ s.size := by omega
  clear hp hs
  go_enter Tryd.func36, Tryd.ntmps36
  go_wp2_with fail
  go_loopw [6, 9] (fun n i wr => ∃ (k : Nat) (C : Array Value), k ≤ 8 ∧ i = .int .i64 k ∧ n = .int .u64 (Lf.num (picked s.data.toList p k)) ∧ C.size = 8 ∧ wr = w.alloc (.cells C 82)) (fun _ i _ => 8 - (intOf i).toNat)
  case atStart => exact ⟨0, _, by omega, rfl, rfl, rfl, rfl⟩
  case round =>
    obtain ⟨k, C, hk, rfl, rfl, hC, rfl⟩ := hrel
    by_cases hlt : k < 8
    · have hpl : p k < s.size := by have := HP.out.lt k hlt; omega
      have hb : s[p k].toNat < 256 := s[p k].toNat_lt
      have hkc : k < C.size := by omega
      have HC := Lib.hid hC
      have hn := picked_small s.data.toList p k hlt
      have HT := Lib.hid (show Lf.num (picked s.data.toList p (k + 1)) = Lf.num (picked s.data.toList p k) * 256 + s[p k].toNat by
        rw [picked_succ, Lf.num_snoc]
        congr 2
        rw [getD_byte s _ hpl])
      have hor := or_256 (Lf.num (picked s.data.toList p k)) s[p k].toNat hn hb
      have hcell : (w.alloc (.cells C 82)).cell? ⟨w.heap.size, k, none⟩ = some C[k] := by rw [World.cell?_alloc_at _ _ _ _ rfl]; simp [hkc]
      have q0 : (0 : Int) ≤ (p k : Int) := by omega
      have q1 : (p k : Int) < (s.size : Int) := by omega
      clear hC
      generalize Lf.num (picked s.data.toList p k) = n at *
      go_wp2_with fail
      refine (HP.out.call k _ hlt).mono ?_
      rintro e w' ⟨rfl, rfl⟩
      go_wp2_with fail
      exact ⟨⟨k + 1, _, by omega, by simp, by rw [HT.out]; rfl, by simp [HC.out], rfl⟩, by simp [intOf]; omega⟩
    · obtain rfl : k = 8 := by omega
      go_wp2_with fail
      go_ret
      exact ⟨rfl, (Below.refl _ w).alloc (Nat.le_refl _) _⟩
set_option maxRecDepth 100000 in
theorem ends_c (s : ByteArray) (w : World) : Calls Tryd.prog 19 #[.string s] w (EndsRes s.data.toList w) := by
  have hsz := sz_list s
  by_cases hl : s.size = 64
  · have HE := Lib.hid (ends_is s.data.toList (by rw [hsz]; exact hl))
    have hz : ((s.size : Int) != 64) = false := by rw [bne_eq_false_iff_eq]; omega
    have hz2 : ((s.size : Int) == 64) = true := beq_iff_eq.2 (by omega)
    have hle : s.size ≤ 64 := by omega
    have K1 := Lib.hid (fun w => (picked_head s.data.toList (by rw [hsz]; exact hl)) ▸ read_head s _ w head_places hl)
    have K2 := Lib.hid (fun w => (picked_foot s.data.toList (by rw [hsz]; exact hl)) ▸ read_foot s _ w foot_places hl)
    clear hl hsz
    go_enter Tryd.func19, Tryd.ntmps19
    go_wp2_with fail
    refine (K1.out _).mono ?_
    rintro e w1 ⟨rfl, b1⟩
    go_wp2_with fail
    refine (K2.out _).mono ?_
    rintro e w2 ⟨rfl, b2⟩
    go_wp2_with fail
    go_ret2
    unfold EndsRes
    rw [HE.out.1, HE.out.2]
    exact ⟨rfl, then_below b1 b2⟩
  · have HE := Lib.hid (ends_no s.data.toList (by rw [hsz]; exact hl))
    have hz : ((s.size : Int) != 64) = true := by rw [bne_iff_ne]; omega
    have hz2 : ((s.size : Int) == 64) = false := beq_eq_false_iff_ne.2 (by omega)
    clear hl hsz
    go_enter Tryd.func19, Tryd.ntmps19
    go_wp2_with fail
    go_ret2
    unfold EndsRes
    rw [HE.out.1, HE.out.2]
    exact ⟨rfl, Below.refl _ _⟩
theorem mid_two (s : ByteArray) : (s.extract 8 s.size).extract 0 48 = ⟨(Lf.mid s.data.toList).toArray⟩ := by
  rw [ext_drop, ext_take]
  simp [Lf.mid]
set_option maxRecDepth 100000 in
theorem get_c (s : ByteArray) (w : World) : Calls Tryd.prog 45 #[.string s] w (GetRes (Lf.get s.data.toList) w) := by
  have KE := Lib.hid (fun w => ends_c s w)
  unfold EndsRes at KE
  by_cases h0 : (Lf.ends s.data.toList).1 = 0
  · have HG := Lib.hid (get_0 _ h0)
    have hz : (((Lf.ends s.data.toList).1 : Int) == 0) = true := beq_iff_eq.2 (by omega)
    clear h0
    generalize (Lf.ends s.data.toList).1 = n at *
    generalize (Lf.ends s.data.toList).2 = m at *
    go_enter Tryd.func45, Tryd.ntmps45
    go_wp2_with fail
    refine (KE.out _).mono ?_
    rintro e w1 ⟨rfl, b1⟩
    go_wp2_with fail
    go_ret3
    rw [HG.out]
    exact ⟨rfl, b1⟩
  · have hz : (((Lf.ends s.data.toList).1 : Int) == 0) = false := beq_eq_false_iff_ne.2 (by omega)
    by_cases he : (Lf.ends s.data.toList).1 = (Lf.ends s.data.toList).2
    · have HG := Lib.hid (get_some _ h0 he)
      have h64 := ends_64 _ h0
      have hsz := sz_list s
      have hle : s.size ≤ 64 := by omega
      have q8 : (8 : Int) ≤ (s.size : Int) := by omega
      have q56 : (48 : Int) ≤ (s.size : Int) - 8 := by omega
      have HX := Lib.hid (mid_two s)
      rw [← he] at KE
      clear h0 he h64 hsz
      generalize (Lf.ends s.data.toList).1 = n at *
      generalize (Lf.ends s.data.toList).2 = m at *
      go_enter Tryd.func45, Tryd.ntmps45
      go_wp2_with fail
      refine (KE.out _).mono ?_
      rintro e w1 ⟨rfl, b1⟩
      go_wp2_with fail
      go_quiet (fail)
      go_wp2_with fail
      go_ret3
      rw [HG.out]
      exact ⟨by rw [HX.out]; rfl, ⟨b1.os, b1.tape, b1.output, b1.size, b1.block⟩⟩
    · have HG := Lib.hid (get_ne _ he)
      have hq : (((Lf.ends s.data.toList).1 : Int) == ((Lf.ends s.data.toList).2 : Int)) = false := beq_eq_false_iff_ne.2 (by omega)
      clear h0 he
      generalize (Lf.ends s.data.toList).1 = n at *
      generalize (Lf.ends s.data.toList).2 = m at *
      go_enter Tryd.func45, Tryd.ntmps45
      go_wp2_with fail
      refine (KE.out _).mono ?_
      rintro e w1 ⟨rfl, b1⟩
      go_wp2_with fail
      go_ret3
      rw [HG.out]
      exact ⟨rfl, b1⟩
end Go.Proofs.YtbmlnodimcalgaaDoor.Le
