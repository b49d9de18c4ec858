/- The contracts of the document's own answers for tally: what is put. -/
import Derived.Test.YtialjglgkfcdmaaTcRow
import Derived.Test.YtialjglgkfcdmaaCmRow
namespace Go.Proofs.Ytialjglgkfcdmaa.Tal
open Go.RowKit Cm
theorem low_up (c : UInt8) (h : 128 ≤ c.toNat) : UInt8.ofNat (c.toNat % 128 + 128) = c := by
  have := c.toNat_lt
  rw [show c.toNat % 128 + 128 = c.toNat by omega]; simp
def high (c : UInt8) : UInt8 := UInt8.ofNat (c.toNat % 128 + 128)
theorem map_up (m : Nat) : (Ta.up m).map high = Ta.up m := by
  have h := Ta.up_high m
  have : ∀ c ∈ Ta.up m, high c = c := fun c hc => low_up c (h c hc)
  rw [List.map_congr_left this, List.map_id']
/-- The document's way to a number's bytes. -/
theorem num_ref (n : Nat) (h : ¬ n < 128) : Ta.num n = (Ta.num (n / 128 - 1)).map high ++ [UInt8.ofNat (n % 128)] := by
  unfold Ta.num
  rw [List.map_append, map_up, Ta.up_pos (m := n / 128) (by omega)]
  simp only [List.map_cons, List.map_nil]
  have e : high (UInt8.ofNat ((n / 128 - 1) % 128)) = UInt8.ofNat (128 + (n / 128 - 1) % 128) := by
    unfold high
    have : (UInt8.ofNat ((n / 128 - 1) % 128)).toNat = (n / 128 - 1) % 128 := by simp; omega
    rw [this, show (n / 128 - 1) % 128 % 128 + 128 = 128 + (n / 128 - 1) % 128 by omega]
  rw [e]
theorem num_small (n : Nat) (h : n < 128) : Ta.num n = [UInt8.ofNat n] := by
  unfold Ta.num
  rw [show n / 128 = 0 by omega, show n % 128 = n by omega, Ta.up_zero]; rfl
theorem bytes_conv (w : World) (s : ByteArray) : ∃ cap w1, (convert 9 78 (.string s)).run Try.prog w = .ok (.slice (some ⟨w.heap.size, 0, none⟩) s.size cap) w1 ∧ RowAt w1 w.heap.size (s.data.toList.map bv) ∧ Below w.heap.size w w1 := by
  have hsz : s.data.toList.length = s.size := by simp
  refine ⟨_, _, run_bytes_of_string w _ _ _ s und_str und_bytes und_u8, ⟨by simp, fun j hj => ?_, fun j hj => ?_⟩, (Below.refl _ w).drew.alloc (Nat.le_refl _) _⟩
  · have hj' : j < s.data.size := by simpa using hj
    have h := World.cell?_alloc_mark w.drew (bytesRow s (grownCap w s.size 0 5)) 5 ((bytesRow s (grownCap w s.size 0 5)).size, (bytesRow s (grownCap w s.size 0 5)).size + 1) j
    rw [bytesRow_at s _ j hj'] at h
    refine Eq.trans h ?_
    simp [bv]
  · have hj' : j < s.data.size := by simpa using hj
    have h := World.frozen?_alloc_mark w.drew (bytesRow s (grownCap w s.size 0 5)) 5 (bytesRow s (grownCap w s.size 0 5)).size ((bytesRow s (grownCap w s.size 0 5)).size + 1) j
    refine Eq.trans h ?_
    have : s.data.size ≤ (bytesRow s (grownCap w s.size 0 5)).size := by unfold bytesRow; simp
    rw [decide_eq_false (by omega)]; rfl
/-- 'string(b)' of a row of bytes. -/
theorem row_str {w : World} {g cap : Nat} {l : List UInt8} (h : RowAt w g (l.map bv)) :
    (convert 78 9 (.slice (some ⟨g, 0, none⟩) l.length cap)).run Try.prog w = .ok (.string ⟨l.toArray⟩) w := by
  refine run_convert_bytes_back w _ _ _ ⟨g, 0, none⟩ cap l und_bytes und_u8 und_str ?_
  intro j hj
  have := h.cell j (by simpa using hj)
  rw [Go.WideShapes.add_plain, Nat.zero_add, this]
  simp [bv]
theorem one_str (w : World) (n : Nat) (h : n < 256) : (convert 78 9 (.slice (some ⟨w.heap.size, 0, none⟩) 1 1)).run Try.prog (w.alloc (.cells #[.int .u8 n] 5)) = .ok (.string ⟨#[UInt8.ofNat n]⟩) (w.alloc (.cells #[.int .u8 n] 5)) := by
  have e : (.int .u8 n : Value) = bv (UInt8.ofNat n) := by unfold bv; simp; omega
  have h2 := row_new w [bv (UInt8.ofNat n)] 5
  rw [e]
  exact row_str (l := [UInt8.ofNat n]) h2
theorem cat_mk (x : List UInt8) (s : ByteArray) : (⟨x.toArray⟩ : ByteArray) ++ s = ⟨(x ++ s.data.toList).toArray⟩ := by
  apply ByteArray.ext
  apply Array.ext'
  simp
set_option maxRecDepth 100000 in
set_option maxHeartbeats 800000 in
theorem refNum_c (n : Nat) : ∀ w : World, n < 18446744073709551616 → Calls Try.prog 57 #[.int .u64 n] w (PutRes (Ta.num n) w) := by
  induction n using Nat.strongRecOn with
  | _ n ih =>
    intro w hn
    by_cases hs : n < 128
    · have HN := Lib.hid (num_small n hs)
      have h1 := one_str w n (by omega)
      clear ih
      go_enter Try.func57, Try.ntmps57
      go_wp2_with fail
      go_ret
      rw [HN.out]
      exact ⟨rfl, (Below.refl _ w).alloc (Nat.le_refl _) _⟩
    · have HN := Lib.hid (num_ref n hs)
      have K := Lib.hid (ih (n / 128 - 1) (by omega))
      clear ih
      have e1 : ((n / 128 - 1 : Nat) : Int) = (n : Int) / 128 - 1 := by omega
      have E1 := Lib.hid e1
      clear e1
      have hl := Ta.num_len (n / 128 - 1) (by omega)
      generalize hL : Ta.num (n / 128 - 1) = l at *
      clear hL
      go_enter Try.func57, Try.ntmps57
      go_wp2_with fail
      rw [← E1.out]
      refine (K.out w (by omega)).mono ?_
      rintro e w1 ⟨rfl, b1⟩
      obtain ⟨cap, w2, hcv, hr, b2⟩ := bytes_conv w1 ⟨l.toArray⟩
      have HR := Lib.hid hr
      have B2 := Lib.hid (show Below w.heap.size w w2 from b1.trans (b2.mono b1.size))
      have hg : w.heap.size ≤ w1.heap.size := b1.size
      clear hr b1 b2 K
      go_wp2_with fail
      generalize w1.heap.size = g at *
      clear hcv
      go_loopw [4] (fun s4 wr => ∃ k : Nat, k ≤ l.length ∧ s4 = .int .i64 k ∧ RowAt wr g (mix (fun c => bv (high c)) bv l k) ∧ Below w.heap.size w wr) (fun s4 _ => l.length - (intOf s4).toNat)
      case atStart => exact ⟨0, by omega, rfl, by rw [mix_zero]; exact HR.out, B2.out⟩
      case round =>
        obtain ⟨k, hk, rfl, hrow, hB⟩ := hrel
        have HW := Lib.hid hrow
        have HB := Lib.hid hB
        clear hrow hB HR B2
        by_cases hlt : k < l.length
        · have hb : l[k].toNat < 256 := l[k].toNat_lt
          have hcell := HW.out.cell k (by rw [mix_len]; exact hlt)
          rw [mix_at _ _ _ _ hlt] at hcell
          have hcell2 : wr.cell? ⟨g, k, none⟩ = some (.int .u8 l[k].toNat) := hcell
          have hfree := HW.out.free k (by rw [mix_len]; exact hlt)
          have HV := Lib.hid (show bv (high l[k]) = .int .u8 ((l[k].toNat : Int) % 128 + 128) by unfold bv high; simp; omega)
          clear hcell
          go_wp2_with fail
          exact ⟨⟨k + 1, by omega, by simp, by rw [← HV.out, ← mix_set _ _ _ _ hlt]; exact HW.out.set k _, HB.out.setCell (by exact hg) _⟩, by simp [intOf]; omega⟩
        · have HW2 : RowAt wr g ((l.map high).map bv) := by
            have := HW.out
            rw [mix_all _ _ _ _ (by omega)] at this
            rw [List.map_map]
            exact this
          have hcs := row_str (cap := cap) HW2
          simp only [List.length_map] at hcs
          have h1 := one_str wr (n % 128) (by omega)
          rw [show ((n % 128 : Nat) : Int) = (n : Int) % 128 by omega] at h1
          clear HW2
          go_wp2_with fail
          go_ret
          refine ⟨?_, HB.out.alloc (Nat.le_trans hg (Nat.le_of_lt HW.out.lt)) _⟩
          rw [HN.out, cat_mk]
          rfl
/-- The number of an integer, as the document reckons it. -/
theorem refInt_c (n : Int) (w : World) (h0 : -9223372036854775808 ≤ n) (h1 : n ≤ 9223372036854775807) :
    Calls Try.prog 58 #[.int .i64 n] w (PutRes (Ta.num (zig n)) w) := by
  have K := Lib.hid (refNum_c (zig n) w (zig_lt n h0 h1))
  by_cases hn : n < 0
  · have e : ((zig n : Nat) : Int) = 2 * -(n + 1) + 1 := by unfold zig; rw [if_pos hn]; omega
    rw [e] at K
    clear e
    go_enter Try.func58, Try.ntmps58
    go_wp2_with fail
    refine K.out.mono ?_
    rintro e w1 ⟨rfl, b1⟩
    go_wp2_with fail
    go_ret
    exact ⟨rfl, b1⟩
  · have e : ((zig n : Nat) : Int) = 2 * n := by unfold zig; rw [if_neg hn]; omega
    rw [e] at K
    clear e
    go_enter Try.func58, Try.ntmps58
    go_wp2_with fail
    refine K.out.mono ?_
    rintro e w1 ⟨rfl, b1⟩
    go_wp2_with fail
    go_ret
    exact ⟨rfl, b1⟩
theorem refText_c (s : ByteArray) (w : World) (hs : s.size ≤ 1099511627776) :
    Calls Try.prog 59 #[.string s] w (PutRes (txt s.data.toList) w) := by
  have K := Lib.hid (refNum_c s.size w (by omega))
  have hl := Ta.num_len s.size (by omega)
  go_enter Try.func59, Try.ntmps59
  go_wp2_with fail
  refine K.out.mono ?_
  rintro e w1 ⟨rfl, b1⟩
  have hcat : (Ta.num s.size).length + s.size ≤ 9223372036854775807 := by omega
  go_wp2_with fail
  go_ret
  refine ⟨?_, b1⟩
  rw [cat_mk]
  simp [txt]
theorem cat_mk2 (x y : List UInt8) : (⟨x.toArray⟩ : ByteArray) ++ (⟨y.toArray⟩ : ByteArray) = ⟨(x ++ y).toArray⟩ := cat_mk x ⟨y.toArray⟩
theorem row_so_far (L : List ByteArray) (k : Nat) (hl : L.length ≤ 1073741824) (ht : total L ≤ 1073741824) : (Ta.num L.length ++ txts (L.take k)).length ≤ 1099511627776 := by
  have h1 := Ta.num_len L.length (by omega)
  have h2 := txts_len (L.take k) (fun x hx => by have := total_mem L x (List.mem_of_mem_take hx); omega)
  have h3 := total_take L k
  simp at h2 ⊢
  omega
end Go.Proofs.Ytialjglgkfcdmaa.Tal
